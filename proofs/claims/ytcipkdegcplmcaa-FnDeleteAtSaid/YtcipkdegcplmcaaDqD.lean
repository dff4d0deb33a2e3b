/-
  A number set, deleted, inserted, removed: by the program.
-/
import Derived.Test.YtcipkdegcplmcaaDqZ
namespace Go.Proofs.Ytcipkdegcplmcaa
open Go.RowKit Go.Deep

def delN (xs : List Int) (i : Int) : List Int := xs.take i.toNat ++ xs.drop (i.toNat + 1)
def setN (xs : List Int) (i x : Int) : List Int := xs.set i.toNat x
def insN (xs : List Int) (i x : Int) : List Int := xs.take i.toNat ++ [x] ++ xs.drop i.toNat
theorem spl_del (xs : List Int) (i : Nat) : splL xs [] i (i + 1) = delN xs i := by simp [splL, delN]
theorem spl_set {xs : List Int} {i : Nat} (h : i < xs.length) (x : Int) : splL xs [x] i (i + 1) = setN xs i x := by
  simp only [splL, setN, Int.toNat_natCast]
  rw [List.set_eq_take_append_cons_drop, if_pos h, List.append_assoc]
  rfl
theorem spl_ins (xs : List Int) (i : Nat) (x : Int) : splL xs [x] i i = insN xs i x := by simp [splL, insN]
theorem valid_del {xs : List Int} {m : Int} (h : validD xs m = true) (i : Int) : validD (delN xs i) m = true := by
  obtain ⟨h1, h2, h3, h4⟩ := validD_iff.1 h
  have hl : (delN xs i).length ≤ xs.length := by
    unfold delN
    rw [List.length_append, List.length_take, List.length_drop]
    omega
  refine validD_iff.2 ⟨allN_iff.2 fun x hx => allN_iff.1 h1 x ?_, h2, by omega, by omega⟩
  unfold delN at hx
  rcases List.mem_append.1 hx with hx | hx
  · exact List.mem_of_mem_take hx
  · exact List.mem_of_mem_drop hx
/-- What DeleteAt, RemoveFirst answer for the place q. -/
def dlB (q : Int) : Bool := decide (0 ≤ q)
theorem dlB_yes {q : Int} (h : 0 ≤ q) : dlB q = true := decide_eq_true h
theorem dlB_no {q : Int} (h : q < 0) : dlB q = false := decide_eq_false (by omega)
def stB (xs : List Int) (m q x : Int) : Bool := dlB q && validD (setN xs q x) m
def isB (xs : List Int) (m q x : Int) : Bool := validD xs m && validD (insN xs q x) m
theorem dl_le {xs : List Int} {q : Int} (h : 0 ≤ q → xs.length ≤ 10) : (ifN (dlB q) (delN xs q)).length ≤ 10000000 := ifN_le fun hb => by
  have := h (of_decide_eq_true hb)
  unfold delN
  rw [List.length_append, List.length_take, List.length_drop]
  omega
theorem st_le (xs : List Int) (m q x : Int) : (ifN (stB xs m q x) (setN xs q x)).length ≤ 10000000 := ifN_le fun hb => by
  unfold stB at hb
  rw [Bool.and_eq_true] at hb
  exact validD_len hb.2
theorem is_le (xs : List Int) (m q x : Int) : (ifN (isB xs m q x) (insN xs q x)).length ≤ 10000000 := ifN_le fun hb => by
  unfold isB at hb
  rw [Bool.and_eq_true] at hb
  exact validD_len hb.2
theorem cast_succ (i : Nat) : (i : Int) + 1 = ((i + 1 : Nat) : Int) := rfl

set_option maxHeartbeats 1600000 in
set_option maxRecDepth 100000 in
theorem DeleteAt_gen (v : Value) (xs : List Int) (m k : Int) (w : World) (h : Nums w v xs) (hk : -9223372036854775808 ≤ k ∧ k ≤ 9223372036854775807)  (L : List Int) (N : Int) (B : Bool)
    (HE : ∀ i : Nat, i < xs.length → inD xs m k = i → ∀ v u w, Nums w v xs → Nums w u [] → Calls Try.prog 73 #[.agg #[v, .int .i64 m], .int .i64 i, .int .i64 ((i + 1 : Nat) : Int), u] w (NewD L N B w))
    (HN : inD xs m k < 0 → L = [] ∧ N = 0 ∧ B = false) :
    Calls Try.prog 28 #[.agg #[v, .int .i64 m], .int .i64 k] w (NewD L N B w) := by
  have HX := Lib.hid h
  have HEE := Lib.hid HE
  have HNN := Lib.hid HN
  obtain ⟨ao, cap, rfl, hlc, hcm⟩ := h.slice
  clear h HE HN
  have HI := (show -1 ≤ inD xs m k ∧ (0 ≤ inD xs m k → inD xs m k < xs.length) from ⟨inD_bd.1, fun h => (inD_bd.2 h).1⟩)
  obtain ⟨q, hq⟩ : ∃ q, q = inD xs m k := ⟨_, rfl⟩
  rw [← hq] at HI
  have HQ := Lib.hid hq
  clear hq
  go_enter Try.func28, Try.ntmps28
  have D := DFrame.new w (.slice ao xs.length cap) m
  have c0 := D.c0
  have c1 := D.c1
  go_wp2_with fail
  refine (indexOf_v _ (D.nums HX.out) hk).mono ?_
  rintro e w1 ⟨rfl, hb⟩
  rw [← HQ.out]
  have D1 := D.step hb
  clear hb c0 c1
  have c0 := D1.c0
  have c1 := D1.c1
  by_cases hq0 : q < 0
  · obtain ⟨h1, h2, h3⟩ := HNN.out (by rw [← HQ.out]; exact hq0)
    have r0 := D1.r0
    have r1 := D1.r1
    have f0 := D1.free 0
    have f1 := D1.free 1
    subst h1 h2 h3
    go_wp2
    exact bodyPost_ret (v := okD (.slice none 0 0) 0 false) (by simp [okD, results, Try.results28, go_sem, r0, r1]) rfl (newD_of (OwnN.none (by omega)) (D1.done _ _))
  · obtain ⟨i, rfl⟩ : ∃ i : Nat, q = i := ⟨q.toNat, by omega⟩
    have hlt : i < xs.length := by have := HI.2 (by omega); omega
    have hsz := D1.size
    clear HI
    go_wp2_with fail
    have DA := D1
    rw [cast_succ i]
    refine (HEE.out i hlt HQ.out.symm _ _ _ (DA.nums HX.out) (Nums.nil _)).mono ?_
    rintro e w2 ⟨v2, rfl, ho, hb⟩
    have D2 := DA.step hb
    obtain ⟨xo, xcap, rfl, _, _⟩ := ho.nums.slice
    have HO := Lib.hid ho
    have hszA := DA.size
    clear ho hb c0 c1
    have r0 := D2.r0
    have r1 := D2.r1
    have f0 := D2.free 0
    have f1 := D2.free 1
    go_wp2
    exact bodyPost_ret (v := okD (.slice xo L.length xcap) N B) (by simp [okD, results, Try.results28, go_sem, r0, r1]) rfl (newD_of (D2.own HO.out hszA _ _) (D2.done _ _))

set_option maxHeartbeats 1600000 in
set_option maxRecDepth 100000 in
theorem SetAt_gen (v : Value) (xs : List Int) (m k x : Int) (w : World) (h : Nums w v xs) (hk : -9223372036854775808 ≤ k ∧ k ≤ 9223372036854775807) (hx : -9223372036854775808 ≤ x ∧ x ≤ 9223372036854775807) (L : List Int) (N : Int) (B : Bool)
    (HE : ∀ i : Nat, i < xs.length → inD xs m k = i → ∀ v u w, Nums w v xs → Nums w u [x] → Calls Try.prog 73 #[.agg #[v, .int .i64 m], .int .i64 i, .int .i64 ((i + 1 : Nat) : Int), u] w (NewD L N B w))
    (HN : inD xs m k < 0 → L = [] ∧ N = 0 ∧ B = false) :
    Calls Try.prog 24 #[.agg #[v, .int .i64 m], .int .i64 k, .int .i64 x] w (NewD L N B w) := by
  have HX := Lib.hid h
  have HEE := Lib.hid HE
  have HNN := Lib.hid HN
  obtain ⟨ao, cap, rfl, hlc, hcm⟩ := h.slice
  clear h HE HN
  have HI := (show -1 ≤ inD xs m k ∧ (0 ≤ inD xs m k → inD xs m k < xs.length) from ⟨inD_bd.1, fun h => (inD_bd.2 h).1⟩)
  obtain ⟨q, hq⟩ : ∃ q, q = inD xs m k := ⟨_, rfl⟩
  rw [← hq] at HI
  have HQ := Lib.hid hq
  clear hq
  go_enter Try.func24, Try.ntmps24
  have D := DFrame.new w (.slice ao xs.length cap) m
  have c0 := D.c0
  have c1 := D.c1
  go_wp2_with fail
  refine (indexOf_v _ (D.nums HX.out) hk).mono ?_
  rintro e w1 ⟨rfl, hb⟩
  rw [← HQ.out]
  have D1 := D.step hb
  clear hb c0 c1
  have c0 := D1.c0
  have c1 := D1.c1
  by_cases hq0 : q < 0
  · obtain ⟨h1, h2, h3⟩ := HNN.out (by rw [← HQ.out]; exact hq0)
    have r0 := D1.r0
    have r1 := D1.r1
    have f0 := D1.free 0
    have f1 := D1.free 1
    subst h1 h2 h3
    go_wp2
    exact bodyPost_ret (v := okD (.slice none 0 0) 0 false) (by simp [okD, results, Try.results24, go_sem, r0, r1]) rfl (newD_of (OwnN.none (by omega)) (D1.done _ _))
  · obtain ⟨i, rfl⟩ : ∃ i : Nat, q = i := ⟨q.toNat, by omega⟩
    have hlt : i < xs.length := by have := HI.2 (by omega); omega
    have hsz := D1.size
    clear HI
    go_wp2_with fail
    have DA := D1.step ((Below.refl _ _).alloc (Nat.le_refl _) (.cells #[.int .i64 x] 3))
    have hn := Nums_one w1 x 3 hx
    rw [cast_succ i]
    refine (HEE.out i hlt HQ.out.symm _ _ _ (DA.nums HX.out) hn).mono ?_
    rintro e w2 ⟨v2, rfl, ho, hb⟩
    have D2 := DA.step hb
    obtain ⟨xo, xcap, rfl, _, _⟩ := ho.nums.slice
    have HO := Lib.hid ho
    have hszA := DA.size
    clear ho hb c0 c1
    have r0 := D2.r0
    have r1 := D2.r1
    have f0 := D2.free 0
    have f1 := D2.free 1
    go_wp2
    exact bodyPost_ret (v := okD (.slice xo L.length xcap) N B) (by simp [okD, results, Try.results24, go_sem, r0, r1]) rfl (newD_of (D2.own HO.out hszA _ _) (D2.done _ _))

theorem DeleteAt_any (v : Value) (xs : List Int) (m k : Int) (w : World) (h : Nums w v xs) (hk : -9223372036854775808 ≤ k ∧ k ≤ 9223372036854775807) :
    Calls Try.prog 28 #[.agg #[v, .int .i64 m], .int .i64 k] w (NewD (ifN (dlB (inD xs m k)) (delN xs (inD xs m k))) (ifI (dlB (inD xs m k)) m) (dlB (inD xs m k)) w) :=
  DeleteAt_gen v xs m k w h hk _ _ _ (fun i hi hq v u w h h' => by
    have h2 := inD_bd.2 (show 0 ≤ inD xs m k by omega)
    have h3 := spliced_any v u xs [] m i (i + 1) w h h' (validD_len h2.2.1) (by omega) (by omega) (by simp)
    rw [spl_del, valid_del h2.2.1] at h3
    rw [hq, dlB_yes (by omega)]
    exact h3) (fun hq => by rw [dlB_no hq]; exact ⟨rfl, rfl, rfl⟩)
theorem SetAt_any (v : Value) (xs : List Int) (m k x : Int) (w : World) (h : Nums w v xs) (hk : -9223372036854775808 ≤ k ∧ k ≤ 9223372036854775807) (hx : -9223372036854775808 ≤ x ∧ x ≤ 9223372036854775807) :
    Calls Try.prog 24 #[.agg #[v, .int .i64 m], .int .i64 k, .int .i64 x] w (NewD (ifN (stB xs m (inD xs m k) x) (setN xs (inD xs m k) x)) (ifI (stB xs m (inD xs m k) x) m) (stB xs m (inD xs m k) x) w) :=
  SetAt_gen v xs m k x w h hk hx _ _ _ (fun i hi hq v u w h h' => by
    have h2 := inD_bd.2 (show 0 ≤ inD xs m k by omega)
    have h3 := spliced_any v u xs [x] m i (i + 1) w h h' (validD_len h2.2.1) (by omega) (by omega) (by simp)
    rw [spl_set hi] at h3
    rw [hq]
    unfold stB
    rw [dlB_yes (by omega), Bool.true_and]
    exact h3) (fun hq => by unfold stB; rw [dlB_no hq]; exact ⟨rfl, rfl, rfl⟩)

set_option maxHeartbeats 1600000 in
set_option maxRecDepth 100000 in
theorem InsertAt_gen (v : Value) (xs : List Int) (m k x : Int) (w : World) (h : Nums w v xs) (hk : -9223372036854775808 ≤ k ∧ k ≤ 9223372036854775807) (hx : -9223372036854775808 ≤ x ∧ x ≤ 9223372036854775807) (L : List Int) (N : Int) (B : Bool)
    (HE : ∀ i : Nat, i ≤ xs.length → validD xs m = true → clp k xs.length = i → ∀ v u w, Nums w v xs → Nums w u [x] → Calls Try.prog 73 #[.agg #[v, .int .i64 m], .int .i64 i, .int .i64 i, u] w (NewD L N B w))
    (HN : validD xs m = false → L = [] ∧ N = 0 ∧ B = false) :
    Calls Try.prog 30 #[.agg #[v, .int .i64 m], .int .i64 k, .int .i64 x] w (NewD L N B w) := by
  have HX := Lib.hid h
  have HEE := Lib.hid HE
  have HNN := Lib.hid HN
  obtain ⟨ao, cap, rfl, hlc, hcm⟩ := h.slice
  clear h HE HN
  go_enter Try.func30, Try.ntmps30
  have D := DFrame.new w (.slice ao xs.length cap) m
  have c0 := D.c0
  have c1 := D.c1
  cases hv : validD xs m
  all_goals
    have HV := Lib.hid hv
    clear hv
    go_wp2_with fail
    refine (VD_v _ (D.nums HX.out) HV.out).mono ?_
    rintro e w1 ⟨rfl, hb⟩
    have D1 := D.step hb
    clear hb c0 c1
    have c0 := D1.c0
    have c1 := D1.c1
  · obtain ⟨h1, h2, h3⟩ := HNN.out HV.out
    have r0 := D1.r0
    have r1 := D1.r1
    have f0 := D1.free 0
    have f1 := D1.free 1
    subst h1 h2 h3
    go_wp2
    exact bodyPost_ret (v := okD (.slice none 0 0) 0 false) (by simp [okD, results, Try.results30, go_sem, r0, r1]) rfl (newD_of (OwnN.none (by omega)) (D1.done _ _))
  · have hl := validD_len HV.out
    obtain ⟨i, hi, hle⟩ := clp_nat k xs.length
    have HI := Lib.hid hi
    clear hi
    go_wp2_with fail
    refine (boundOf_v _ hk (by omega) HI.out).mono ?_
    rintro e w2 ⟨rfl, rfl⟩
    have DA := D1.step ((Below.refl _ _).alloc (Nat.le_refl _) (.cells #[.int .i64 x] 3))
    have hn := Nums_one w1 x 3 hx
    go_wp2_with fail
    refine (HEE.out i hle HV.out HI.out _ _ _ (DA.nums HX.out) hn).mono ?_
    rintro e w2 ⟨v2, rfl, ho, hb⟩
    have D2 := DA.step hb
    obtain ⟨xo, xcap, rfl, _, _⟩ := ho.nums.slice
    have HO := Lib.hid ho
    have hszA := DA.size
    clear ho hb c0 c1
    have r0 := D2.r0
    have r1 := D2.r1
    have f0 := D2.free 0
    have f1 := D2.free 1
    go_wp2
    exact bodyPost_ret (v := okD (.slice xo L.length xcap) N B) (by simp [okD, results, Try.results30, go_sem, r0, r1]) rfl (newD_of (D2.own HO.out hszA _ _) (D2.done _ _))
theorem InsertAt_any (v : Value) (xs : List Int) (m k x : Int) (w : World) (h : Nums w v xs) (hk : -9223372036854775808 ≤ k ∧ k ≤ 9223372036854775807) (hx : -9223372036854775808 ≤ x ∧ x ≤ 9223372036854775807) :
    Calls Try.prog 30 #[.agg #[v, .int .i64 m], .int .i64 k, .int .i64 x] w (NewD (ifN (isB xs m (clp k xs.length) x) (insN xs (clp k xs.length) x)) (ifI (isB xs m (clp k xs.length) x) m) (isB xs m (clp k xs.length) x) w) :=
  InsertAt_gen v xs m k x w h hk hx _ _ _ (fun i hi hv hq v u w h h' => by
    have h3 := spliced_any v u xs [x] m i i w h h' (validD_len hv) (Nat.le_refl _) hi (by simp)
    rw [spl_ins] at h3
    rw [hq]
    unfold isB
    rw [hv, Bool.true_and]
    exact h3) (fun hv => by unfold isB; rw [hv]; exact ⟨rfl, rfl, rfl⟩)
end Go.Proofs.Ytcipkdegcplmcaa
