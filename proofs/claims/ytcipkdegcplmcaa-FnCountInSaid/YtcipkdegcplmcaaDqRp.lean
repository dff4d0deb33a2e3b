/-
  A deque repeated: by the model and by the program.
-/
import Derived.Test.YtcipkdegcplmcaaDqP
namespace Go.Proofs.Ytcipkdegcplmcaa
open Go.RowKit Go.Deep

def repN (xs : List Int) : Nat → List Int
  | 0 => []
  | n + 1 => repN xs n ++ xs
theorem repN_length (xs : List Int) (n : Nat) : (repN xs n).length = n * xs.length := by
  induction n with
  | zero => simp [repN]
  | succ n ih => rw [repN, List.length_append, ih, Nat.add_mul, Nat.one_mul]
theorem repN_ok {xs : List Int} (h : okN xs) (n : Nat) : okN (repN xs n) := by
  induction n with
  | zero => exact okN_nil
  | succ n ih => exact okN_append ih h
theorem repN_all {xs : List Int} (h : allN xs = true) (n : Nat) : allN (repN xs n) = true := by
  induction n with
  | zero => rfl
  | succ n ih =>
    unfold allN at *
    rw [repN, List.all_append, ih, h]
    rfl
theorem fitB_drop {Z : List Int} {m : Int} (h : 0 ≤ m) : fitB Z m = Z.drop (Z.length - m.toNat) := by
  unfold fitB
  split
  · rfl
  · rw [show Z.length - m.toNat = 0 by omega, List.drop_zero]
theorem fitB_neg {Z : List Int} {m : Int} (h : m < 0) : fitB Z m = Z := by
  unfold fitB
  rw [if_neg (by omega)]
theorem fit_fit (Z xs : List Int) (m : Int) : fitB (fitB Z m ++ xs) m = fitB (Z ++ xs) m := by
  rcases Int.lt_or_le m 0 with h | h
  · rw [fitB_neg h, fitB_neg h, fitB_neg h]
  · rw [fitB_drop h, fitB_drop h, fitB_drop h, ← List.drop_append_of_le_length (by omega), List.drop_drop, List.length_drop]
    congr 1
    rw [List.length_append]
    omega
theorem valid_rep {xs : List Int} {m : Int} (h : validD xs m = true) (k : Nat) : validD (fitB (repN xs k) m) m = true ↔ (m < 0 → k * xs.length ≤ 10) := by
  obtain ⟨h1, h2, h3, h4⟩ := validD_iff.1 h
  rcases Int.lt_or_le m 0 with hm | hm
  · rw [fitB_neg hm, validD_iff, repN_length]
    exact ⟨fun h _ => h.2.2.1, fun h => ⟨repN_all h1 k, h2, h hm, .inl hm⟩⟩
  · refine ⟨fun _ h => by omega, fun _ => ?_⟩
    have hl : ((fitB (repN xs k) m).length : Int) ≤ m := by rw [fitB_drop hm, List.length_drop]; omega
    refine validD_iff.2 ⟨allN_iff.2 fun x hx => allN_iff.1 (repN_all h1 k) x ?_, h2, by omega, .inr hl⟩
    rw [fitB_drop hm] at hx
    exact List.mem_of_mem_drop hx
theorem valid_less {xs : List Int} {m : Int} (h : validD xs m = true) {k n : Nat} (hkn : k ≤ n) (hf : validD (fitB (repN xs k) m) m = false) : validD (fitB (repN xs n) m) m = false := by
  cases e : validD (fitB (repN xs n) m) m
  · rfl
  · have h1 := (valid_rep h n).1 e
    have h2 := (valid_rep h k).2 fun hm => Nat.le_trans (Nat.mul_le_mul_right _ hkn) (h1 hm)
    rw [h2] at hf
    cases hf
def rgB10 (n : Int) : Bool := decide (0 ≤ n) && decide (n ≤ 10)
def rpL (xs : List Int) (m n : Int) : List Int := fitB (repN xs n.toNat) m
def rpB (xs : List Int) (m n : Int) : Bool := (validD xs m && rgB10 n) && validD (rpL xs m n) m
theorem rp_le (xs : List Int) (m n : Int) : (ifN (rpB xs m n) (rpL xs m n)).length ≤ 10000000 := ifN_le fun h => by
  unfold rpB at h
  rw [Bool.and_eq_true] at h
  exact validD_len h.2

/-! ### by the model -/
set_option maxHeartbeats 1600000 in
set_option maxRecDepth 100000 in
theorem sRepeatDeque_any (v : Value) (xs : List Int) (m n : Int) (w : World) (h : Nums w v xs) (hn : -9223372036854775808 ≤ n ∧ n ≤ 9223372036854775807) :
    Calls Try.prog 44 #[.agg #[v, .int .i64 m], .int .i64 n] w (NewD (ifN (rpB xs m n) (rpL xs m n)) (ifI (rpB xs m n) m) (rpB xs m n) w) := by
  have HX := Lib.hid h
  obtain ⟨ao, cap, rfl, hlc, hcm⟩ := h.slice
  obtain ⟨hn0, hn1⟩ := hn
  clear h
  go_enter Try.func44, Try.ntmps44
  have D := DFrame.new w (.slice ao xs.length cap) m
  have c0 := D.c0
  have c1 := D.c1
  cases hv : validD xs m
  all_goals
    have HV := Lib.hid hv
    clear hv
    go_wp2_with fail
    refine (svD_v _ (D.nums HX.out) HV.out).mono ?_
    rintro e w1 ⟨rfl, hb⟩
    have D1 := D.step hb
    clear hb c0 c1
    have r0 := D1.r0
    have r1 := D1.r1
    have f0 := D1.free 0
    have f1 := D1.free 1
  · go_wp2
    exact bodyPost_ret (v := okD (.slice none 0 0) 0 false) (by simp [okD, results, Try.results44, go_sem, r0, r1]) rfl (newD_no (and_no1 (and_no1 HV)) (D1.done _ _))
  · have hl := validD_len HV.out
    have hmm := validD_lim HV.out
    cases hr : rgB10 n
    all_goals
      have HR := Lib.hid hr
      go_wp2_with fail
      refine (rgN_v (lo := 0) (hi := 10) _ HR.out).mono ?_
      rintro e w2 ⟨rfl, rfl⟩
    · clear hr
      go_wp2
      exact bodyPost_ret (v := okD (.slice none 0 0) 0 false) (by simp [okD, results, Try.results44, go_sem, r0, r1]) rfl (newD_no (and_no1 (and_no2 HR)) (D1.done _ _))
    · have hn2 : 0 ≤ n ∧ n ≤ 10 := by unfold rgB10 at hr; simpa using hr
      clear hr r0 r1 f0 f1
      obtain ⟨N, rfl⟩ : ∃ N : Nat, n = N := ⟨n.toNat, by omega⟩
      obtain ⟨hn3, hn4⟩ := hn2
      have hsz := D1.size
      have hown0 := World.ownsRow_lit (base := w1.heap.size) (e := 3) (size := 1) w1 #[] 0 (Nat.le_refl _) (by unfold maxLen; omega) rfl
      go_wp2
      go_loopw [6, 7] (fun x i wr => ∃ p : Nat, p ≤ N ∧ i = .int .i64 p ∧ wr.ownsRow w1.heap.size 3 1 x (p * xs.length) (cellsN (repN xs p)) ∧ Below w1.heap.size w1 wr) (fun _ i _ => N - (intOf i).toNat)
      case atStart => exact ⟨0, Nat.zero_le _, rfl, by rw [Nat.zero_mul]; exact hown0, (Below.refl _ _).alloc (Nat.le_refl _) _⟩
      case round =>
        obtain ⟨p, hp, rfl, hrow, hbl⟩ := hrel
        have DR := D1.past hbl hsz
        have c0 := DR.c0
        have c1 := DR.c1
        have hpl : p * xs.length ≤ 100 := Nat.le_trans (Nat.mul_le_mul (show p ≤ 10 by omega) hl) (by omega)
        by_cases hlt : p < N
        · obtain ⟨xo, xcap, rfl, _, _⟩ := own_slice hrow
          go_wp2_with (at_builtin; refine wpl_append_nums _ rfl _ _ rfl w1.heap.size (.slice xo (p * xs.length) xcap) (p * xs.length) (cellsN (repN xs p)) rfl hrow (.slice ao xs.length cap) xs rfl (DR.nums HX.out) (by omega) (by omega) hbl.size ?_; intro v' w2 hown2 hgrow2)
          have hrow3 : w2.ownsRow w1.heap.size 3 1 v' ((p + 1) * xs.length) (cellsN (repN xs (p + 1))) := by
            rw [repN, cellsN_append, Nat.add_mul, Nat.one_mul]; exact hown2
          have hb3 := hbl.grown hgrow2 hbl.size (fun j hj => (hrow.lt j hj).1)
          clear hown2 hrow hgrow2 c0 c1
          go_roundw
          case rel => exact ⟨p + 1, by omega, by go_num, hrow3, hb3⟩
          case measure => simp [intOf]; omega
        · obtain rfl : p = N := by omega
          have HO := Lib.hid (OwnN.of hrow (repN_ok HX.out.ok p))
          have hre : (repN xs p).length ≤ 1000000 := by rw [repN_length]; omega
          have HRE := Lib.hid hre
          obtain ⟨xo, xcap, rfl, _, _⟩ := own_slice hrow
          clear hre hrow
          go_wp2_with fail
          refine (fitBack_any _ (repN xs p) m _ HO.out.nums HRE.out hmm.1 hmm.2).mono ?_
          rintro e w3 ⟨v3, rfl, ho, hb⟩
          have D3 := DR.step hb
          have hszR := DR.size
          have HO3 := Lib.hid ho.own
          clear ho hb c0 c1
          go_wp2_with fail
          refine (schkD_any _ (rpL xs m p) m _ HO3.out (Nat.le_refl _)).mono ?_
          rintro e w4 ⟨v4, rfl, ho, hb⟩
          have D4 := D3.step hb
          obtain ⟨yo, ycap, rfl, _, _⟩ := ho.nums.slice
          obtain ⟨C, hC⟩ : ∃ C, C = chkN (rpL xs m p) m := ⟨_, rfl⟩
          obtain ⟨M, hM⟩ : ∃ M, M = chkM (rpL xs m p) m := ⟨_, rfl⟩
          obtain ⟨B, hB⟩ : ∃ B, B = validD (rpL xs m p) m := ⟨_, rfl⟩
          have HF : Hid (∀ w' : World, OwnN w.heap.size w'.heap.size w' (.slice yo C.length ycap) C → Below w.heap.size w w' → NewD (ifN (rpB xs m p) (rpL xs m p)) (ifI (rpB xs m p) m) (rpB xs m p) w (.returned (okD (.slice yo C.length ycap) M B)) w') := by
            intro w' h1 h2
            rw [hM, hB]
            rw [hC] at h1 ⊢
            exact newD_chk (and_yes HV HR) h1 h2
          rw [← hC] at ho ⊢
          rw [← hM, ← hB]
          have HO4 := Lib.hid ho
          clear ho hb hC hM hB
          have r0 := D4.r0
          have r1 := D4.r1
          have f0 := D4.free 0
          have f1 := D4.free 1
          go_wp2
          exact bodyPost_ret (v := okD (.slice yo C.length ycap) M B) (by simp [okD, results, Try.results44, go_sem, r0, r1]) rfl (HF.out _ (D4.own HO4.out hszR _ _) (D4.done _ _))

/-! ### by the program -/
theorem areN_of {xs : List Int} {m : Int} (h : validD xs m = true) : areN xs = true := by
  obtain ⟨h1, _, h3, _⟩ := validD_iff.1 h
  unfold areN
  rw [h1]
  simp; omega
theorem rp_next {xs : List Int} {m : Int} {b : Bool} (j : Nat) (h : validD xs m = true) (hj : validD (rpL xs m j) m = true) (hb : validD (rpL xs m ((j + 1 : Nat) : Int)) m = b) : adB (rpL xs m j) xs m m = b ∧ extL (rpL xs m j) xs m = rpL xs m ((j + 1 : Nat) : Int) := by
  have e : extL (rpL xs m j) xs m = rpL xs m ((j + 1 : Nat) : Int) := by
    unfold extL rpL
    rw [Int.toNat_natCast, Int.toNat_natCast, fit_fit]
    rfl
  refine ⟨?_, e⟩
  unfold adB extB
  rw [e, hb, h, hj, areN_of h]
  rfl
theorem AddRep {v u : Value} {xs : List Int} {m : Int} {b : Bool} (j : Nat) (w : World) (h : Nums w v (rpL xs m j)) (h' : Nums w u xs) (hv : validD xs m = true) (hj : validD (rpL xs m j) m = true) (hb : validD (rpL xs m ((j + 1 : Nat) : Int)) m = b) :
    Calls Try.prog 41 #[.agg #[v, .int .i64 m], .agg #[u, .int .i64 m]] w (NewD (ifN b (rpL xs m ((j + 1 : Nat) : Int))) (ifI b m) b w) := by
  obtain ⟨e1, e2⟩ := rp_next j hv hj hb
  have := AddDeques_any v u (rpL xs m j) xs m m w h h'
  rw [e1, e2] at this
  exact this
theorem rpL_zero (xs : List Int) (m : Int) : rpL xs m ((0 : Nat) : Int) = [] := by
  unfold rpL repN fitB
  simp
theorem rp_fail {xs : List Int} {m : Int} {j N : Nat} (h : Hid (validD xs m = true)) (hj : j < N) (hf : Hid (validD (rpL xs m ((j + 1 : Nat) : Int)) m = false)) : Hid (rpB xs m (N : Int) = false) := by
  show _ = _
  unfold rpB
  have := hf.out
  unfold rpL at this ⊢
  rw [Int.toNat_natCast] at this ⊢
  rw [valid_less h.out (show j + 1 ≤ N by omega) this, Bool.and_false]
theorem rp_good {xs : List Int} {m : Int} {N : Nat} (h : Hid (validD xs m = true)) (hN : (N : Int) ≤ 10) (hf : validD (rpL xs m N) m = true) : Hid (rpB xs m (N : Int) = true) := by
  show _ = _
  unfold rpB rgB10
  rw [h.out, hf]
  simp; omega
/-- The box of the deque so far, and what it holds. -/
structure RpSt (w w1 wr : World) (xs : List Int) (m : Int) (j : Nat) (x : Value) : Prop where
  box : wr.heap[w1.heap.size]? = some (.cells #[x, .int .i64 m] 25 (0, 0))
  own : OwnN (w1.heap.size + 1) wr.heap.size wr x (rpL xs m j)
  below : Below w1.heap.size w1 wr
  ok : validD (rpL xs m j) m = true
set_option maxHeartbeats 1600000 in
set_option maxRecDepth 100000 in
theorem RepeatDeque_any (v : Value) (xs : List Int) (m n : Int) (w : World) (h : Nums w v xs) (hn : -9223372036854775808 ≤ n ∧ n ≤ 9223372036854775807) :
    Calls Try.prog 38 #[.agg #[v, .int .i64 m], .int .i64 n] w (NewD (ifN (rpB xs m n) (rpL xs m n)) (ifI (rpB xs m n) m) (rpB xs m n) w) := by
  have HX := Lib.hid h
  obtain ⟨ao, cap, rfl, hlc, hcm⟩ := h.slice
  obtain ⟨hn0, hn1⟩ := hn
  clear h
  go_enter Try.func38, Try.ntmps38
  have D := DFrame.new w (.slice ao xs.length cap) m
  have c0 := D.c0
  have c1 := D.c1
  cases hv : validD xs m
  all_goals
    have HV := Lib.hid hv
    clear hv
    go_wp2_with fail
    refine (VD_v _ (D.nums HX.out) HV.out).mono ?_
    rintro e w1 ⟨rfl, hb⟩
    have D1 := D.step hb
    clear hb c0 c1
    have r0 := D1.r0
    have r1 := D1.r1
    have f0 := D1.free 0
    have f1 := D1.free 1
  · go_wp2
    exact bodyPost_ret (v := okD (.slice none 0 0) 0 false) (by simp [okD, results, Try.results38, go_sem, r0, r1]) rfl (newD_no (and_no1 (and_no1 HV)) (D1.done _ _))
  · by_cases hnn : 0 ≤ n ∧ n ≤ 10
    · clear r0 r1 f0 f1
      have c0 := D1.c0
      have c1 := D1.c1
      obtain ⟨N, rfl⟩ : ∃ N : Nat, n = N := ⟨n.toNat, by omega⟩
      obtain ⟨hn3, hn4⟩ := hnn
      have hsz := D1.size
      go_wp2
      go_loopw [25] (fun i wr => ∃ (j : Nat) (x : Value), j ≤ N ∧ i = .int .i64 j ∧ RpSt w w1 wr xs m j x) (fun i _ => N - (intOf i).toNat)
      case atStart =>
        refine ⟨0, .slice none 0 0, Nat.zero_le _, rfl, ?_, ?_, ?_, ?_⟩
        · exact heap_new _ _
        · rw [rpL_zero]; exact OwnN.none (by omega)
        · exact (Below.refl _ _).alloc (Nat.le_refl _) _
        · have := (valid_rep HV.out 0).2 (fun _ => by omega)
          exact this
      case round =>
        obtain ⟨j, x, hj, rfl, S⟩ := hrel
        have DR := D1.past S.below hsz
        have q0 := two_cell0 S.box
        have q1 := two_cell1 S.box
        have HSB := Lib.hid S.box
        have hszr : w1.heap.size < wr.heap.size := lt_of_block S.box
        by_cases hlt : j < N
        · have c0 := DR.c0
          have c1 := DR.c1
          cases hB : validD (rpL xs m ((j + 1 : Nat) : Int)) m
          all_goals
            have HB := Lib.hid hB
            clear hB
            go_wp2_with fail
            refine (AddRep j _ S.own.nums (DR.nums HX.out) HV.out S.ok HB.out).mono ?_
            rintro e w2 ⟨v2, rfl, ho, hb⟩
            have D2 := DR.step hb
            have G2 := two_below S.box hb hszr
            have hszw : wr.heap.size ≤ w2.heap.size := hb.size
            obtain ⟨xo, xcap, rfl, _, _⟩ := ho.nums.slice
            have HBL := Lib.hid (S.below.trans (hb.mono (by omega)))
            clear hb c0 c1 q0 q1
          · obtain ⟨L, hL⟩ : ∃ L, L = ifN false (rpL xs m ((j + 1 : Nat) : Int)) := ⟨_, rfl⟩
            obtain ⟨M, hM⟩ : ∃ M, M = ifI false m := ⟨_, rfl⟩
            rw [← hL, ← hM]
            clear ho hL hM
            have D3 := D2.step ((Below.refl _ _).alloc (Nat.le_refl _) (.cells #[.slice xo L.length xcap, .int .i64 M] 25))
            have r0 := D3.r0
            have r1 := D3.r1
            have f0 := D3.free 0
            have f1 := D3.free 1
            go_wp2
            exact bodyPost_ret (v := okD (.slice none 0 0) 0 false) (by simp [okD, results, Try.results38, go_sem, r0, r1]) rfl (newD_no (rp_fail HV hlt HB) (D3.done _ _))
          · obtain ⟨L, hL⟩ : ∃ L, L = ifN true (rpL xs m ((j + 1 : Nat) : Int)) := ⟨_, rfl⟩
            obtain ⟨M, hM⟩ : ∃ M, M = ifI true m := ⟨_, rfl⟩
            rw [← hL] at ho ⊢
            rw [← hM]
            have HO := Lib.hid ho
            have HL : Hid (L = rpL xs m ((j + 1 : Nat) : Int)) := hL
            have HM : Hid (M = m) := hM
            clear ho hL hM
            have G3 := heap_old G2 (.cells #[.slice xo L.length xcap, .int .i64 M] 25)
            have g0 := two_cell0 (heap_new w2 (.cells #[.slice xo L.length xcap, .int .i64 M] 25))
            have g1 := two_cell1 (heap_new w2 (.cells #[.slice xo L.length xcap, .int .i64 M] 25))
            have q0 := two_cell0 G3
            have q1 := two_cell1 G3
            have p0 := two_free G3 0
            have p1 := two_free G3 1
            go_wp2
            go_roundw
            case rel =>
              refine ⟨j + 1, .slice xo L.length xcap, by omega, by go_num, ?_, ?_, ?_, ?_⟩
              · rw [← HM.out]
                exact two_set1 (two_set0 G3 _) _
              · rw [← HL.out]
                exact ((HO.out.below ((Below.refl _ _).alloc (Nat.le_refl _) _) (Nat.le_refl _)).keeps (((Keeps.refl _ _).setCell (by simp [In]; omega) _).setCell (by simp [In]; omega) _)).wide (by omega) (by simp)
              · exact ((HBL.out.alloc HBL.out.size _).setCell (by simp) _).setCell (by simp) _
              · exact HB.out
            case measure => simp [intOf]; omega
        · obtain rfl : j = N := by omega
          obtain ⟨xo, xcap, rfl, _, _⟩ := S.own.nums.slice
          have r0 := DR.r0
          have r1 := DR.r1
          have f0 := DR.free 0
          have f1 := DR.free 1
          go_wp2
          exact bodyPost_ret (v := okD (.slice xo (rpL xs m j).length xcap) m true) (by simp [okD, results, Try.results38, go_sem, r0, r1]) rfl (newD_yes (rp_good HV hn4 S.ok) (DR.own S.own (by omega) _ _) (DR.done _ _))
    · have HR : Hid (rgB10 n = false) := by
        show _ = _
        unfold rgB10
        rw [Bool.eq_false_iff]
        simpa using hnn
      have hk2 : n < 0 ∨ 10 < n := by omega
      rcases hk2 with hk2 | hk2
      all_goals
        go_wp2
        exact bodyPost_ret (v := okD (.slice none 0 0) 0 false) (by simp [okD, results, Try.results38, go_sem, r0, r1]) rfl (newD_no (and_no1 (and_no2 HR)) (D1.done _ _))
end Go.Proofs.Ytcipkdegcplmcaa
