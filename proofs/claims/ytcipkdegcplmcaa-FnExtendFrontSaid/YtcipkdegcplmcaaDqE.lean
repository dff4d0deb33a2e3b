/-
  Numbers put behind a deque's, or ahead of them: by the model and by the program.
-/
import Derived.Test.YtcipkdegcplmcaaDqT
namespace Go.Proofs.Ytcipkdegcplmcaa
open Go.RowKit Go.Deep

def extL (xs ys : List Int) (m : Int) : List Int := fitB (xs ++ ys) m
def exfL (xs ys : List Int) (m : Int) : List Int := fitF (ys.reverse ++ xs) m
def extB (xs ys : List Int) (m : Int) : Bool := (validD xs m && areN ys) && validD (extL xs ys m) m
def exfB (xs ys : List Int) (m : Int) : Bool := (validD xs m && areN ys) && validD (exfL xs ys m) m
theorem ext_le (xs ys : List Int) (m : Int) : (ifN (extB xs ys m) (extL xs ys m)).length ≤ 10000000 := ifN_le fun h => by
  unfold extB at h
  rw [Bool.and_eq_true] at h
  exact validD_len h.2
theorem exf_le (xs ys : List Int) (m : Int) : (ifN (exfB xs ys m) (exfL xs ys m)).length ≤ 10000000 := ifN_le fun h => by
  unfold exfB at h
  rw [Bool.and_eq_true] at h
  exact validD_len h.2
theorem fitF_le (xs : List Int) (m : Int) : (fitF xs m).length ≤ xs.length := by
  unfold fitF
  split
  · rw [List.length_take]; omega
  · exact Nat.le_refl _
/-- What a checked result is, told by what it was asked. -/
theorem newD_chk {w w' : World} {v : Value} {xs : List Int} {m : Int} {b : Bool} (hb : Hid (b = true)) (ho : OwnN w.heap.size w'.heap.size w' v (chkN xs m)) (h : Below w.heap.size w w') : NewD (ifN (b && validD xs m) xs) (ifI (b && validD xs m) m) (b && validD xs m) w (.returned (okD v (chkM xs m) (validD xs m))) w' := by
  rw [hb.out, Bool.true_and]
  exact ⟨_, rfl, ho, h⟩
theorem app_own {w' : World} {base : Nat} {v' : Value} {xs ys : List Int} (h1 : okN xs) (h2 : okN ys) (h : w'.ownsRow base 3 1 v' (xs.length + ys.length) (cellsN xs ++ cellsN ys)) : OwnR w' base v' (xs ++ ys) := by
  refine ⟨?_, okN_append h1 h2⟩
  rw [cellsN_append, List.length_append]
  exact h

set_option maxHeartbeats 3200000 in
set_option maxRecDepth 100000 in
theorem sExtendBack_any (v u : Value) (xs ys : List Int) (m : Int) (w : World) (h : Nums w v xs) (h' : Nums w u ys) :
    Calls Try.prog 15 #[.agg #[v, .int .i64 m], u] w (NewD (ifN (extB xs ys m) (extL xs ys m)) (ifI (extB xs ys m) m) (extB xs ys m) w) := by
  have HX := Lib.hid h
  have HY := Lib.hid h'
  obtain ⟨ao, cap, rfl, _, _⟩ := h.slice
  obtain ⟨bo, bap, rfl, _, _⟩ := h'.slice
  clear h h'
  go_enter Try.func15, Try.ntmps15
  have D := DFrame.new w (.slice ao xs.length cap) m
  have c0 := D.c0
  have c1 := D.c1
  cases hv : validD xs m
  all_goals
    have HV := Lib.hid hv
    clear hv
    go_wp2_with fail
    refine (svD_v _ (D.nums HX.out) HV.out).mono ?_
    rintro e w1 ⟨rfl, hb⟩
    have D1 := D.step hb
    clear hb c0 c1
    have r0 := D1.r0
    have r1 := D1.r1
    have f0 := D1.free 0
    have f1 := D1.free 1
  · go_wp2
    exact bodyPost_ret (v := okD (.slice none 0 0) 0 false) (by simp [okD, results, Try.results15, go_sem, r0, r1]) rfl (newD_no (and_no1 (and_no1 HV)) (D1.done _ _))
  · clear r0 r1 f0 f1
    have hl := validD_len HV.out
    have hmm := validD_lim HV.out
    cases hm : areN ys
    all_goals
      have HM := Lib.hid hm
      go_wp2_with fail
      refine (svI_v _ (D1.nums HY.out) HM.out).mono ?_
      rintro e w2 ⟨rfl, hb⟩
      have D2 := D1.step hb
      clear hb
    · clear hm
      have r0 := D2.r0
      have r1 := D2.r1
      have f0 := D2.free 0
      have f1 := D2.free 1
      go_wp2
      exact bodyPost_ret (v := okD (.slice none 0 0) 0 false) (by simp [okD, results, Try.results15, go_sem, r0, r1]) rfl (newD_no (and_no1 (and_no2 HM)) (D2.done _ _))
    · have hq := (areN_iff.1 hm).1
      clear hm
      have hsz := D2.size
      have c0 := D2.c0
      have c1 := D2.c1
      have DD : DFrame w w2.drew (.slice ao xs.length cap) m := ⟨D2.arg, D2.res, D2.below.drew⟩
      have HRL : Hid (xs.length = xs.length) := by rfl
      go_wp2_with fail
      go_region_law (first
        | (go_simp; go_at_call 65; refine (copyInts_any _ xs _ (DD.nums HX.out) (by omega)).mono ?_; rintro e w3 ⟨v3, rfl, ho3, hb3⟩; have D3 := DD.step hb3; have k0 := D3.c0; have k1 := D3.c1)
        | (refine step_append_nums _ rfl (.tmp 17) (.tmp 18) rfl _ v3 _ _ (by simp [Act.eval]) ho3.1 (.slice bo ys.length bap) ys (by simp [Act.eval]) (D3.nums HY.out) (by have := HRL.out; omega) (by omega) hb3.size ?_; intro v4 w4 hown4 hgrow4; have hb4 := hb3.grown hgrow4 hb3.size (fun j hj => (ho3.1.lt j hj).1); have ho4 := app_own ho3.2 HY.out.ok hown4; have D4 := DD.step hb4; have k0 := D4.c0; have k1 := D4.c1)
        | (go_simp; go_at_call 64; refine (fitBack_any v4 (xs ++ ys) m _ ho4.nums (by have := HRL.out; rw [List.length_append]; omega) hmm.1 hmm.2).mono ?_; rintro e w5 ⟨v5, rfl, ho5, hb5⟩; have D5 := D4.step hb5)
        | (go_simp; go_at_call 63; refine (schkD_any v5 (extL xs ys m) m _ ho5.own (Nat.le_refl _)).mono ?_; rintro e w6 ⟨v6, rfl, ho6, hb6⟩; have D6 := D5.step hb6; obtain ⟨xo, xcap, rfl, _, _⟩ := ho6.nums.slice; have HO := Lib.hid ho6; have r0 := D6.r0; have r1 := D6.r1; have f0 := D6.free 0; have f1 := D6.free 1))
      all_goals go_wp2
      all_goals exact bodyPost_ret (v := okD (.slice xo (chkN (extL xs ys m) m).length xcap) (chkM (extL xs ys m) m) (validD (extL xs ys m) m)) (by simp [okD, results, Try.results15, go_sem, r0, r1]) rfl (newD_chk (and_yes HV HM) (D6.own HO.out (Nat.le_trans hsz hb4.size) _ _) (D6.done _ _))

set_option maxHeartbeats 3200000 in
set_option maxRecDepth 100000 in
theorem sExtendFront_any (v u : Value) (xs ys : List Int) (m : Int) (w : World) (h : Nums w v xs) (h' : Nums w u ys) :
    Calls Try.prog 21 #[.agg #[v, .int .i64 m], u] w (NewD (ifN (exfB xs ys m) (exfL xs ys m)) (ifI (exfB xs ys m) m) (exfB xs ys m) w) := by
  have HX := Lib.hid h
  have HY := Lib.hid h'
  obtain ⟨ao, cap, rfl, _, _⟩ := h.slice
  obtain ⟨bo, bap, rfl, _, _⟩ := h'.slice
  clear h h'
  go_enter Try.func21, Try.ntmps21
  have D := DFrame.new w (.slice ao xs.length cap) m
  have c0 := D.c0
  have c1 := D.c1
  cases hv : validD xs m
  all_goals
    have HV := Lib.hid hv
    clear hv
    go_wp2_with fail
    refine (svD_v _ (D.nums HX.out) HV.out).mono ?_
    rintro e w1 ⟨rfl, hb⟩
    have D1 := D.step hb
    clear hb c0 c1
    have r0 := D1.r0
    have r1 := D1.r1
    have f0 := D1.free 0
    have f1 := D1.free 1
  · go_wp2
    exact bodyPost_ret (v := okD (.slice none 0 0) 0 false) (by simp [okD, results, Try.results21, go_sem, r0, r1]) rfl (newD_no (and_no1 (and_no1 HV)) (D1.done _ _))
  · clear r0 r1 f0 f1
    have hl := validD_len HV.out
    have hmm := validD_lim HV.out
    cases hm : areN ys
    all_goals
      have HM := Lib.hid hm
      go_wp2_with fail
      refine (svI_v _ (D1.nums HY.out) HM.out).mono ?_
      rintro e w2 ⟨rfl, hb⟩
      have D2 := D1.step hb
      clear hb
    · clear hm
      have r0 := D2.r0
      have r1 := D2.r1
      have f0 := D2.free 0
      have f1 := D2.free 1
      go_wp2
      exact bodyPost_ret (v := okD (.slice none 0 0) 0 false) (by simp [okD, results, Try.results21, go_sem, r0, r1]) rfl (newD_no (and_no1 (and_no2 HM)) (D2.done _ _))
    · have hq := (areN_iff.1 hm).1
      clear hm
      have hsz := D2.size
      have c0 := D2.c0
      have c1 := D2.c1
      have DD : DFrame w w2.drew (.slice ao xs.length cap) m := ⟨D2.arg, D2.res, D2.below.drew⟩
      have HRL : Hid (ys.reverse.length = ys.length) := by exact List.length_reverse
      go_wp2_with fail
      go_region_law (first
        | (go_simp; go_at_call 69; refine (turned_any _ ys _ (DD.nums HY.out) (by omega)).mono ?_; rintro e w3 ⟨v3, rfl, ho3, hb3⟩; have D3 := DD.step hb3; have k0 := D3.c0; have k1 := D3.c1)
        | (refine step_append_nums _ rfl (.tmp 16) (.tmp 18) rfl _ v3 _ _ (by simp [Act.eval]) ho3.1 (.slice ao xs.length cap) xs (by simp [Act.eval]) (D3.nums HX.out) (by have := HRL.out; omega) (by omega) hb3.size ?_; intro v4 w4 hown4 hgrow4; have hb4 := hb3.grown hgrow4 hb3.size (fun j hj => (ho3.1.lt j hj).1); have ho4 := app_own ho3.2 HX.out.ok hown4; have D4 := DD.step hb4; have k0 := D4.c0; have k1 := D4.c1)
        | (go_simp; go_at_call 68; refine (fitFront_any v4 (ys.reverse ++ xs) m _ ho4.nums (by have := HRL.out; rw [List.length_append]; omega) ).mono ?_; rintro e w5 ⟨v5, rfl, ho5, hb5⟩; have D5 := D4.step hb5)
        | (go_simp; go_at_call 63; refine (schkD_any v5 (exfL xs ys m) m _ ho5.own (Nat.le_refl _)).mono ?_; rintro e w6 ⟨v6, rfl, ho6, hb6⟩; have D6 := D5.step hb6; obtain ⟨xo, xcap, rfl, _, _⟩ := ho6.nums.slice; have HO := Lib.hid ho6; have r0 := D6.r0; have r1 := D6.r1; have f0 := D6.free 0; have f1 := D6.free 1))
      all_goals go_wp2
      all_goals exact bodyPost_ret (v := okD (.slice xo (chkN (exfL xs ys m) m).length xcap) (chkM (exfL xs ys m) m) (validD (exfL xs ys m) m)) (by simp [okD, results, Try.results21, go_sem, r0, r1]) rfl (newD_chk (and_yes HV HM) (D6.own HO.out (Nat.le_trans hsz hb4.size) _ _) (D6.done _ _))

set_option maxHeartbeats 3200000 in
set_option maxRecDepth 100000 in
theorem ExtendBack_any (v u : Value) (xs ys : List Int) (m : Int) (w : World) (h : Nums w v xs) (h' : Nums w u ys) :
    Calls Try.prog 14 #[.agg #[v, .int .i64 m], u] w (NewD (ifN (extB xs ys m) (extL xs ys m)) (ifI (extB xs ys m) m) (extB xs ys m) w) := by
  have HX := Lib.hid h
  have HY := Lib.hid h'
  have HK := Lib.hid h'.inK
  obtain ⟨ao, cap, rfl, _, _⟩ := h.slice
  obtain ⟨bo, bap, rfl, _, _⟩ := h'.slice
  clear h h'
  go_enter Try.func14, Try.ntmps14
  have D := DFrame.new w (.slice ao xs.length cap) m
  have c0 := D.c0
  have c1 := D.c1
  cases hv : validD xs m
  all_goals
    have HV := Lib.hid hv
    clear hv
    go_wp2_with fail
    refine (VD_v _ (D.nums HX.out) HV.out).mono ?_
    rintro e w1 ⟨rfl, hb⟩
    have D1 := D.step hb
    clear hb c0 c1
    have c0 := D1.c0
    have r0 := D1.r0
    have r1 := D1.r1
    have f0 := D1.free 0
    have f1 := D1.free 1
  · go_wp2
    exact bodyPost_ret (v := okD (.slice none 0 0) 0 false) (by simp [okD, results, Try.results14, go_sem, r0, r1]) rfl (newD_no (and_no1 (and_no1 HV)) (D1.done _ _))
  · have hl := validD_len HV.out
    have hmm := validD_lim HV.out
    cases hm : areN ys
    all_goals
      have HM := Lib.hid hm
      go_wp2_with fail
      refine (are_v _ (D1.nums HY.out) HM.out).mono ?_
      rintro e w2 ⟨rfl, rfl⟩
    · clear hm
      go_wp2
      exact bodyPost_ret (v := okD (.slice none 0 0) 0 false) (by simp [okD, results, Try.results14, go_sem, r0, r1]) rfl (newD_no (and_no1 (and_no2 HM)) (D1.done _ _))
    · have hq := (areN_iff.1 hm).1
      clear hm
      have hsz := D1.size
      obtain ⟨hm1, hm2⟩ := hmm
      go_wp2_with fail
      refine (rowOf_any _ xs _ (D1.nums HX.out) (by omega)).mono ?_
      rintro e w2 ⟨rfl, hr, hb⟩
      have HR := Lib.hid hr
      have D2 := D1.step hb
      clear hr hb c0 r0 r1 f0 f1
      go_wp2_with fail
      refine (extendBack_any _ ys _ HR.out (D2.nums HY.out) (by omega)).mono ?_
      rintro e w3 ⟨rfl, hr, hb⟩
      rw [new_append (by omega), Nat.add_assoc, ← List.length_append] at hr
      have hla : (xs ++ ys).length = xs.length + ys.length := List.length_append
      have HLA := Lib.hid hla
      clear hla
      have HR3 := Lib.hid hr
      have D3 := D2.past hb hsz
      clear hr hb
      have c1 := D3.c1
      go_wp2_with fail
      refine (keepLast_any m _ HR3.out (by have := HLA.out; omega) (by have := HLA.out; omega) hm1 hm2).mono ?_
      rintro e w4 ⟨rfl, hr, hb⟩
      have HR4 := Lib.hid hr
      have D4 := D3.past hb hsz
      clear hr hb c1
      have c1 := D4.c1
      have HI : Hid (itemsR (newRowN (xs ++ ys)) (keepL 10 (10 + (xs ++ ys).length) m) (10 + (xs ++ ys).length) = extL xs ys m) := by show _ = _; exact items_last hm1
      have hkk : keepL 10 (10 + (xs ++ ys).length) m ≤ 10 + (xs ++ ys).length ∧ 10 + (xs ++ ys).length ≤ 30 := by have := HLA.out; unfold keepL; split <;> omega
      have HKK := Lib.hid hkk
      clear hkk
      go_wp2_with fail
      refine (deque_any m _ HR4.out (okN_new (okN_append HX.out.ok HY.out.ok)) (by have := HKK.out; omega) (by have := HKK.out; omega)).mono ?_
      rw [HI.out]
      rintro e w5 ⟨v5, rfl, ho, hb⟩
      have D5 := D4.step hb
      have hsz4 := D4.size
      have HO := Lib.hid ho
      clear ho hb c1
      go_wp2_with fail
      refine (chkD_any v5 (extL xs ys m) m _ HO.out (Nat.le_refl _)).mono ?_
      rintro e w6 ⟨v6, rfl, ho, hb⟩
      have D6 := D5.step hb
      obtain ⟨xo, xcap, rfl, _, _⟩ := ho.nums.slice
      have HO6 := Lib.hid ho
      clear ho hb
      have r0 := D6.r0
      have r1 := D6.r1
      have f0 := D6.free 0
      have f1 := D6.free 1
      go_wp2
      exact bodyPost_ret (v := okD (.slice xo (chkN (extL xs ys m) m).length xcap) (chkM (extL xs ys m) m) (validD (extL xs ys m) m)) (by simp [okD, results, Try.results14, go_sem, r0, r1]) rfl (newD_chk (and_yes HV HM) (D6.own HO6.out hsz4 _ _) (D6.done _ _))

set_option maxHeartbeats 3200000 in
set_option maxRecDepth 100000 in
theorem ExtendFront_any (v u : Value) (xs ys : List Int) (m : Int) (w : World) (h : Nums w v xs) (h' : Nums w u ys) :
    Calls Try.prog 20 #[.agg #[v, .int .i64 m], u] w (NewD (ifN (exfB xs ys m) (exfL xs ys m)) (ifI (exfB xs ys m) m) (exfB xs ys m) w) := by
  have HX := Lib.hid h
  have HY := Lib.hid h'
  have HK := Lib.hid h'.inK
  obtain ⟨ao, cap, rfl, _, _⟩ := h.slice
  obtain ⟨bo, bap, rfl, _, _⟩ := h'.slice
  clear h h'
  go_enter Try.func20, Try.ntmps20
  have D := DFrame.new w (.slice ao xs.length cap) m
  have c0 := D.c0
  have c1 := D.c1
  cases hv : validD xs m
  all_goals
    have HV := Lib.hid hv
    clear hv
    go_wp2_with fail
    refine (VD_v _ (D.nums HX.out) HV.out).mono ?_
    rintro e w1 ⟨rfl, hb⟩
    have D1 := D.step hb
    clear hb c0 c1
    have c0 := D1.c0
    have r0 := D1.r0
    have r1 := D1.r1
    have f0 := D1.free 0
    have f1 := D1.free 1
  · go_wp2
    exact bodyPost_ret (v := okD (.slice none 0 0) 0 false) (by simp [okD, results, Try.results20, go_sem, r0, r1]) rfl (newD_no (and_no1 (and_no1 HV)) (D1.done _ _))
  · have hl := validD_len HV.out
    have hmm := validD_lim HV.out
    cases hm : areN ys
    all_goals
      have HM := Lib.hid hm
      go_wp2_with fail
      refine (are_v _ (D1.nums HY.out) HM.out).mono ?_
      rintro e w2 ⟨rfl, rfl⟩
    · clear hm
      go_wp2
      exact bodyPost_ret (v := okD (.slice none 0 0) 0 false) (by simp [okD, results, Try.results20, go_sem, r0, r1]) rfl (newD_no (and_no1 (and_no2 HM)) (D1.done _ _))
    · have hq := (areN_iff.1 hm).1
      clear hm
      have hsz := D1.size
      obtain ⟨hm1, hm2⟩ := hmm
      go_wp2_with fail
      refine (rowOf_any _ xs _ (D1.nums HX.out) (by omega)).mono ?_
      rintro e w2 ⟨rfl, hr, hb⟩
      have HR := Lib.hid hr
      have D2 := D1.step hb
      clear hr hb c0 r0 r1 f0 f1
      go_wp2_with fail
      refine (extendFront_any _ ys _ HR.out (D2.nums HY.out) (HK.out.mono (fun k hk => by omega)) (by omega) (by omega)).mono ?_
      rintro e w3 ⟨rfl, hr, hb⟩
      skip
      have HR3 := Lib.hid hr
      have D3 := D2.past hb hsz
      clear hr hb
      have c1 := D3.c1
      go_wp2_with fail
      refine (keepFirst_any m _ HR3.out (by omega) (by omega) hm1 hm2).mono ?_
      rintro e w4 ⟨rfl, hr, hb⟩
      have HR4 := Lib.hid hr
      have D4 := D3.past hb hsz
      clear hr hb c1
      have c1 := D4.c1
      have HI : Hid (itemsR (frontN (newRowN xs) 10 ys) (10 - ys.length) (keepF (10 - ys.length) (10 + xs.length) m) = exfL xs ys m) := by show _ = _; exact items_first hq hm1
      have hkk : 10 - ys.length ≤ keepF (10 - ys.length) (10 + xs.length) m ∧ keepF (10 - ys.length) (10 + xs.length) m ≤ 30 := by unfold keepF; split <;> omega
      have HKK := Lib.hid hkk
      clear hkk
      go_wp2_with fail
      refine (deque_any m _ HR4.out (okN_front (okN_new HX.out.ok) HY.out.ok) (by have := HKK.out; omega) (by have := HKK.out; omega)).mono ?_
      rw [HI.out]
      rintro e w5 ⟨v5, rfl, ho, hb⟩
      have D5 := D4.step hb
      have hsz4 := D4.size
      have HO := Lib.hid ho
      clear ho hb c1
      go_wp2_with fail
      refine (chkD_any v5 (exfL xs ys m) m _ HO.out (Nat.le_refl _)).mono ?_
      rintro e w6 ⟨v6, rfl, ho, hb⟩
      have D6 := D5.step hb
      obtain ⟨xo, xcap, rfl, _, _⟩ := ho.nums.slice
      have HO6 := Lib.hid ho
      clear ho hb
      have r0 := D6.r0
      have r1 := D6.r1
      have f0 := D6.free 0
      have f1 := D6.free 1
      go_wp2
      exact bodyPost_ret (v := okD (.slice xo (chkN (exfL xs ys m) m).length xcap) (chkM (exfL xs ys m) m) (validD (exfL xs ys m) m)) (by simp [okD, results, Try.results20, go_sem, r0, r1]) rfl (newD_chk (and_yes HV HM) (D6.own HO6.out hsz4 _ _) (D6.done _ _))
end Go.Proofs.Ytcipkdegcplmcaa
