/-
  Keys that two lists have, or one alone: by the model.
-/
import Derived.Test.YtigiliakcmpekaaAppT
namespace Go.Proofs.Ytigiliakcmpekaa
open Go.RowKit

def okAB (a b : List Itm) : Bool := validI a && validI b
def shrI (a b : List Itm) : List Itm := a.filter fun x => hasI b x.1
def mkL (a b : List Itm) : List ByteArray := if okAB a b = true then kysI (shrI a b) else []
def lkL (a b : List Itm) : List ByteArray := if okAB a b = true then kysI (restI a b) else []
def jkL (a b : List Itm) : List ByteArray := if okAB a b = true then kysI a ++ kysI (restI b a) else []
def okL (a b : List Itm) : List ByteArray := if okAB a b = true then kysI (restI a b) ++ kysI (restI b a) else []
def apB (a b : List Itm) : Bool := okAB a b && decide ((shrI a b).length = 0)
theorem okAB_iff {a b : List Itm} : okAB a b = true ↔ validI a = true ∧ validI b = true := by unfold okAB; rw [Bool.and_eq_true]
theorem okAB_comm (a b : List Itm) : okAB a b = okAB b a := Bool.and_comm _ _
theorem shr_eq (a b : List Itm) : restI a (restI a b) = shrI a b := by
  unfold restI shrI
  refine List.filter_congr fun x hx => ?_
  have e : hasI (a.filter fun y => !hasI b y.1) x.1 = !hasI b x.1 := by
    cases h : hasI b x.1
    · exact hasI_mem.2 ⟨x, List.mem_filter.2 ⟨hx, by simp [h]⟩, rfl⟩
    · rw [Bool.not_true, ← Bool.not_eq_true]
      intro hh
      obtain ⟨y, hy, he⟩ := hasI_mem.1 hh
      have := (List.mem_filter.1 hy).2
      rw [he, h] at this
      cases this
  show (!hasI (a.filter fun y => !hasI b y.1) x.1) = _
  rw [e, Bool.not_not]
theorem shr_le (a b : List Itm) : (shrI a b).length ≤ a.length := List.length_filter_le _ _
theorem gt_le {c : Bool} {l : List ByteArray} (h : c = true → l.length ≤ 100) : (if c = true then l else []).length ≤ 10000000 := by
  cases c
  · simp
  · have := h rfl
    simp only [if_true]
    omega
theorem mk_le (a b : List Itm) : (mkL a b).length ≤ 10000000 := gt_le fun h => by
  have := valid_len (okAB_iff.1 h).1
  have := shr_le a b
  rw [kys_len]
  omega
theorem lk_le (a b : List Itm) : (lkL a b).length ≤ 10000000 := gt_le fun h => by
  have := valid_len (okAB_iff.1 h).1
  have := rest_le a b
  rw [kys_len]
  omega
theorem jk_le (a b : List Itm) : (jkL a b).length ≤ 10000000 := gt_le fun h => by
  have := valid_len (okAB_iff.1 h).1
  have := valid_len (okAB_iff.1 h).2
  have := rest_le b a
  rw [List.length_append, kys_len, kys_len]
  omega
theorem ok_le (a b : List Itm) : (okL a b).length ≤ 10000000 := gt_le fun h => by
  have := valid_len (okAB_iff.1 h).1
  have := valid_len (okAB_iff.1 h).2
  have := rest_le b a
  have := rest_le a b
  rw [List.length_append, kys_len, kys_len]
  omega
theorem gt_no {c : Bool} {l : List ByteArray} (h : c = false) : (if c = true then l else []) = [] := by rw [h]; rfl
theorem gt_yes {c : Bool} {l : List ByteArray} (h : c = true) : (if c = true then l else []) = l := by rw [h]; rfl

theorem shared_any (va vb : Value) (a b : List Itm) (w : World) (ha : Items w va a) (hb : Items w vb b) (hn : a.length ≤ 1000000) :
    Calls Try.prog 138 #[va, vb] w (FreshI (shrI a b) w) := by
  have HE := Lib.hid (shr_eq a b)
  go_enter Try.func138, Try.ntmps138
  go_wp2_with fail
  refine (srest_any va vb a b w ha hb hn).mono ?_
  rintro e w1 ⟨v1, rfl, ho1, hb1⟩
  go_wp2_with fail
  refine (srest_any va v1 a _ w1 (ha.mono hb1 (Nat.le_refl _)) ho1.items hn).mono ?_
  rintro e w2 ⟨v2, rfl, ho2, hb2⟩
  go_wp2
  go_ret
  exact ⟨_, rfl, by rw [← HE.out]; exact ho2.base hb1.size, hb1.trans (hb2.mono hb1.size)⟩

theorem sMeetKeys_any (va vb : Value) (a b : List Itm) (w : World) (ha : Items w va a) (hb : Items w vb b) :
    Calls Try.prog 53 #[va, vb] w (NewT (fun v => v) (mkL a b) w) := by
  go_enter Try.func53, Try.ntmps53
  cases hv : okAB a b
  all_goals
    have HV := Lib.hid hv
    clear hv
    go_wp2_with fail
    refine (both_v _ ha hb HV.out).mono ?_
    rintro e w1 ⟨rfl, hb1⟩
  · go_wp2
    go_ret
    exact ⟨_, rfl, by rw [show mkL a b = [] from gt_no HV.out]; exact OwnT_nil _ _, hb1⟩
  · have hl := valid_len (okAB_iff.1 HV.out).1
    have hl2 := shr_le a b
    go_wp2_with fail
    refine (shared_any va vb a b w1 (ha.mono hb1 (Nat.le_refl _)) (hb.mono hb1 (Nat.le_refl _)) (by omega)).mono ?_
    rintro e w2 ⟨v2, rfl, ho2, hb2⟩
    go_wp2_with fail
    refine (skeysOf_any v2 _ w2 ho2.items (by omega)).mono ?_
    rintro e w3 ⟨v3, rfl, ho3, hb3⟩
    have hb12 := hb1.trans (hb2.mono hb1.size)
    go_wp2
    go_ret
    exact ⟨_, rfl, by rw [show mkL a b = _ from gt_yes HV.out]; exact ho3.base hb12.size, hb12.trans (hb3.mono hb12.size)⟩

theorem sLessKeys_any (va vb : Value) (a b : List Itm) (w : World) (ha : Items w va a) (hb : Items w vb b) :
    Calls Try.prog 60 #[va, vb] w (NewT (fun v => v) (lkL a b) w) := by
  go_enter Try.func60, Try.ntmps60
  cases hv : okAB a b
  all_goals
    have HV := Lib.hid hv
    clear hv
    go_wp2_with fail
    refine (both_v _ ha hb HV.out).mono ?_
    rintro e w1 ⟨rfl, hb1⟩
  · go_wp2
    go_ret
    exact ⟨_, rfl, by rw [show lkL a b = [] from gt_no HV.out]; exact OwnT_nil _ _, hb1⟩
  · have hl := valid_len (okAB_iff.1 HV.out).1
    have hl2 := rest_le a b
    go_wp2_with fail
    refine (srest_any va vb a b w1 (ha.mono hb1 (Nat.le_refl _)) (hb.mono hb1 (Nat.le_refl _)) (by omega)).mono ?_
    rintro e w2 ⟨v2, rfl, ho2, hb2⟩
    go_wp2_with fail
    refine (skeysOf_any v2 _ w2 ho2.items (by omega)).mono ?_
    rintro e w3 ⟨v3, rfl, ho3, hb3⟩
    have hb12 := hb1.trans (hb2.mono hb1.size)
    go_wp2
    go_ret
    exact ⟨_, rfl, by rw [show lkL a b = _ from gt_yes HV.out]; exact ho3.base hb12.size, hb12.trans (hb3.mono hb12.size)⟩

set_option maxHeartbeats 400000 in
theorem sJoinKeys_any (va vb : Value) (a b : List Itm) (w : World) (ha : Items w va a) (hb : Items w vb b) :
    Calls Try.prog 58 #[va, vb] w (NewT (fun v => v) (jkL a b) w) := by
  go_enter Try.func58, Try.ntmps58
  cases hv : okAB a b
  all_goals
    have HV := Lib.hid hv
    clear hv
    go_wp2_with fail
    refine (both_v _ ha hb HV.out).mono ?_
    rintro e w1 ⟨rfl, hb1⟩
  · go_wp2
    go_ret
    exact ⟨_, rfl, by rw [show jkL a b = [] from gt_no HV.out]; exact OwnT_nil _ _, hb1⟩
  · have hl := valid_len (okAB_iff.1 HV.out).1
    have hl1 := valid_len (okAB_iff.1 HV.out).2
    have hl2 := rest_le b a
    go_wp2_with fail
    refine (skeysOf_any va _ w1 (ha.mono hb1 (Nat.le_refl _)) (by omega)).mono ?_
    rintro e w2 ⟨v2, rfl, ho2, hb2⟩
    have hb12 := hb1.trans (hb2.mono hb1.size)
    go_wp2_with fail
    refine (srest_any vb va b a w2 (hb.mono hb12 (Nat.le_refl _)) (ha.mono hb12 (Nat.le_refl _)) (by omega)).mono ?_
    rintro e w3 ⟨v3, rfl, ho3, hb3⟩
    go_wp2_with fail
    refine (skeysOf_any v3 _ w3 ho3.items (by omega)).mono ?_
    rintro e w4 ⟨v4, rfl, ho4, hb4⟩
    have hb14 := (hb3.trans (hb4.mono hb3.size))
    have ho2' := (ho2.below hb14 (Nat.le_refl _)).base (B' := w.heap.size) hb1.size
    have HB := Lib.hid (hb12.trans (hb14.mono hb12.size))
    obtain ⟨ao, cap, rfl, _, _⟩ := own_slice ho2'.1
    obtain ⟨ao', cap', rfl, _, _⟩ := own_slice ho4.1
    go_wp2_with (at_builtin; refine wpl_append_texts _ rfl _ _ rfl w.heap.size (.slice ao (kysI a).length cap) (kysI a).length (cellsT (kysI a)) rfl ho2'.1 (.slice ao' (kysI (restI b a)).length cap') (kysI (restI b a)) rfl ho4.texts (by rw [kys_len]; omega) (by rw [kys_len]; omega) HB.out.size ?_; intro v' w5 hown5 hgrow5)
    go_ret
    exact ⟨_, rfl, by rw [show jkL a b = _ from gt_yes HV.out]; exact OwnT.appended hown5 ho2'.2 ho4.2, HB.out.grown hgrow5 HB.out.size (fun k hk => (own_range ho2'.1 hk).1)⟩

set_option maxHeartbeats 400000 in
theorem sOddKeys_any (va vb : Value) (a b : List Itm) (w : World) (ha : Items w va a) (hb : Items w vb b) :
    Calls Try.prog 62 #[va, vb] w (NewT (fun v => v) (okL a b) w) := by
  go_enter Try.func62, Try.ntmps62
  cases hv : okAB a b
  all_goals
    have HV := Lib.hid hv
    clear hv
    go_wp2_with fail
    refine (both_v _ ha hb HV.out).mono ?_
    rintro e w1 ⟨rfl, hb1⟩
  · go_wp2
    go_ret
    exact ⟨_, rfl, by rw [show okL a b = [] from gt_no HV.out]; exact OwnT_nil _ _, hb1⟩
  · have hl := valid_len (okAB_iff.1 HV.out).1
    have hl1 := valid_len (okAB_iff.1 HV.out).2
    have hl2 := rest_le b a
    have hl3 := rest_le a b
    go_wp2_with fail
    refine (srest_any va vb a b w1 (ha.mono hb1 (Nat.le_refl _)) (hb.mono hb1 (Nat.le_refl _)) (by omega)).mono ?_
    rintro e w0 ⟨v0, rfl, ho0, hb0⟩
    have hb10 := hb1.trans (hb0.mono hb1.size)
    go_wp2_with fail
    refine (skeysOf_any v0 _ w0 ho0.items (by omega)).mono ?_
    rintro e w2 ⟨v2, rfl, ho2, hb2⟩
    have hb12 := hb10.trans (hb2.mono hb10.size)
    go_wp2_with fail
    refine (srest_any vb va b a w2 (hb.mono hb12 (Nat.le_refl _)) (ha.mono hb12 (Nat.le_refl _)) (by omega)).mono ?_
    rintro e w3 ⟨v3, rfl, ho3, hb3⟩
    go_wp2_with fail
    refine (skeysOf_any v3 _ w3 ho3.items (by omega)).mono ?_
    rintro e w4 ⟨v4, rfl, ho4, hb4⟩
    have hb14 := (hb3.trans (hb4.mono hb3.size))
    have ho2' := (ho2.below hb14 (Nat.le_refl _)).base (B' := w.heap.size) hb10.size
    have HB := Lib.hid (hb12.trans (hb14.mono hb12.size))
    obtain ⟨ao, cap, rfl, _, _⟩ := own_slice ho2'.1
    obtain ⟨ao', cap', rfl, _, _⟩ := own_slice ho4.1
    go_wp2_with (at_builtin; refine wpl_append_texts _ rfl _ _ rfl w.heap.size (.slice ao (kysI (restI a b)).length cap) (kysI (restI a b)).length (cellsT (kysI (restI a b))) rfl ho2'.1 (.slice ao' (kysI (restI b a)).length cap') (kysI (restI b a)) rfl ho4.texts (by rw [kys_len]; omega) (by rw [kys_len]; omega) HB.out.size ?_; intro v' w5 hown5 hgrow5)
    go_ret
    exact ⟨_, rfl, by rw [show okL a b = _ from gt_yes HV.out]; exact OwnT.appended hown5 ho2'.2 ho4.2, HB.out.grown hgrow5 HB.out.size (fun k hk => (own_range ho2'.1 hk).1)⟩

theorem ret_b {a b : Bool} (h : a = b) : Ending.returned (.bool a) = .returned (.bool b) := by rw [h]
theorem sApartKeys_any (va vb : Value) (a b : List Itm) (w : World) (ha : Items w va a) (hb : Items w vb b) :
    Calls Try.prog 64 #[va, vb] w (RetQ (.bool (apB a b)) w) := by
  go_enter Try.func64, Try.ntmps64
  cases hv : okAB a b
  all_goals
    have HV := Lib.hid hv
    clear hv
    go_wp2_with fail
    refine (both_v _ ha hb HV.out).mono ?_
    rintro e w1 ⟨rfl, hb1⟩
  · go_wp2
    go_ret
    exact ⟨ret_b (by unfold apB; rw [HV.out]; rfl), hb1⟩
  · have hl := valid_len (okAB_iff.1 HV.out).1
    go_wp2_with fail
    refine (shared_any va vb a b w1 (ha.mono hb1 (Nat.le_refl _)) (hb.mono hb1 (Nat.le_refl _)) (by omega)).mono ?_
    rintro e w2 ⟨v2, rfl, ho2, hb2⟩
    obtain ⟨ao, cap, rfl, _, _⟩ := own_slice ho2.1
    have hb12 := hb1.trans (hb2.mono hb1.size)
    have HA : Hid (apB a b = decide ((shrI a b).length = 0)) := by unfold apB; rw [HV.out]; rfl
    generalize (shrI a b).length = n at *
    by_cases hn : n = 0
    · subst hn
      go_wp2
      go_ret
      exact ⟨ret_b (by rw [HA.out]; rfl), hb12⟩
    · have hn' : ¬ ((n : Int) = 0) := by omega
      go_wp2
      go_ret
      exact ⟨ret_b (by rw [HA.out]; simp [hn]), hb12⟩
end Go.Proofs.Ytigiliakcmpekaa
