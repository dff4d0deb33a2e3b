/-
  Keys of one list or the other: by the program.
-/
import Derived.Test.YtigiliakcmpekaaKyP
import Derived.Test.YtigiliakcmpekaaCat
namespace Go.Proofs.Ytigiliakcmpekaa
open Go.RowKit

/-- Two rows put one behind the other. -/
theorem Concat2_any (va vb : Value) (a b : List ByteArray) (w : World) (ha : Texts w va a) (hb : Texts w vb b) (h1 : a.length ≤ 1000) (h2 : b.length ≤ 1000) :
    Calls Try.prog 142 #[.slice (some ⟨w.heap.size, 0, none⟩) 2 2] (w.alloc (.cells #[va, vb] 57)) (NewT (fun v => v) (a ++ b) w) := by
  have HW : Below w.heap.size w (w.alloc (.cells #[va, vb] 57)) := (Below.refl _ _).alloc (Nat.le_refl _) _
  have e : a ++ b = [a, b].flatten := by simp
  rw [e]
  refine (Concat_any w.heap.size 2 [a, b] _ (by simp) (fun k hk => ?_) (by simp) (by simp; omega)).mono ?_
  · match k, hk with
    | 0, _ => exact ⟨va, two_cell0 (heap_alloc_new _ _), ha.mono HW (Nat.le_refl _)⟩
    | 1, _ => exact ⟨vb, two_cell1 (heap_alloc_new _ _), hb.mono HW (Nat.le_refl _)⟩
    | k + 2, hk => simp only [List.length_cons, List.length_nil] at hk; omega
  · rintro e w' ⟨v, rfl, ho, hbl⟩
    exact ⟨v, rfl, ho.base HW.size, HW.trans (hbl.mono HW.size)⟩
theorem lk_len {a b : List Itm} : (lkL a b).length ≤ 8 := by
  unfold lkL
  split
  · rename_i h
    have := valid_len (okAB_iff.1 h).1
    have := rest_le a b
    rw [kys_len]
    omega
  · simp

set_option maxHeartbeats 400000 in
theorem JoinKeys_any (va vb : Value) (a b : List Itm) (w : World) (ha : Items w va a) (hb : Items w vb b) :
    Calls Try.prog 59 #[va, vb] w (NewT (fun v => v) (jkL a b) w) := by
  go_enter Try.func59, Try.ntmps59
  cases hv : okAB a b
  all_goals
    have HV := Lib.hid hv
    clear hv
    go_wp2_with fail
    refine (bothValid_v _ ha hb HV.out).mono ?_
    rintro e w1 ⟨rfl, hb1⟩
  · go_wp2
    go_ret
    exact ⟨_, rfl, by rw [show jkL a b = [] from gt_no HV.out]; exact OwnT_nil _ _, hb1⟩
  · have hl := valid_len (okAB_iff.1 HV.out).1
    have HE : Hid (jkL a b = kysI a ++ lkL b a) := by
      show _ = _
      rw [show jkL a b = _ from gt_yes HV.out, show lkL b a = _ from gt_yes (by rw [okAB_comm]; exact HV.out)]
    go_wp2_with fail
    refine (keysOf_any va a w1 (ha.mono hb1 (Nat.le_refl _)) (by omega)).mono ?_
    rintro e w2 ⟨v2, rfl, ho2, hb2⟩
    have hb12 := hb1.trans (hb2.mono hb1.size)
    go_wp2_with fail
    refine (LessKeys_any vb va b a w2 (hb.mono hb12 (Nat.le_refl _)) (ha.mono hb12 (Nat.le_refl _))).mono ?_
    rintro e w3 ⟨v3, rfl, ho3, hb3⟩
    have hb13 := hb12.trans (hb3.mono hb12.size)
    obtain ⟨ao, ac, rfl, _, _⟩ := own_slice ho2.1
    obtain ⟨bo, bc, rfl, _, _⟩ := own_slice ho3.1
    go_wp2_with fail
    refine (Concat2_any _ _ _ _ w3 (ho2.texts.mono hb3 (Nat.le_refl _)) ho3.texts (by rw [kys_len]; omega) (by have := lk_len (a := b) (b := a); omega)).mono ?_
    rintro e w4 ⟨v4, rfl, ho4, hb4⟩
    go_wp2
    go_ret
    exact ⟨_, rfl, by rw [HE.out]; exact ho4.base hb13.size, hb13.trans (hb4.mono hb13.size)⟩
set_option maxHeartbeats 400000 in
theorem OddKeys_any (va vb : Value) (a b : List Itm) (w : World) (ha : Items w va a) (hb : Items w vb b) :
    Calls Try.prog 63 #[va, vb] w (NewT (fun v => v) (okL a b) w) := by
  go_enter Try.func63, Try.ntmps63
  have HE : Hid (okL a b = lkL a b ++ lkL b a) := by
    show _ = _
    unfold okL lkL
    rw [okAB_comm b a]
    split <;> simp
  go_wp2_with fail
  refine (LessKeys_any va vb a b w ha hb).mono ?_
  rintro e w2 ⟨v2, rfl, ho2, hb2⟩
  go_wp2_with fail
  refine (LessKeys_any vb va b a w2 (hb.mono hb2 (Nat.le_refl _)) (ha.mono hb2 (Nat.le_refl _))).mono ?_
  rintro e w3 ⟨v3, rfl, ho3, hb3⟩
  have hb13 := hb2.trans (hb3.mono hb2.size)
  obtain ⟨ao, ac, rfl, _, _⟩ := own_slice ho2.1
  obtain ⟨bo, bc, rfl, _, _⟩ := own_slice ho3.1
  go_wp2_with fail
  refine (Concat2_any _ _ _ _ w3 (ho2.texts.mono hb3 (Nat.le_refl _)) ho3.texts (by have := lk_len (a := a) (b := b); omega) (by have := lk_len (a := b) (b := a); omega)).mono ?_
  rintro e w4 ⟨v4, rfl, ho4, hb4⟩
  go_wp2
  go_ret
  exact ⟨_, rfl, by rw [HE.out]; exact ho4.base hb13.size, hb13.trans (hb4.mono hb13.size)⟩
end Go.Proofs.Ytigiliakcmpekaa
