/-
  Texts compared by the statements.
-/
import Derived.Test.YtloalakpkjbeaaaEqualItems
import Derived.Test.YtloalakpkjbeaaaStr2
namespace Go.Proofs.Ytloalakpkjbeaaa
open Go.RowKit
open Go.ChangeShapes Go.WideShapes Go.ChangeAt Go.Deep

set_option maxHeartbeats 400000 in
theorem equalTexts_any (v u : Value) (xs ys : List ByteArray) (w : World) (h : Texts w v xs) (h' : Texts w u ys) :
    Calls Try.prog 28 #[v, u] w fun e w' => e = .returned (.bool (decide (xs = ys))) ∧ Below w.heap.size w w' := by
  obtain ⟨ao, cap, rfl, hlc, hcm, hok, hcell⟩ := h
  obtain ⟨ao', cap', rfl, hlc', hcm', hok', hcell'⟩ := h'
  go_enter Try.func28, Try.ntmps28
  by_cases hl : xs.length = ys.length
  · have hlb := eqLen_lit hl
    have HL := Lib.hid hl
    clear hl
    go_wp2
    go_loopw [5] (fun i wr => ∃ k : Nat, k ≤ xs.length ∧ i = .int .i64 k ∧ Hid (decide (xs = ys) = eqFromT k xs ys) ∧ Below w.heap.size w wr) (fun i _ => xs.length - (intOf i).toNat)
    case atStart => exact ⟨0, Nat.zero_le _, rfl, rfl, Below.refl _ _⟩
    case round =>
      obtain ⟨k, hk, rfl, HQ, hbl⟩ := hrel
      by_cases hlt : k < xs.length
      · obtain ⟨b, o, rfl, hb, h1⟩ := hcell k hlt
        have hlt' : k < ys.length := by have := HL.out; omega
        obtain ⟨b', o', rfl, hb', h1'⟩ := hcell' k hlt'
        have c1 := (hbl.cell (p := ⟨b, _, none⟩) hb).trans h1
        have c3 := (hbl.cell (p := ⟨b', _, none⟩) hb').trans h1'
        by_cases ht : xs[k] = ys[k]
        · have e1 := Lib.hid (eqFromT_step hlt hlt')
          have hbq : (xs[k].toList == ys[k].toList) = true := by rw [beq_keys]; exact decide_eq_true ht
          go_wp2_with fail
          go_quiet (fail)
          go_wp2
          go_roundw
          case rel => exact ⟨k + 1, by omega, by go_num, by unfold Hid; rw [HQ.out, e1.out]; simp [ht], below_drewN hbl _⟩
          case measure => simp [intOf]; omega
        · have e1 := Lib.hid (eqFromT_step hlt hlt')
          have hbq : (xs[k].toList == ys[k].toList) = false := by rw [beq_keys]; exact decide_eq_false ht
          go_wp2_with fail
          go_quiet (fail)
          go_wp2
          go_ret
          refine ⟨ret_bool ?_, below_drewN hbl _⟩
          rw [HQ.out, e1.out]
          simp [ht]
      · obtain rfl : k = xs.length := by omega
        go_wp2
        go_ret
        refine ⟨ret_bool ?_, hbl⟩
        rw [HQ.out]
        unfold eqFromT
        rw [List.drop_length, HL.out, List.drop_length]
        rfl
  · go_wp2
    go_ret
    refine ⟨ret_bool ?_, Below.refl _ _⟩
    symm
    rw [decide_eq_false_iff_not]
    rintro rfl
    exact hl rfl

end Go.Proofs.Ytloalakpkjbeaaa
