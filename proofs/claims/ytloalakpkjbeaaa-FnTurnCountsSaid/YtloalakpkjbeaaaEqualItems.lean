/-
  Items compared.
-/
import Derived.Test.YtloalakpkjbeaaaDraw1
import Derived.Test.YtloalakpkjbeaaaNeq
namespace Go.Proofs.Ytloalakpkjbeaaa
open Go.RowKit

set_option maxHeartbeats 800000 in
set_option maxRecDepth 100000 in
theorem equalItems_any (v u : Value) (xs ys : List Itm) (w : World) (h : Items w v xs) (h' : Items w u ys) :
    Calls Try.prog 26 #[v, u] w fun e w' => e = .returned (.bool (decide (xs = ys))) ∧ Below w.heap.size w w' := by
  obtain ⟨ao, cap, rfl, hlc, hcm, hok, hcell⟩ := h
  obtain ⟨ao', cap', rfl, hlc', hcm', hok', hcell'⟩ := h'
  have hg1 := item_neq
  have hg2 := item_guard
  go_enter Try.func26, Try.ntmps26
  by_cases hl : xs.length = ys.length
  · have hlb := eqLen_lit hl
    have HL := Lib.hid hl
    clear hl
    go_wp2
    go_loopw [5] (fun i wr => ∃ k : Nat, k ≤ xs.length ∧ i = .int .i64 k ∧ Hid (decide (xs = ys) = eqFrom k xs ys) ∧ Below w.heap.size w wr) (fun i _ => xs.length - (intOf i).toNat)
    case atStart => exact ⟨0, Nat.zero_le _, rfl, rfl, Below.refl _ _⟩
    case round =>
      obtain ⟨k, hk, rfl, HQ, hbl⟩ := hrel
      by_cases hlt : k < xs.length
      · obtain ⟨b, o, rfl, hb, h1, h2⟩ := hcell k hlt
        have hlt' : k < ys.length := by have := HL.out; omega
        obtain ⟨b', o', rfl, hb', h1', h2'⟩ := hcell' k hlt'
        have c1 := (hbl.cell (p := ⟨b, _, none⟩) hb).trans h1
        have c2 := (hbl.cell (p := ⟨b, _, none⟩) hb).trans h2
        have c3 := (hbl.cell (p := ⟨b', _, none⟩) hb').trans h1'
        have c4 := (hbl.cell (p := ⟨b', _, none⟩) hb').trans h2'
        have e1 := Lib.hid (eqFrom_step hlt hlt')
        have e2 := Lib.hid (eqI_parts xs[k] ys[k])
        clear h1 h2 h1' h2'
        go_wp2_with fail
        refine wp_region_still_tail 8 (by kernel_rfl) (by kernel_rfl) ?_
        simp only [List.take_succ_cons, List.take_zero, List.drop_succ_cons, List.drop_zero]
        repeat still_step
        refine wpStill_nil ?_
        change wpList _ _ _ _ _ wr.drew
        go_wp2
        · have ht : (!xs[k].fst.toList == ys[k].fst.toList) = true ∨ (!xs[k].snd == ys[k].snd) = true := by assumption
          go_ret
          refine ⟨ret_bool ?_, hbl.drew⟩
          have e3 : eqIB xs[k] ys[k] = false := by
            unfold eqIB
            rw [e2.out]
            rcases ht with ht | ht
            · simp only [Bool.not_eq_true'] at ht
              rw [ht, Bool.false_and]
            · simp only [Bool.not_eq_true'] at ht
              rw [ht, Bool.and_false]
          rw [HQ.out, e1.out, e3, Bool.false_and]
        · have ht : (!xs[k].fst.toList == ys[k].fst.toList) = false ∧ (!xs[k].snd == ys[k].snd) = false := by assumption
          have e3 : eqIB xs[k] ys[k] = true := by
            unfold eqIB
            rw [e2.out]
            simp only [Bool.not_eq_false'] at ht
            rw [ht.1, ht.2, Bool.true_and]
          have hq : Hid (decide (xs = ys) = eqFrom (k + 1) xs ys) := by unfold Hid; rw [HQ.out, e1.out, e3, Bool.true_and]
          clear ht c1 c2 c3 c4
          go_roundw
          case rel => exact ⟨k + 1, by omega, by go_num, hq, hbl.drew⟩
          case measure => simp [intOf]; omega
      · obtain rfl : k = xs.length := by omega
        go_wp2
        go_ret
        refine ⟨ret_bool ?_, hbl⟩
        rw [HQ.out]
        unfold eqFrom
        rw [List.drop_length, HL.out, List.drop_length]
        rfl
  · go_wp2
    go_ret
    refine ⟨ret_bool ?_, Below.refl _ _⟩
    symm
    rw [decide_eq_false_iff_not]
    rintro rfl
    exact hl rfl
end Go.Proofs.Ytloalakpkjbeaaa
