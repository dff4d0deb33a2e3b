/-
  Items equal in order, by the model and by the program.
-/
import Derived.Test.YtigiliakcmpekaaNeq
import Derived.Test.YtigiliakcmpekaaNew
import Derived.Test.YtigiliakcmpekaaOrd
import Derived.Test.YtigiliakcmpekaaSpec
namespace Go.Proofs.Ytigiliakcmpekaa
open Go.RowKit

theorem Items.litcell {w : World} {ao : Option Addr} {xs : List Itm} {cap : Nat} (h : Items w (.slice ao xs.length cap) xs) : ∀ k (_ : k < xs.length), ∃ b o, ao = some ⟨b, o, none⟩ ∧ b < w.heap.size ∧ w.cell? ⟨b, o + k * 2, none⟩ = some (.string xs[k].1) ∧ w.cell? ⟨b, o + k * 2 + 1, none⟩ = some (.int .i64 xs[k].2) := by
  obtain ⟨ao', cap', e, _, _, _, hcell⟩ := h
  simp only [Value.slice.injEq] at e
  obtain ⟨rfl, _, rfl⟩ := e
  exact hcell
theorem sord_no {a b : List Itm} (H : Hid (okB a b = false)) : false = sordB a b := by unfold sordB; rw [H.out]; rfl
theorem sord_yes {a b : List Itm} (H : Hid (okB a b = true)) : sordB a b = decide (a = b) := by unfold sordB; rw [H.out]; rfl

set_option maxHeartbeats 1600000 in
set_option maxRecDepth 100000 in
theorem slEqual_any (va vb : Value) (a b : List Itm) (w : World) (ha : Items w va a) (hb : Items w vb b) :
    Calls Try.prog 170 #[va, vb] w (RetQ (.bool (decide (a = b))) w) := by
  obtain ⟨ao, cap, rfl, hlc, hcm, hok, hcell⟩ := ha
  obtain ⟨ao', cap', rfl, hlc', hcm', hok', hcell'⟩ := hb
  have hg1 := item_neq
  have hg2 := item_guard
  go_enter Try.func170, Try.ntmps170
  by_cases hl : a.length = b.length
  · have hlb := eqLen_lit hl
    have HL := Lib.hid hl
    clear hl
    go_wp2
    go_loopw [13] (fun i wr => ∃ k : Nat, k ≤ a.length ∧ i = .int .i64 k ∧ Hid (decide (a = b) = eqFrom k a b) ∧ Below w.heap.size w wr) (fun i _ => a.length - (intOf i).toNat)
    case atStart => exact ⟨0, Nat.zero_le _, rfl, rfl, Below.refl _ _⟩
    case round =>
      obtain ⟨k, hk, rfl, HQ, hbl⟩ := hrel
      by_cases hlt : k < a.length
      · obtain ⟨b1, o1, rfl, hb1', h1, h2⟩ := hcell k hlt
        have hlt' : k < b.length := by have := HL.out; omega
        obtain ⟨b2, o2, rfl, hb2', h1', h2'⟩ := hcell' k hlt'
        have c1 := (hbl.cell (p := ⟨b1, _, none⟩) hb1').trans h1
        have c2 := (hbl.cell (p := ⟨b1, _, none⟩) hb1').trans h2
        have c3 := (hbl.cell (p := ⟨b2, _, none⟩) hb2').trans h1'
        have c4 := (hbl.cell (p := ⟨b2, _, none⟩) hb2').trans h2'
        have e1 := Lib.hid (eqFrom_step hlt hlt')
        have e2 := Lib.hid (eqI_parts a[k] b[k])
        clear h1 h2 h1' h2'
        go_wp2_with fail
        refine wp_region_still_tail 8 (by kernel_rfl) (by kernel_rfl) ?_
        simp only [List.take_succ_cons, List.take_zero, List.drop_succ_cons, List.drop_zero]
        repeat still_step
        refine wpStill_nil ?_
        change wpList _ _ _ _ _ wr.drew
        go_wp2
        · have ht : (!a[k].fst.toList == b[k].fst.toList) = true ∨ (!a[k].snd == b[k].snd) = true := by assumption
          go_ret
          refine ⟨ret_bool ?_, hbl.drew⟩
          have e3 : eqIB a[k] b[k] = false := by
            unfold eqIB
            rw [e2.out]
            rcases ht with ht | ht
            · simp only [Bool.not_eq_true'] at ht
              rw [ht, Bool.false_and]
            · simp only [Bool.not_eq_true'] at ht
              rw [ht, Bool.and_false]
          skip
          rw [HQ.out, e1.out, e3, Bool.false_and]
        · have ht : (!a[k].fst.toList == b[k].fst.toList) = false ∧ (!a[k].snd == b[k].snd) = false := by assumption
          have e3 : eqIB a[k] b[k] = true := by
            unfold eqIB
            rw [e2.out]
            simp only [Bool.not_eq_false'] at ht
            rw [ht.1, ht.2, Bool.true_and]
          have hq : Hid (decide (a = b) = eqFrom (k + 1) a b) := by unfold Hid; rw [HQ.out, e1.out, e3, Bool.true_and]
          clear ht c1 c2 c3 c4
          go_roundw
          case rel => exact ⟨k + 1, by omega, by go_num, hq, hbl.drew⟩
          case measure => simp [intOf]; omega
      · obtain rfl : k = a.length := by omega
        go_wp2
        go_ret
        refine ⟨ret_bool ?_, hbl⟩
        skip
        rw [HQ.out]
        unfold eqFrom
        rw [List.drop_length, HL.out, List.drop_length]
        rfl
  · go_wp2
    go_ret
    refine ⟨ret_bool ?_, Below.refl _ _⟩
    skip
    symm
    rw [decide_eq_false_iff_not]
    rintro rfl
    exact hl rfl

end Go.Proofs.Ytigiliakcmpekaa
