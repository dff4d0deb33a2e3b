/-
  Items compared.
-/
import Derived.Test.YtbiflkekhabpoaaDraw1
namespace Go.Proofs.Ytbiflkekhabpoaa
open Go.RowKit

theorem beq_bytes (a b : ByteArray) : (a == b) = (a.toList == b.toList) := by
  rw [ByteArray.toList_eq, ByteArray.toList_eq]
  obtain ⟨⟨x⟩⟩ := a
  obtain ⟨⟨y⟩⟩ := b
  show ((⟨x⟩ : Array UInt8) == ⟨y⟩) = (x == y)
  simp
theorem item_equalIn (d : Nat) (a b : ByteArray) (m n : Int) (w : World) :
    (Op.equalIn (d + 1 + 1) 54 (.agg #[.string a, .int .i64 m]) (.agg #[.string b, .int .i64 n])).run Try.prog w = .ok ((a.toList == b.toList) && (m == n)) w := by
  have hp : Try.prog.stoodInHeld 54 = false := by kernel_rfl
  have hs : ∀ x y : ByteArray, (Op.equalIn (d + 1) 9 (.string x) (.string y)).run Try.prog w = .ok (x.toList == y.toList) w := fun x y => by
    simp [Op.equalIn, run_underlying Try.underlying9, beq_bytes]
  have hn : ∀ x y : Int, (Op.equalIn (d + 1) 3 (.int .i64 x) (.int .i64 y)).run Try.prog w = .ok (x == y) w := fun x y => by
    simp [Op.equalIn, run_underlying Try.underlying3]
  rw [Op.equalIn]
  simp only [Sem.run_bind, run_underlying Try.underlying54, Result.andThen_ok, run_program, hp, Bool.false_eq_true, if_false]
  have p1 : ∀ (x : ByteArray) (y : Int), (part 9 #[Value.string x, Value.int .i64 y] 0).run Try.prog w = .ok (.string x) w := fun x y => by simp [part]
  have p2 : ∀ (x : ByteArray) (y : Int), (part 3 #[Value.string x, Value.int .i64 y] 1).run Try.prog w = .ok (.int .i64 y) w := fun x y => by simp [part]
  rw [← Array.forIn_toList]
  cases h1 : (a.toList == b.toList) <;> cases h2 : (m == n) <;> simp [List.forIn_cons, Sem.run_bind, p1, p2, hs, hn, h1, h2, Result.andThen]
theorem item_neq (a b : ByteArray) (m n : Int) (w : World) :
    (binOp .neq 54 (.agg #[.string a, .int .i64 m]) (.agg #[.string b, .int .i64 n])).run Try.prog w = .ok (.bool (!((a.toList == b.toList) && (m == n)))) w := by
  have h := item_equalIn 9998 a b m n w
  simp only [binOp]
  simp only [Op.equal, Op.maxDepth, Sem.run_bind]
  rw [show (10000 : Nat) = 9998 + 1 + 1 from rfl, h]
  rfl
theorem item_guard (x y : Operand) (xs ys : Array Value) (w : World) : (eqGuard .neq 54 x y (.agg xs) (.agg ys)).run Try.prog w = .ok () w := by
  have hm : Try.prog.eqGuardType Try.prog.depth 54 = false := by kernel_rfl
  simp [eqGuard, run_program, hm]

set_option maxHeartbeats 800000 in
set_option maxRecDepth 100000 in
theorem equalItems_any (v u : Value) (xs ys : List Itm) (w : World) (h : Items w v xs) (h' : Items w u ys) :
    Calls Try.prog 70 #[v, u] w fun e w' => e = .returned (.bool (decide (xs = ys))) ∧ Below w.heap.size w w' := by
  obtain ⟨ao, cap, rfl, hlc, hcm, hok, hcell⟩ := h
  obtain ⟨ao', cap', rfl, hlc', hcm', hok', hcell'⟩ := h'
  have hg1 := item_neq
  have hg2 := item_guard
  go_enter Try.func70, Try.ntmps70
  by_cases hl : xs.length = ys.length
  · have hlb := eqLen_lit hl
    have HL := Lib.hid hl
    clear hl
    go_wp2
    go_loopw [5] (fun i wr => ∃ k : Nat, k ≤ xs.length ∧ i = .int .i64 k ∧ Hid (decide (xs = ys) = eqFrom k xs ys) ∧ Below w.heap.size w wr) (fun i _ => xs.length - (intOf i).toNat)
    case atStart => exact ⟨0, Nat.zero_le _, rfl, rfl, Below.refl _ _⟩
    case round =>
      obtain ⟨k, hk, rfl, HQ, hbl⟩ := hrel
      by_cases hlt : k < xs.length
      · obtain ⟨b, o, rfl, hb, h1, h2⟩ := hcell k hlt
        have hlt' : k < ys.length := by have := HL.out; omega
        obtain ⟨b', o', rfl, hb', h1', h2'⟩ := hcell' k hlt'
        have c1 := (hbl.cell (p := ⟨b, _, none⟩) hb).trans h1
        have c2 := (hbl.cell (p := ⟨b, _, none⟩) hb).trans h2
        have c3 := (hbl.cell (p := ⟨b', _, none⟩) hb').trans h1'
        have c4 := (hbl.cell (p := ⟨b', _, none⟩) hb').trans h2'
        have e1 := Lib.hid (eqFrom_step hlt hlt')
        have e2 := Lib.hid (eqI_parts xs[k] ys[k])
        clear h1 h2 h1' h2'
        go_wp2_with fail
        refine wp_region_still_tail 8 (by kernel_rfl) (by kernel_rfl) ?_
        simp only [List.take_succ_cons, List.take_zero, List.drop_succ_cons, List.drop_zero]
        repeat still_step
        refine wpStill_nil ?_
        change wpList _ _ _ _ _ wr.drew
        go_wp2
        · have ht : (!xs[k].fst.toList == ys[k].fst.toList) = true ∨ (!xs[k].snd == ys[k].snd) = true := by assumption
          go_ret
          refine ⟨ret_bool ?_, hbl.drew⟩
          have e3 : eqIB xs[k] ys[k] = false := by
            unfold eqIB
            rw [e2.out]
            rcases ht with ht | ht
            · simp only [Bool.not_eq_true'] at ht
              rw [ht, Bool.false_and]
            · simp only [Bool.not_eq_true'] at ht
              rw [ht, Bool.and_false]
          rw [HQ.out, e1.out, e3, Bool.false_and]
        · have ht : (!xs[k].fst.toList == ys[k].fst.toList) = false ∧ (!xs[k].snd == ys[k].snd) = false := by assumption
          have e3 : eqIB xs[k] ys[k] = true := by
            unfold eqIB
            rw [e2.out]
            simp only [Bool.not_eq_false'] at ht
            rw [ht.1, ht.2, Bool.true_and]
          have hq : Hid (decide (xs = ys) = eqFrom (k + 1) xs ys) := by unfold Hid; rw [HQ.out, e1.out, e3, Bool.true_and]
          clear ht c1 c2 c3 c4
          go_roundw
          case rel => exact ⟨k + 1, by omega, by go_num, hq, hbl.drew⟩
          case measure => simp [intOf]; omega
      · obtain rfl : k = xs.length := by omega
        go_wp2
        go_ret
        refine ⟨ret_bool ?_, hbl⟩
        rw [HQ.out]
        unfold eqFrom
        rw [List.drop_length, HL.out, List.drop_length]
        rfl
  · go_wp2
    go_ret
    refine ⟨ret_bool ?_, Below.refl _ _⟩
    symm
    rw [decide_eq_false_iff_not]
    rintro rfl
    exact hl rfl
end Go.Proofs.Ytbiflkekhabpoaa
