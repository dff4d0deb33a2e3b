/-
  Rows of texts put one behind the other (slices.Concat, slices.Grow of nothing).
-/
import Derived.Test.YtigiliakcmpekaaAppT
namespace Go.Proofs.Ytigiliakcmpekaa
open Go.RowKit

section
variable {P : Program}
/-- Nothing, grown by so many zeros: the translator's form of 'append(s, make(n)..)'. -/
theorem run_append_zeros (w : World) (t it ty e : TypeId) (i : TypeInfo) (z : Value) (ht : P.underlying t = some (.slice e)) (hit : P.underlying it = some (.int .i64)) (hi : P.info? e = some i) (hz : i.zero = some z) (hs : 0 < i.size)
    (n : Nat) (h0 : 0 < n) (h63 : (n : Int) ≤ 1000000000) (h48 : n * i.bytes ≤ 281474976710656) :
    (Builtin.append_ #[t, it] ty #[.slice none 0 0, .int .i64 n]).run P w =
      .ok (.slice (some ⟨w.heap.size, 0, none⟩) n (grownCap w n 0 e)) (w.drew.alloc (.cells (Builtin.zeroCells z.cells n ++ Builtin.zeroCells z.cells (grownCap w n 0 e - n)) e)) := by
  have hn : n ≠ 0 := by omega
  have hw : IntKind.i64.wrap (n : Int) = n := IntWalk.i64_in _ (by omega)
  have h63' : ¬ (9223372036854775807 < (n : Int)) := by omega
  have h48' : ¬ (281474976710656 < Builtin.nextslicecap n 0 * i.bytes) := by rw [nextslicecap_zero h0]; omega
  have h48'' : ¬ (281474976710656 < (n : Int) * (i.bytes : Int)) := by
    rw [← Int.natCast_mul]
    omega
  have hlt : ¬ ((n : Int) < 0) := by omega
  have hns : ¬ n * i.size = 0 := by have := Nat.mul_pos h0 hs; omega
  simp [Builtin.append_, run_underlying ht, run_underlying hit, sizeOf, typeInfo, zeroValue, hi, hz, asInt, asIntOf, hw, hlt, hn, h63', h48', h48'', hns, Question.forced, run_firstCells_none, newRow, grownCap]
end

/-- Grow of nothing: an empty row with room. -/
theorem wpl_grow_texts (w : World) {ops : Array Oper} {rest : List Oper} {o : Oper} {a : Act} {Q : Exit → Act → World → Prop} (hgd : o.guard = none) (s x : Operand)
    (ho : o.op = .call { callee := .builtin .append, args := #[s, x], argTypes := #[57, 3] })
    (hs : a.eval s = .slice none 0 0) (n : Nat) (hx : a.eval x = .int .i64 n) (h0 : 0 < n) (hn : n ≤ 1000000)
    (h : ∀ cap w', n ≤ cap → cap ≤ 9223372036854775807 → w'.ownsRow w.heap.size 9 1 (.slice (some ⟨w.heap.size, 0, none⟩) 0 cap) 0 [] → Below w.heap.size w w' → wpList Try.prog ops Q rest (a.put o.dst (.slice (some ⟨w.heap.size, 0, none⟩) n cap)) w') : wpList Try.prog ops Q (o :: rest) a w := by
  obtain ⟨i0, hi0, hz0, hz1, hz2⟩ := info_parts Try.infoS
  have hrun := run_append_zeros (P := Try.prog) w 57 3 o.type 9 i0 (.string ⟨#[]⟩) Try.underlying57 Try.underlying3 hi0 hz0 (by rw [hz1]; decide) n h0 (by omega) (by rw [hz2]; omega)
  refine wpList_plain hgd fun K hK => ?_
  unfold Oper.wp
  simp [execOp, ho, resolve, invoke, builtin, hs, hx, hrun, Result.andThen]
  have hge := grownCap_ge w n 0 9
  have hcm := grownCap_le_maxLen w n 0 9 (by unfold maxLen; omega)
  refine hK _ _ (h _ _ hge (by unfold maxLen at hcm; exact hcm) ⟨rfl, .inr ⟨w.heap.size, grownCap w n 0 9, _, rfl, Nat.le_refl _, heap_alloc_new w.drew _, Nat.zero_le _, hcm, ?_, by simp⟩⟩ ?_)
  · simp only [Array.size_append, size_zeroCells]
    have e : (Value.string ⟨#[]⟩).cells.size = 1 := rfl
    rw [e]
    omega
  · exact ((Below.refl _ _).drew.alloc (Nat.le_refl _) _)

set_option maxHeartbeats 400000 in
theorem Grow_any (n : Nat) (w : World) (hn : n ≤ 1000000) :
    Calls Try.prog 187 #[.slice none 0 0, .int .i64 n] w fun e w' => ∃ v, e = .returned v ∧ w'.ownsRow w.heap.size 9 1 v 0 [] ∧ Below w.heap.size w w' := by
  go_enter Try.func187, Try.ntmps187
  by_cases h0 : n = 0
  · subst h0
    go_wp2
    go_ret
    exact ⟨_, rfl, World.ownsRow_nil _ _ _ _, Below.refl _ _⟩
  · have hpos : 0 < n := by omega
    have hpos' : (0 : Int) < (n : Int) := by omega
    clear h0
    go_wp2_with (at_builtin; refine wpl_grow_texts _ rfl _ _ rfl rfl n rfl hpos hn ?_; intro cap w1 hcap hcm hown1 hb1)
    go_ret
    exact ⟨_, rfl, hown1, hb1⟩

theorem flat_take {ls : List (List ByteArray)} {k : Nat} (h : k < ls.length) : (ls.take (k + 1)).flatten = (ls.take k).flatten ++ ls[k] := by
  rw [List.take_succ_eq_append_getElem h, List.flatten_append]
  simp
theorem flat_take_le (ls : List (List ByteArray)) (k : Nat) : (ls.take k).flatten.length ≤ ls.flatten.length := by
  have h : ls.flatten = (ls.take k).flatten ++ (ls.drop k).flatten := by rw [← List.flatten_append, List.take_append_drop]
  rw [h, List.length_append]
  omega
theorem flat_ok {ls : List (List ByteArray)} (h : ∀ l ∈ ls, okT l) : okT ls.flatten := fun t ht => by
  obtain ⟨l, hl, hm⟩ := List.mem_flatten.1 ht
  exact h l hl t hm

set_option maxHeartbeats 1600000 in
set_option maxRecDepth 100000 in
theorem Concat_any (g cap : Nat) (ls : List (List ByteArray)) (w : World) (hg : g < w.heap.size)
    (h : ∀ k (hk : k < ls.length), ∃ v, w.cell? ⟨g, k, none⟩ = some v ∧ Texts w v ls[k]) (hl : ls.length ≤ 1000) (hn : ls.flatten.length ≤ 1000000) :
    Calls Try.prog 142 #[.slice (some ⟨g, 0, none⟩) ls.length cap] w (NewT (fun v => v) ls.flatten w) := by
  have HH := Lib.hid h
  have HOK : Hid (okT ls.flatten) := flat_ok fun l hl => by
    obtain ⟨k, hk, rfl⟩ := List.getElem_of_mem hl
    obtain ⟨v, _, ht⟩ := h k hk
    exact ht.ok
  clear h
  go_enter Try.func142, Try.ntmps142
  go_wp2_with fail
  go_loopw [3, 11] (fun s i wr => ∃ k : Nat, k ≤ ls.length ∧ i = .int .i64 k ∧ s = .int .i64 ((ls.take k).flatten.length : Nat) ∧ w = wr) (fun _ i _ => ls.length - (intOf i).toNat)
  case atStart => exact ⟨0, Nat.zero_le _, rfl, rfl, rfl⟩
  case round =>
    obtain ⟨k, hk, rfl, rfl, rfl⟩ := hrel
    by_cases hlt : k < ls.length
    · obtain ⟨v, hc, ht⟩ := HH.out k hlt
      obtain ⟨ao, c, rfl, _, _⟩ := ht.slice
      have h1 := flat_take_le ls k
      have h2 := flat_take_le ls (k + 1)
      have HE := Lib.hid (congrArg List.length (flat_take hlt))
      rw [List.length_append] at HE
      have h3 : (ls.take k).flatten.length + ls[k].length ≤ 1000000 := by have := HE.out; omega
      clear h2
      generalize (ls.take k).flatten.length = p at *
      go_wp2
      go_roundw
      case rel => exact ⟨k + 1, by omega, by go_num, by rw [HE.out]; go_num, trivial⟩
      case measure => simp [intOf]; omega
    · obtain rfl : k = ls.length := by omega
      rw [List.take_length]
      have HN := Lib.hid hn
      obtain ⟨N, hN⟩ : ∃ N, N = ls.flatten.length := ⟨_, rfl⟩
      rw [← hN]
      rw [← hN] at hn
      clear hN
      go_wp2_with fail
      refine (Grow_any _ w hn).mono ?_
      rintro e w1 ⟨v1, rfl, ho1, hb1⟩
      go_wp2_with fail
      go_loopw [6, 27] (fun x i wr => ∃ k : Nat, k ≤ ls.length ∧ i = .int .i64 k ∧ wr.ownsRow w.heap.size 9 1 x (ls.take k).flatten.length (cellsT (ls.take k).flatten) ∧ Hid (Below w.heap.size w wr)) (fun _ i _ => ls.length - (intOf i).toNat)
      case atStart => exact ⟨0, Nat.zero_le _, rfl, ho1, hb1⟩
      case round =>
        obtain ⟨k, hk, rfl, hrow, HB⟩ := hrel
        clear ho1 hb1
        by_cases hlt : k < ls.length
        · obtain ⟨v, hc, ht⟩ := HH.out k hlt
          have c1 := (HB.out.cell (p := ⟨g, k, none⟩) hg).trans hc
          have HT := Lib.hid (ht.mono HB.out (Nat.le_refl _))
          obtain ⟨ao, c, rfl, _, _⟩ := ht.slice
          have h0 := HN.out
          have h1 := flat_take_le ls k
          have h2 := flat_take_le ls (k + 1)
          have HE := Lib.hid (flat_take hlt)
          have h4 : ls[k].length ≤ 1000000 := by have := congrArg List.length HE.out; rw [List.length_append] at this; omega
          have h5 : (ls.take k).flatten.length ≤ 1000000 := by omega
          clear h0 h1 h2 hc ht
          generalize (ls.take k).flatten = L at *
          obtain ⟨xo, xcap, rfl, _, _⟩ := own_slice hrow
          go_wp2_with (at_builtin; refine wpl_append_texts _ rfl _ _ rfl w.heap.size (.slice xo L.length xcap) L.length (cellsT L) rfl hrow (.slice ao ls[k].length c) ls[k] rfl HT.out (by omega) (by omega) HB.out.size ?_; intro v' w4 hown4 hgrow4)
          have hrow4 : w4.ownsRow w.heap.size 9 1 v' (L ++ ls[k]).length (cellsT (L ++ ls[k])) := by rw [cellsT_append, List.length_append]; exact hown4
          have HB4 := Lib.hid (HB.out.grown hgrow4 HB.out.size (fun j hj => (hrow.lt j hj).1))
          rw [← HE.out] at hrow4
          clear hown4 hgrow4 hrow c1
          go_wp2
          go_roundw
          case rel => exact ⟨k + 1, by omega, by go_num, hrow4, HB4⟩
          case measure => simp [intOf]; omega
        · obtain rfl : k = ls.length := by omega
          rw [List.take_length] at hrow
          go_wp2
          go_ret
          exact ⟨_, rfl, ⟨hrow, HOK.out⟩, HB.out⟩
end Go.Proofs.Ytigiliakcmpekaa
