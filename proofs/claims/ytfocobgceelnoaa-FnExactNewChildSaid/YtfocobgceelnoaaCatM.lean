/-
  Rows of lists put one behind the other (slices.Concat of lists of lists).
-/
import Derived.Test.YtfocobgceelnoaaChnC
import Derived.Test.YtfocobgceelnoaaZeros
namespace Go.Proofs.Ytfocobgceelnoaa
open Go.RowKit

/-- Grow of nothing: an empty row with room. -/
theorem wpl_grow_rows (w : World) {ops : Array Oper} {rest : List Oper} {o : Oper} {a : Act} {Q : Exit → Act → World → Prop} (hgd : o.guard = none) (s x : Operand)
    (ho : o.op = .call { callee := .builtin .append, args := #[s, x], argTypes := #[28, 3] })
    (hs : a.eval s = .slice none 0 0) (n : Nat) (hx : a.eval x = .int .i64 n) (h0 : 0 < n) (hn : n ≤ 1000000)
    (h : ∀ cap w', n ≤ cap → cap ≤ 9223372036854775807 → w'.ownsRow w.heap.size 34 1 (.slice (some ⟨w.heap.size, 0, none⟩) 0 cap) 0 [] → Below w.heap.size w w' → wpList Try.prog ops Q rest (a.put o.dst (.slice (some ⟨w.heap.size, 0, none⟩) n cap)) w') : wpList Try.prog ops Q (o :: rest) a w := by
  obtain ⟨i0, hi0, hz0, hz1, hz2⟩ := info_parts Try.infoII
  have hrun := run_append_zeros (P := Try.prog) w 28 3 o.type 34 i0 (.slice none 0 0) Try.underlying28 Try.underlying3 hi0 hz0 (by rw [hz1]; decide) n h0 (by omega) (by rw [hz2]; omega)
  refine wpList_plain hgd fun K hK => ?_
  unfold Oper.wp
  simp [execOp, ho, resolve, invoke, builtin, hs, hx, hrun, Result.andThen]
  have hge := grownCap_ge w n 0 34
  have hcm := grownCap_le_maxLen w n 0 34 (by unfold maxLen; omega)
  refine hK _ _ (h _ _ hge (by unfold maxLen at hcm; exact hcm) ⟨rfl, .inr ⟨w.heap.size, grownCap w n 0 34, _, rfl, Nat.le_refl _, heap_alloc_new w.drew _, Nat.zero_le _, hcm, ?_, by simp⟩⟩ ?_)
  · simp only [Array.size_append, size_zeroCells]
    have e : (Value.slice none 0 0).cells.size = 1 := rfl
    rw [e]
    omega
  · exact ((Below.refl _ _).drew.alloc (Nat.le_refl _) _)

set_option maxHeartbeats 400000 in
theorem GrowM_any (n : Nat) (w : World) (hn : n ≤ 1000000) :
    Calls Try.prog 88 #[.slice none 0 0, .int .i64 n] w fun e w' => ∃ v, e = .returned v ∧ w'.ownsRow w.heap.size 34 1 v 0 [] ∧ Below w.heap.size w w' := by
  go_enter Try.func88, Try.ntmps88
  by_cases h0 : n = 0
  · subst h0
    go_wp2
    go_ret
    exact ⟨_, rfl, World.ownsRow_nil _ _ _ _, Below.refl _ _⟩
  · have hpos : 0 < n := by omega
    have hpos' : (0 : Int) < (n : Int) := by omega
    clear h0
    go_wp2_with (at_builtin; refine wpl_grow_rows _ rfl _ _ rfl rfl n rfl hpos hn ?_; intro cap w1 hcap hcm hown1 hb1)
    go_ret
    exact ⟨_, rfl, hown1, hb1⟩


/-- Rows appended. -/
theorem run_append_rows (w : World) (ty : TypeId) (base : Nat) (v : Value) (n : Nat) (xs : List Value) (hown : w.ownsRow base 34 1 v n xs)
    (u : Value) (ys : List Value) (hy : RowOf (fun _ => True) w u ys) (hone : ∀ x ∈ ys, x.oneCell' = true) (hn : n ≤ 1000000) (hm : ys.length ≤ 1000000) (hbase : base ≤ w.heap.size) :
    ∃ v' w', (Builtin.append_ #[28, 28] ty #[v, u]).run Try.prog w = .ok v' w' ∧ w'.ownsRow base 34 1 v' (n + ys.length) (xs ++ ys) ∧ w.grownBy w' v.ownBlock := by
  obtain ⟨i0, hi0, hz0, hz1, hz2⟩ := info_parts Try.infoII
  obtain ⟨ao, cap, rfl, hlc, hcm, hcell⟩ := hy
  cases ao with
  | none =>
    have hx0 : ys = [] := by
      cases ys with
      | nil => rfl
      | cons y r => obtain ⟨b, o, e, _⟩ := hcell 0 y (by simp); cases e
    subst hx0
    have hrun := run_append_nothing (P := Try.prog) (w := w) base 28 ty 34 i0 1 Try.underlying28 hi0 v n xs hown cap
    exact ⟨v, w, hrun, by rw [List.append_nil]; exact hown, World.grownBy.refl _ _⟩
  | some ad =>
    obtain ⟨b, o', sp⟩ := ad
    obtain ⟨v', w', hrun, r1, r2, _⟩ := run_append_own (P := Try.prog) w base 28 ty 34 i0 (.slice none 0 0) 1 24 Try.underlying28 hi0 hz0 hz1 hz2 rfl (by decide) v n xs hown ⟨b, o', sp⟩ ys.length cap ys (by rw [Nat.mul_one]) (fun j x hx => by
      obtain ⟨b2, o2, e, _, _, hc⟩ := hcell j x hx
      simp only [Option.some.injEq, Addr.mk.injEq] at e
      obtain ⟨rfl, rfl, rfl⟩ := e
      rw [Addr.add_lit]
      exact hc) hone (by unfold maxLen; omega) (by omega) hbase
    exact ⟨v', w', hrun, r1, r2⟩
theorem wpl_append_rows (w : World) {ops : Array Oper} {rest : List Oper} {o : Oper} {a : Act} {Q : Exit → Act → World → Prop} (hgd : o.guard = none) (s x : Operand)
    (ho : o.op = .call { callee := .builtin .append, args := #[s, x], argTypes := #[28, 28] })
    (base : Nat) (v : Value) (n : Nat) (xs : List Value) (hs : a.eval s = v) (hown : w.ownsRow base 34 1 v n xs)
    (u : Value) (ys : List Value) (hx : a.eval x = u) (hy : RowOf (fun _ => True) w u ys) (hone : ∀ x ∈ ys, x.oneCell' = true) (hn : n ≤ 1000000) (hm : ys.length ≤ 1000000) (hbase : base ≤ w.heap.size)
    (h : ∀ v' w', w'.ownsRow base 34 1 v' (n + ys.length) (xs ++ ys) → w.grownBy w' v.ownBlock → wpList Try.prog ops Q rest (a.put o.dst v') w') : wpList Try.prog ops Q (o :: rest) a w := by
  obtain ⟨v', w', hrun, r1, r2⟩ := run_append_rows w o.type base v n xs hown u ys hy hone hn hm hbase
  refine wpList_plain hgd fun K hK => ?_
  unfold Oper.wp
  simp [execOp, ho, resolve, invoke, builtin, hs, hx, hrun, Result.andThen]
  exact hK _ _ (h v' w' r1 r2)
theorem step_append_rowsO (w : World) {ops : Array Oper} {o : Oper} {a : Act} {K : Act → World → Prop} {Q : Exit → Act → World → Prop} {E : Prop} (hgd : o.guard = none) (s x : Operand)
    (ho : o.op = .call { callee := .builtin .append, args := #[s, x], argTypes := #[28, 28] })
    (base : Nat) (v : Value) (n : Nat) (xs : List Value) (hs : a.eval s = v) (hown : w.ownsRow base 34 1 v n xs)
    (u : Value) (ys : List Value) (hx : a.eval x = u) (hy : RowOf (fun _ => True) w u ys) (hone : ∀ x ∈ ys, x.oneCell' = true) (hn : n ≤ 1000000) (hm : ys.length ≤ 1000000) (hbase : base ≤ w.heap.size)
    (h : ∀ v' w', w'.ownsRow base 34 1 v' (n + ys.length) (xs ++ ys) → w.grownBy w' v.ownBlock → K (a.put o.dst v') w') :
    if Region.wanted o (yielded ops a.tmps) = true then Oper.wp Try.prog o a w K Q else E := by
  have hw : Region.wanted o (yielded ops a.tmps) = true := by simp [Region.wanted, hgd]
  rw [if_pos hw]
  obtain ⟨v', w', hrun, r1, r2⟩ := run_append_rows w o.type base v n xs hown u ys hy hone hn hm hbase
  unfold Oper.wp
  simp [execOp, ho, resolve, invoke, builtin, hs, hx, hrun, Result.andThen]
  exact h v' w' r1 r2
theorem RowOf.slice {K : Nat → Prop} {w : World} {v : Value} {us : List Value} (h : RowOf K w v us) : ∃ ao cap, v = .slice ao us.length cap := by
  obtain ⟨ao, cap, e, _⟩ := h
  exact ⟨ao, cap, e⟩
theorem RowOf.below {w w' : World} {v : Value} {us : List Value} {B : Nat} (h : RowOf (fun _ => True) w v us) (hb : Below B w w') (hB : w.heap.size ≤ B) : RowOf (fun _ => True) w' v us := by
  obtain ⟨ao, cap, e, h1, h2, h3⟩ := h
  refine ⟨ao, cap, e, h1, h2, fun k u hu => ?_⟩
  obtain ⟨b, o, ha, hlt, _, hc⟩ := h3 k u hu
  exact ⟨b, o, ha, Nat.lt_of_lt_of_le hlt hb.size, trivial, (hb.cell (p := ⟨b, _, none⟩) (Nat.lt_of_lt_of_le hlt hB)).trans hc⟩
theorem flat_takeV {ls : List (List Value)} {k : Nat} (h : k < ls.length) : (ls.take (k + 1)).flatten = (ls.take k).flatten ++ ls[k] := by
  rw [List.take_succ_eq_append_getElem h, List.flatten_append]
  simp
theorem flat_takeV_le (ls : List (List Value)) (k : Nat) : (ls.take k).flatten.length ≤ ls.flatten.length := by
  have h : ls.flatten = (ls.take k).flatten ++ (ls.drop k).flatten := by rw [← List.flatten_append, List.take_append_drop]
  rw [h, List.length_append]
  omega

set_option maxHeartbeats 1600000 in
set_option maxRecDepth 100000 in
theorem ConcatM_any (g cap : Nat) (ls : List (List Value)) (w : World) (hg : g < w.heap.size)
    (h : ∀ k (hk : k < ls.length), ∃ v, w.cell? ⟨g, k, none⟩ = some v ∧ RowOf (fun _ => True) w v ls[k] ∧ ∀ x ∈ ls[k], x.oneCell' = true) (hl : ls.length ≤ 1000) (hn : ls.flatten.length ≤ 1000000) :
    Calls Try.prog 61 #[.slice (some ⟨g, 0, none⟩) ls.length cap] w fun e w' => ∃ v, e = .returned v ∧ w'.ownsRow w.heap.size 34 1 v ls.flatten.length ls.flatten ∧ Below w.heap.size w w' := by
  have HH := Lib.hid h
  clear h
  go_enter Try.func61, Try.ntmps61
  go_wp2_with fail
  go_loopw [3, 11] (fun s i wr => ∃ k : Nat, k ≤ ls.length ∧ i = .int .i64 k ∧ s = .int .i64 ((ls.take k).flatten.length : Nat) ∧ w = wr) (fun _ i _ => ls.length - (intOf i).toNat)
  case atStart => exact ⟨0, Nat.zero_le _, rfl, rfl, rfl⟩
  case round =>
    obtain ⟨k, hk, rfl, rfl, rfl⟩ := hrel
    by_cases hlt : k < ls.length
    · obtain ⟨v, hc, ht, _⟩ := HH.out k hlt
      obtain ⟨ao, c, rfl⟩ := ht.slice
      have h1 := flat_takeV_le ls k
      have h2 := flat_takeV_le ls (k + 1)
      have HE := Lib.hid (congrArg List.length (flat_takeV hlt))
      rw [List.length_append] at HE
      have h3 : (ls.take k).flatten.length + ls[k].length ≤ 1000000 := by have := HE.out; omega
      clear h2
      generalize (ls.take k).flatten.length = p at *
      go_wp2
      go_roundw
      case rel => exact ⟨k + 1, by omega, by go_num, by rw [HE.out]; go_num, trivial⟩
      case measure => simp [intOf]; omega
    · obtain rfl : k = ls.length := by omega
      rw [List.take_length]
      have HN := Lib.hid hn
      obtain ⟨N, hN⟩ : ∃ N, N = ls.flatten.length := ⟨_, rfl⟩
      rw [← hN]
      rw [← hN] at hn
      clear hN
      go_wp2_with fail
      refine (GrowM_any _ w hn).mono ?_
      rintro e w1 ⟨v1, rfl, ho1, hb1⟩
      go_wp2_with fail
      go_loopw [6, 27] (fun x i wr => ∃ k : Nat, k ≤ ls.length ∧ i = .int .i64 k ∧ wr.ownsRow w.heap.size 34 1 x (ls.take k).flatten.length (ls.take k).flatten ∧ Hid (Below w.heap.size w wr)) (fun _ i _ => ls.length - (intOf i).toNat)
      case atStart => exact ⟨0, Nat.zero_le _, rfl, ho1, hb1⟩
      case round =>
        obtain ⟨k, hk, rfl, hrow, HB⟩ := hrel
        clear ho1 hb1
        by_cases hlt : k < ls.length
        · obtain ⟨v, hc, ht, h1c⟩ := HH.out k hlt
          have HO1 := Lib.hid h1c
          have c1 := (HB.out.cell (p := ⟨g, k, none⟩) hg).trans hc
          have HT := Lib.hid (ht.below HB.out (Nat.le_refl _))
          obtain ⟨ao, c, rfl⟩ := ht.slice
          have h0 := HN.out
          have h1 := flat_takeV_le ls k
          have h2 := flat_takeV_le ls (k + 1)
          have HE := Lib.hid (flat_takeV hlt)
          have h4 : ls[k].length ≤ 1000000 := by have := congrArg List.length HE.out; rw [List.length_append] at this; omega
          have h5 : (ls.take k).flatten.length ≤ 1000000 := by omega
          clear h0 h1 h2 hc ht h1c
          generalize (ls.take k).flatten = L at *
          obtain ⟨xo, xcap, rfl, _, _⟩ := own_slice hrow
          go_wp2_with (at_builtin; refine wpl_append_rows _ rfl _ _ rfl w.heap.size (.slice xo L.length xcap) L.length L rfl hrow (.slice ao ls[k].length c) ls[k] rfl HT.out HO1.out (by omega) (by omega) HB.out.size ?_; intro v' w4 hown4 hgrow4)
          have hrow4 : w4.ownsRow w.heap.size 34 1 v' (L ++ ls[k]).length (L ++ ls[k]) := by rw [List.length_append]; exact hown4
          have HB4 := Lib.hid (HB.out.grown hgrow4 HB.out.size (fun j hj => (hrow.lt j hj).1))
          rw [← HE.out] at hrow4
          clear hown4 hgrow4 hrow c1
          go_wp2
          go_roundw
          case rel => exact ⟨k + 1, by omega, by go_num, hrow4, HB4⟩
          case measure => simp [intOf]; omega
        · obtain rfl : k = ls.length := by omega
          rw [List.take_length] at hrow
          go_wp2
          go_ret
          exact ⟨_, rfl, hrow, HB.out⟩
end Go.Proofs.Ytfocobgceelnoaa
