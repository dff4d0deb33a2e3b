/-
  DqS.
-/
import Derived.Deep.RegionLaw
import Derived.Test.YthhjfhdcfegdfaaP9
/-
  The model's small functions over numbers: a copy, the last ones, the first ones, turned.
-/
namespace Go.Proofs.Ythhjfhdcfegdfaa
open Go.RowKit Go.Deep

def OwnR (w : World) (B : Nat) (v : Value) (xs : List Int) : Prop := w.ownsRow B 3 1 v xs.length (cellsN xs) ∧ okN xs
theorem OwnR.own {w : World} {B : Nat} {v : Value} {xs : List Int} (h : OwnR w B v xs) : OwnN B w.heap.size w v xs := OwnN.of h.1 h.2
theorem OwnR.nums {w : World} {B : Nat} {v : Value} {xs : List Int} (h : OwnR w B v xs) : Nums w v xs := h.own.nums
theorem OwnR.below {w w' : World} {B C : Nat} {v : Value} {xs : List Int} (h : OwnR w B v xs) (hb : Below C w w') (hC : w.heap.size ≤ C) : OwnR w' B v xs := ⟨ownsRow_below h.1 hb hC, h.2⟩
def FreshR (xs : List Int) (w : World) (e : Ending) (w' : World) : Prop := ∃ v, e = .returned v ∧ OwnR w' w.heap.size v xs ∧ Below w.heap.size w w'
theorem undrewB {B : Nat} {w w' : World} (h : Below B w.drew w') : Below B w w' := ⟨h.os, h.tape, h.output, h.size, h.block⟩

/-- Numbers appended. -/
theorem run_append_nums (w : World) (ty : TypeId) (base : Nat) (v : Value) (n : Nat) (xs : List Value) (hown : w.ownsRow base 3 1 v n xs)
    (u : Value) (ys : List Int) (hy : Nums w u ys) (hn : n ≤ 1000000) (hm : ys.length ≤ 1000000) (hbase : base ≤ w.heap.size) :
    ∃ v' w', (Builtin.append_ #[52, 52] ty #[v, u]).run Try.prog w = .ok v' w' ∧ w'.ownsRow base 3 1 v' (n + ys.length) (xs ++ cellsN ys) ∧ w.grownBy w' v.ownBlock := by
  obtain ⟨i0, hi0, hz0, hz1, hz2⟩ := info_parts Try.infoN
  have hy0 := hy
  obtain ⟨ao, cap, rfl, hlc, hcm, hok, hcell⟩ := hy
  cases ao with
  | none =>
    have hx0 : ys = [] := by
      cases ys with
      | nil => rfl
      | cons y r => obtain ⟨b, o, e, _⟩ := hcell 0 (by simp); cases e
    subst hx0
    have hrun := run_append_nothing (P := Try.prog) (w := w) base 52 ty 3 i0 1 Try.underlying52 hi0 v n xs hown cap
    have e : cellsN [] = [] := rfl
    exact ⟨v, w, hrun, by rw [e, List.append_nil]; exact hown, World.grownBy.refl _ _⟩
  | some ad =>
    obtain ⟨b, o', sp⟩ := ad
    obtain ⟨v', w', hrun, r1, r2, _⟩ := run_append_own (P := Try.prog) w base 52 ty 3 i0 (.int .i64 0) 1 8 Try.underlying52 hi0 hz0 hz1 hz2 rfl (by decide) v n xs hown ⟨b, o', sp⟩ ys.length cap (cellsN ys) (by rw [cellsN_length, Nat.mul_one]) hy0.news (cellsN_one ys) (by unfold maxLen; omega) (by omega) hbase
    exact ⟨v', w', hrun, r1, r2⟩
theorem wpl_append_nums (w : World) {ops : Array Oper} {rest : List Oper} {o : Oper} {a : Act} {Q : Exit → Act → World → Prop} (hgd : o.guard = none) (s x : Operand)
    (ho : o.op = .call { callee := .builtin .append, args := #[s, x], argTypes := #[52, 52] })
    (base : Nat) (v : Value) (n : Nat) (xs : List Value) (hs : a.eval s = v) (hown : w.ownsRow base 3 1 v n xs)
    (u : Value) (ys : List Int) (hx : a.eval x = u) (hy : Nums w u ys) (hn : n ≤ 1000000) (hm : ys.length ≤ 1000000) (hbase : base ≤ w.heap.size)
    (h : ∀ v' w', w'.ownsRow base 3 1 v' (n + ys.length) (xs ++ cellsN ys) → w.grownBy w' v.ownBlock → wpList Try.prog ops Q rest (a.put o.dst v') w') : wpList Try.prog ops Q (o :: rest) a w := by
  obtain ⟨v', w', hrun, r1, r2⟩ := run_append_nums w o.type base v n xs hown u ys hy hn hm hbase
  refine wpList_plain hgd fun K hK => ?_
  unfold Oper.wp
  simp [execOp, ho, resolve, invoke, builtin, hs, hx, hrun, Result.andThen]
  exact hK _ _ (h v' w' r1 r2)
theorem step_append_nums (w : World) {ops : Array Oper} {o : Oper} {a : Act} {K : Act → World → Prop} {Q : Exit → Act → World → Prop} {E : Prop} (hgd : o.guard = none) (s x : Operand)
    (ho : o.op = .call { callee := .builtin .append, args := #[s, x], argTypes := #[52, 52] })
    (base : Nat) (v : Value) (n : Nat) (xs : List Value) (hs : a.eval s = v) (hown : w.ownsRow base 3 1 v n xs)
    (u : Value) (ys : List Int) (hx : a.eval x = u) (hy : Nums w u ys) (hn : n ≤ 1000000) (hm : ys.length ≤ 1000000) (hbase : base ≤ w.heap.size)
    (h : ∀ v' w', w'.ownsRow base 3 1 v' (n + ys.length) (xs ++ cellsN ys) → w.grownBy w' v.ownBlock → K (a.put o.dst v') w') :
    if Region.wanted o (yielded ops a.tmps) = true then Oper.wp Try.prog o a w K Q else E := by
  have hw : Region.wanted o (yielded ops a.tmps) = true := by simp [Region.wanted, hgd]
  rw [if_pos hw]
  obtain ⟨v', w', hrun, r1, r2⟩ := run_append_nums w o.type base v n xs hown u ys hy hn hm hbase
  unfold Oper.wp
  simp [execOp, ho, resolve, invoke, builtin, hs, hx, hrun, Result.andThen]
  exact h v' w' r1 r2

/-! ### the last ones, the first ones -/
def fitB (xs : List Int) (m : Int) : List Int := if 0 ≤ m ∧ m < xs.length then xs.drop (xs.length - m.toNat) else xs
def fitF (xs : List Int) (m : Int) : List Int := if 0 ≤ m ∧ m < xs.length then xs.take m.toNat else xs
/-- xs[k:], as a walk spells where it begins. -/
theorem Nums.dropA {w : World} {ao A : Option Addr} {n cap k : Nat} {xs : List Int} (h : Nums w (.slice ao n cap) xs) (hk : k ≤ n) (hA : cap ≠ k → A = ao.map (fun x => x.add k)) : Nums w (.slice A (n - k) (cap - k)) (xs.drop k) := by
  obtain ⟨p, c, e, hl, hc⟩ := h.slice
  simp only [Value.slice.injEq] at e
  obtain ⟨rfl, rfl, rfl⟩ := e
  have := h.part (A := A) (i := k) (j := xs.length) (m := xs.length - k) (c' := cap - k) (by omega) (Nat.le_refl _) rfl (by omega) (by omega) (by
    intro hlt b o e
    subst e
    rw [hA (by omega)]
    simp [Addr.add_lit])
  rwa [List.take_length] at this
theorem Nums.takeA {w : World} {ao : Option Addr} {n cap j : Nat} {xs : List Int} (h : Nums w (.slice ao n cap) xs) (hj : j ≤ n) : Nums w (.slice ao j cap) (xs.take j) := by
  obtain ⟨p, c, e, hl, hc⟩ := h.slice
  simp only [Value.slice.injEq] at e
  obtain ⟨rfl, rfl, rfl⟩ := e
  have := h.part (A := ao) (i := 0) (j := j) (m := j) (c' := cap) (by omega) hj rfl (by omega) hc (by
    intro hlt b o e
    subst e
    rfl)
  rwa [List.drop_zero] at this
theorem OwnR.keeps {K : Nat → Prop} {w w' : World} {B : Nat} {v : Value} {xs : List Int} (h : OwnR w B v xs) (hk : Keeps K w w') (hK : ∀ k, B ≤ k → K k) : OwnR w' B v xs := ⟨hk.own h.1 (fun _ hg => hK _ (own_range h.1 hg).1), h.2⟩
theorem OwnR.base {w : World} {B B' : Nat} {v : Value} {xs : List Int} (h : OwnR w B v xs) (hB : B' ≤ B) : OwnR w B' v xs := ⟨ownsRow_base h.1 hB, h.2⟩

theorem res_two {w w1 : World} {a b : Value} (hb : Below (w.heap.size + 1) (w.alloc (.cells #[.slice none 0 0, .int .i64 0] 54)) w1) :
    w1.heap[w.heap.size]? = some (.cells #[.slice none 0 0, .int .i64 0] 54 (0, 0)) ∧ Below w.heap.size w ((w1.setCell ⟨w.heap.size, 0, none⟩ a).setCell ⟨w.heap.size, 1, none⟩ b) :=
  ⟨two_below (heap_new w _) hb (by omega), ((((Below.refl w.heap.size w).alloc (Nat.le_refl _) _).trans (hb.mono (by omega))).setCell (Nat.le_refl w.heap.size) _).setCell (Nat.le_refl w.heap.size) _⟩
end Go.Proofs.Ythhjfhdcfegdfaa
