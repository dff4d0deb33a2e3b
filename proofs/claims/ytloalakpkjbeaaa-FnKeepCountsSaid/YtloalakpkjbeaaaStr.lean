/-
  The statements' own helpers over texts: how much they hold, a copy, equality, marks.
-/
import Derived.Test.YtloalakpkjbeaaaSpecR
import Derived.Test.YtloalakpkjbeaaaObjs
namespace Go.Proofs.Ytloalakpkjbeaaa
open Go.RowKit

def okT (ts : List ByteArray) : Prop := ∀ t ∈ ts, t.size ≤ 9223372036854775807
def cellsT (ts : List ByteArray) : List Value := ts.map Value.string
/-- The slice v reads as the texts ts. -/
def Texts (w : World) (v : Value) (ts : List ByteArray) : Prop :=
  ∃ ao cap, v = .slice ao ts.length cap ∧ ts.length ≤ cap ∧ cap ≤ 9223372036854775807 ∧ okT ts ∧
    ∀ k (_ : k < ts.length), ∃ b o, ao = some ⟨b, o, none⟩ ∧ b < w.heap.size ∧ w.cell? ⟨b, o + k, none⟩ = some (.string ts[k])
def OwnT (w : World) (B : Nat) (v : Value) (ts : List ByteArray) : Prop := w.ownsRow B 9 1 v ts.length (cellsT ts) ∧ okT ts

theorem Texts.mono {w w' : World} {v : Value} {xs : List ByteArray} (h : Texts w v xs) {B : Nat} (hb : Below B w w') (hB : w.heap.size ≤ B) : Texts w' v xs := by
  obtain ⟨ao, cap, hv, hl, hc, hok, hk⟩ := h
  refine ⟨ao, cap, hv, hl, hc, hok, fun k hlt => ?_⟩
  obtain ⟨b, o, ha, hs, h1⟩ := hk k hlt
  exact ⟨b, o, ha, Nat.lt_of_lt_of_le hs hb.size, (hb.cell (p := ⟨b, _, none⟩) (Nat.lt_of_lt_of_le hs hB)).trans h1⟩
theorem cellsT_length (ts : List ByteArray) : (cellsT ts).length = ts.length := by simp [cellsT]
theorem cellsT_get {ts : List ByteArray} {k : Nat} (h : k < ts.length) : (cellsT ts)[k]? = some (.string ts[k]) := by simp [cellsT, h]
theorem OwnT.texts {w : World} {B : Nat} {v : Value} {xs : List ByteArray} (h : OwnT w B v xs) : Texts w v xs := by
  obtain ⟨hrow, hok⟩ := h
  have hrow' := hrow
  obtain ⟨_, h2⟩ := hrow
  rcases h2 with ⟨rfl, h0⟩ | ⟨g, cap, cur, rfl, hb, hg, hnc, hcm, hcs, htake⟩
  · exact ⟨none, 0, by rw [h0], by omega, by omega, hok, fun k hk => by omega⟩
  · refine ⟨_, cap, rfl, hnc, by unfold maxLen at hcm; exact hcm, hok, fun k hk => ⟨g, 0, rfl, (Array.getElem?_eq_some_iff.1 hg).1, ?_⟩⟩
    rw [Nat.zero_add]
    exact row_cell_at hrow' (cellsT_get hk)
theorem OwnT.below {w w' : World} {B : Nat} {v : Value} {xs : List ByteArray} (h : OwnT w B v xs) {C : Nat} (hb : Below C w w') (hC : w.heap.size ≤ C) : OwnT w' B v xs := ⟨ownsRow_below h.1 hb hC, h.2⟩
theorem OwnT.base {w : World} {B B' : Nat} {v : Value} {xs : List ByteArray} (h : OwnT w B v xs) (hB : B' ≤ B) : OwnT w B' v xs := ⟨ownsRow_base h.1 hB, h.2⟩
theorem Texts.nil (w : World) : Texts w (.slice none 0 0) [] := ⟨none, 0, rfl, Nat.le_refl _, by omega, fun x hx => by simp at hx, fun k hk => by simp at hk⟩
theorem OwnT_nil (w : World) (B : Nat) : OwnT w B (.slice none 0 0) [] := ⟨World.ownsRow_nil _ _ _ _, fun x hx => by simp at hx⟩

theorem below_drewN {B : Nat} {a w : World} (h : Below B a w) (n : Nat) : Below B a (w.drewN n) := ⟨h.os, h.tape, h.output, h.size, h.block⟩

theorem copyT_step {w : World} {B E g n : Nat} {xs : List ByteArray} {k : Nat} {zs : List Value} (hlt : k < xs.length) (hn : n = xs.length) (hz : zs.length = n - k)
    (hown : w.ownsRow B E 1 (.slice (some ⟨g, 0, none⟩) n n) n (cellsT (xs.take k) ++ zs)) :
    ∃ zs', zs'.length = n - (k + 1) ∧ (w.setCell ⟨g, k, none⟩ (.string xs[k])).ownsRow B E 1 (.slice (some ⟨g, 0, none⟩) n n) n (cellsT (xs.take (k + 1)) ++ zs') := by
  have h1 := (hown.stored k (.string xs[k])).1
  have hlen : (cellsT (xs.take k)).length = k := by rw [cellsT_length]; simp; omega
  match zs, hz with
  | [], hz => simp at hz; omega
  | z0 :: r, hz =>
    refine ⟨r, by simp at hz; omega, ?_⟩
    have e : (cellsT (xs.take k) ++ z0 :: r).set k (.string xs[k]) = cellsT (xs.take (k + 1)) ++ r := by
      rw [List.set_append_right _ _ (by omega), hlen, Nat.sub_self, List.take_succ_eq_append_getElem hlt]
      simp only [cellsT, List.map_append, List.append_assoc]
      rfl
    rw [e] at h1
    exact h1

def FreshT (xs : List ByteArray) (w : World) (e : Ending) (w' : World) : Prop :=
  ∃ v, e = .returned v ∧ OwnT w' w.heap.size v xs ∧ Below w.heap.size w w'

def eqFromT (k : Nat) (xs ys : List ByteArray) : Bool := decide (xs.drop k = ys.drop k)
theorem eqFromT_step {k : Nat} {xs ys : List ByteArray} (h1 : k < xs.length) (h2 : k < ys.length) : eqFromT k xs ys = (decide (xs[k] = ys[k]) && eqFromT (k + 1) xs ys) := by
  unfold eqFromT
  rw [List.drop_eq_getElem_cons h1, List.drop_eq_getElem_cons h2, Bool.eq_iff_iff, Bool.and_eq_true, decide_eq_true_eq, decide_eq_true_eq, decide_eq_true_eq, List.cons.injEq]

end Go.Proofs.Ytloalakpkjbeaaa
