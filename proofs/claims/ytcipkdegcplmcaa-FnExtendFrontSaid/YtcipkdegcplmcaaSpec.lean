/-
  The model's small functions over items: a copy, a count, a number put, what is positive.
-/
import Derived.Test.YtcipkdegcplmcaaKeep
namespace Go.Proofs.Ytcipkdegcplmcaa
open Go.RowKit

theorem cellsI_one (xs : List Itm) : ∀ u ∈ cellsI xs, u.oneCell' = true := by
  intro u hu
  obtain ⟨x, _, hx⟩ := List.mem_flatMap.1 hu
  simp at hx
  rcases hx with rfl | rfl <;> rfl

/-- The cells of a slice of items, one by one. -/
theorem Items.news {w : World} {b o n cap : Nat} {sp : Option Nat} {xs : List Itm} (h : Items w (.slice (some ⟨b, o, sp⟩) n cap) xs) : ∀ j u, (cellsI xs)[j]? = some u → w.cell? ((⟨b, o, sp⟩ : Addr).add j) = some u := by
  intro j u hu
  obtain ⟨ao, cap', e, hl, hc, hok, hcell⟩ := h
  simp only [Value.slice.injEq] at e
  obtain ⟨rfl, rfl, rfl⟩ := e
  have hj : j < xs.length * 2 := by rw [← cellsI_length]; exact (List.getElem?_eq_some_iff.1 hu).1
  have hk : j / 2 < xs.length := by omega
  obtain ⟨b', o', e, _, h1, h2⟩ := hcell (j / 2) hk
  simp only [Option.some.injEq, Addr.mk.injEq] at e
  obtain ⟨rfl, rfl, rfl⟩ := e
  have hf := cellsI_fst xs (j / 2) hk
  rw [Addr.add_lit]
  rcases Nat.mod_two_eq_zero_or_one j with h | h
  · have e : j = j / 2 * 2 := by omega
    rw [e] at hu
    rw [e, h1, ← hu, hf.1]
  · have e : j = j / 2 * 2 + 1 := by omega
    rw [e] at hu
    rw [e, ← Nat.add_assoc, h2, ← hu, hf.2]

theorem run_append_nothing {P : Program} {w : World} (base : Nat) (t ty e : TypeId) (i : TypeInfo) (size : Nat) (ht : P.underlying t = some (.slice e)) (hi : P.info? e = some i)
    (v : Value) (n : Nat) (xs : List Value) (hown : w.ownsRow base e size v n xs) (c : Nat) :
    (Builtin.append_ #[t, t] ty #[v, .slice none 0 c]).run P w = .ok v w := by
  rcases hown.2 with ⟨rfl, rfl⟩ | ⟨g, cap, cur, rfl, _, _, hnc, _⟩
  · simp [Builtin.append_, run_underlying ht, sizeOf, typeInfo, hi, Builtin.lenOf, Builtin.firstCells]
  · simp [Builtin.append_, run_underlying ht, sizeOf, typeInfo, hi, Builtin.lenOf, Builtin.firstCells, hnc, storeCells]

/-- Nothing is appended. -/
theorem wpl_append_nothing {P : Program} (w : World) {ops : Array Oper} {rest : List Oper} {o : Oper} {a : Act} {Q : Exit → Act → World → Prop} (hgd : o.guard = none) (s x : Operand) (t : TypeId)
    (ho : o.op = .call { callee := .builtin .append, args := #[s, x], argTypes := #[t, t] })
    (base : Nat) (e : TypeId) (i : TypeInfo) (size : Nat) (ht : P.underlying t = some (.slice e)) (hi : P.info? e = some i)
    (v : Value) (n : Nat) (xs : List Value) (hs : a.eval s = v) (hown : w.ownsRow base e size v n xs) (c : Nat) (hx : a.eval x = .slice none 0 c)
    (h : wpList P ops Q rest (a.put o.dst v) w) : wpList P ops Q (o :: rest) a w := by
  refine wpList_plain hgd fun K hK => ?_
  have hrun := run_append_nothing (P := P) (w := w) base t o.type e i size ht hi v n xs hown c
  unfold Oper.wp
  simp [execOp, ho, resolve, invoke, builtin, hs, hx, hrun, Result.andThen]
  exact hK _ _ h

/-! ### the place of a key, and its number -/
theorem placeI_at (l : List Itm) (s : ByteArray) : ∀ i : Nat, hasI l s = true → ∃ k, ∃ h : k < l.length, placeI l s i = (k + i : Nat) ∧ l[k].1 = s ∧ cnt l s = l[k].2 ∧ ∀ n, putI l s n = l.set k (s, n) := by
  induction l with
  | nil => intro i h; simp [hasI] at h
  | cons x r ih =>
    intro i h
    by_cases hx : x.1 = s
    · exact ⟨0, by simp, by simp [placeI, hx], hx, by simp [cnt, hx], fun n => by simp [putI, hx]⟩
    · simp only [hasI, hx, decide_false, Bool.false_or] at h
      obtain ⟨k, hk, h1, h2, h3, h4⟩ := ih (i + 1) h
      refine ⟨k + 1, by simpa using hk, ?_, by simpa using h2, by simp [cnt, hx, h3], fun n => by simp [putI, hx, h4]⟩
      simp only [placeI, hx, if_false, h1]
      omega

/-! ### a number put -/
theorem cellsI_set (l : List Itm) : ∀ (k : Nat) (h : k < l.length) (n : Int), (cellsI l).set (k * 2 + 1) (.int .i64 n) = cellsI (l.set k (l[k].1, n)) := by
  induction l with
  | nil => intro k h; simp at h
  | cons x r ih =>
    intro k h n
    cases k with
    | zero => simp [cellsI]
    | succ k =>
      have := ih k (by simpa using h) n
      have e : (k + 1) * 2 + 1 = k * 2 + 1 + 1 + 1 := by omega
      rw [e]
      simpa [cellsI] using this

theorem cellsI_setKey (l : List Itm) : ∀ (k : Nat) (h : k < l.length) (s : ByteArray), (cellsI l).set (k * 2) (.string s) = cellsI (l.set k (s, l[k].2)) := by
  induction l with
  | nil => intro k h; simp at h
  | cons x r ih =>
    intro k h s
    cases k with
    | zero => simp [cellsI]
    | succ k =>
      have := ih k (by simpa using h) s
      have e : (k + 1) * 2 = k * 2 + 1 + 1 := by omega
      rw [e]
      simpa [cellsI] using this
theorem okI_put {l : List Itm} {s : ByteArray} {n : Int} (h : okI l) (hs : s.size ≤ 9223372036854775807) (hn : -9223372036854775808 ≤ n ∧ n ≤ 9223372036854775807) : okI (putI l s n) := by
  induction l with
  | nil => intro x hx; simp [putI] at hx; subst hx; exact ⟨hs, hn.1, hn.2⟩
  | cons y r ih =>
    have hr : okI r := fun x hx => h x (by simp [hx])
    unfold putI
    split
    · intro x hx
      rcases List.mem_cons.1 hx with rfl | hx
      · exact ⟨hs, hn.1, hn.2⟩
      · exact hr x hx
    · intro x hx
      rcases List.mem_cons.1 hx with rfl | hx
      · exact h _ (by simp)
      · exact ih hr x hx

theorem row_cell_at {w : World} {B E S g n c m : Nat} {xs : List Value} {u : Value} (h : w.ownsRow B E S (.slice (some ⟨g, 0, none⟩) n c) m xs) {j : Nat} (hj : xs[j]? = some u) : w.cell? ⟨g, j, none⟩ = some u := by
  have hj1 : j < m * S := by have := (List.getElem?_eq_some_iff.1 hj).1; rw [h.1] at this; exact this
  rcases h.2 with ⟨h', _⟩ | ⟨g', cap', cur, h', hb, hg, hnc, hcm, hcs, htake⟩
  · simp at h'
  · simp only [Value.slice.injEq, Option.some.injEq, Addr.mk.injEq, and_true] at h'
    obtain ⟨rfl, rfl, rfl⟩ := h'
    have hj' : j < cur.size := by rw [hcs]; exact Nat.lt_of_lt_of_le hj1 (Nat.mul_le_mul_right _ hnc)
    rw [cell_of_row w g j cur E (0, 0) hg, ← hj, ← htake, List.getElem?_take_of_lt hj1]
    simp
/-- One number of a row of its own written. -/
theorem row_number {w : World} {B E g n cap : Nat} {l : List Itm} {k : Nat} (h : w.ownsRow B E 2 (.slice (some ⟨g, 0, none⟩) n cap) n (cellsI l)) (hk : k < l.length) (m : Int) :
    (w.setCell ⟨g, k * 2 + 1, none⟩ (.int .i64 m)).ownsRow B E 2 (.slice (some ⟨g, 0, none⟩) n cap) n (cellsI (l.set k (l[k].1, m))) := by
  have h1 := (h.stored (k * 2 + 1) (.int .i64 m)).1
  rw [cellsI_set l k hk m] at h1
  exact h1
theorem cells_at {l : List Itm} {k : Nat} (h : k < l.length) : (cellsI l)[k * 2]? = some (.string l[k].1) ∧ (cellsI l)[k * 2 + 1]? = some (.int .i64 l[k].2) := by
  induction l generalizing k with
  | nil => simp at h
  | cons x r ih =>
    cases k with
    | zero => simp [cellsI]
    | succ k =>
      have := ih (k := k) (by simpa using h)
      have e : (k + 1) * 2 = k * 2 + 1 + 1 := by omega
      rw [e]
      simpa [cellsI] using this

end Go.Proofs.Ytcipkdegcplmcaa
