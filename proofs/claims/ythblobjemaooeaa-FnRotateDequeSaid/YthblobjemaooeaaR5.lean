/-
  Keep, Spec, SpecR.
-/
import Derived.Maps.AppendAt
import Derived.Test.YthblobjemaooeaaR0
import Derived.Test.YthblobjemaooeaaR4
/-
  What stays as it was; rows of the call's own; what is valid.
-/
namespace Go.Proofs.Ythblobjemaooeaa
open Go.RowKit

theorem zeroN (w : World) : (zeroValue 3).run Try.prog w = .ok (.int .i64 0) w := by kernel_rfl
theorem Try.infoS : (Try.prog.info? 9).map (fun i => (i.zero, i.size, i.bytes)) = some (some (.string ⟨#[]⟩), 1, 16) := by kernel_rfl
/-- Of the blocks in K nothing has turned. -/
structure Keeps (K : Nat → Prop) (w w' : World) : Prop where
  os : w'.os = w.os
  tape : w'.tape = w.tape
  output : w'.output = w.output
  size : w.heap.size ≤ w'.heap.size
  block : ∀ k, K k → w'.heap[k]? = w.heap[k]?
section
variable {K : Nat → Prop} {w w' w'' : World}
theorem Keeps.refl (K : Nat → Prop) (w : World) : Keeps K w w := ⟨rfl, rfl, rfl, Nat.le_refl _, fun _ _ => rfl⟩
theorem Keeps.trans (h : Keeps K w w') (h' : Keeps K w' w'') : Keeps K w w'' :=
  ⟨h'.os.trans h.os, h'.tape.trans h.tape, h'.output.trans h.output, Nat.le_trans h.size h'.size, fun k hk => (h'.block k hk).trans (h.block k hk)⟩
theorem Keeps.drew (h : Keeps K w w') : Keeps K w w'.drew := ⟨h.os, h.tape, h.output, h.size, h.block⟩
theorem Keeps.alloc (h : Keeps K w w') (hK : ∀ k, K k → k < w.heap.size) (o : Obj) : Keeps K w (w'.alloc o) :=
  h.trans ⟨rfl, rfl, rfl, by simp, fun k hk => Below.heap_alloc _ _ _ (Nat.lt_of_lt_of_le (hK k hk) h.size)⟩
theorem Keeps.setCell (h : Keeps K w w') {a : Addr} (ha : ¬ K a.block) (u : Value) : Keeps K w (w'.setCell a u) :=
  h.trans ⟨rfl, rfl, rfl, by simp, fun k hk => Below.heap_setCell _ _ _ _ (fun e => ha (e ▸ hk))⟩
theorem Keeps.grown {row : Option Nat} (h : Keeps K w w') (hg : w'.grownBy w'' row) (hK : ∀ k, K k → k < w.heap.size) (hr : ∀ k, row = some k → ¬ K k) : Keeps K w w'' :=
  h.trans ⟨hg.os, hg.tape, hg.output, hg.size, fun k hk => hg.block k (Nat.lt_of_lt_of_le (hK k hk) h.size) (fun e => hr k e.symm hk)⟩
theorem Keeps.of_below {B : Nat} (h : Below B w w') (hK : ∀ k, K k → k < B) : Keeps K w w' := ⟨h.os, h.tape, h.output, h.size, fun k hk => h.block k (hK k hk)⟩
theorem Keeps.below {B : Nat} (h : Keeps K w w') (hK : ∀ k, k < B → K k) : Below B w w' := ⟨h.os, h.tape, h.output, h.size, fun k hk => h.block k (hK k hk)⟩
theorem Keeps.mono {K' : Nat → Prop} (h : Keeps K w w') (hK : ∀ k, K' k → K k) : Keeps K' w w' := ⟨h.os, h.tape, h.output, h.size, fun k hk => h.block k (hK k hk)⟩
theorem Keeps.cell (h : Keeps K w w') {a : Addr} (ha : K a.block) : w'.cell? a = w.cell? a := World.cell?_of_block (h.block _ ha)
theorem Keeps.own {B E S n : Nat} {v : Value} {xs : List Value} (h : Keeps K w w') (ho : w.ownsRow B E S v n xs) (hv : ∀ g, v.ownBlock = some g → K g) : w'.ownsRow B E S v n xs := by
  refine ⟨ho.1, ?_⟩
  rcases ho.2 with h2 | ⟨g, cap, cur, rfl, hg, hh, r⟩
  · exact .inl h2
  · exact .inr ⟨g, cap, cur, rfl, hg, (h.block g (hv g rfl)).trans hh, r⟩
/-- A slice all of whose cells lie in K. -/
def InK (K : Nat → Prop) (v : Value) : Prop := ∀ a n c, v = .slice (some a) n c → 0 < n → K a.block
theorem Items.inK {v : Value} {xs : List Itm} (h : Items w v xs) : InK (· < w.heap.size) v := by
  obtain ⟨ao, cap, rfl, hl, hc, hok, hcell⟩ := h
  intro a n c e hn
  simp only [Value.slice.injEq] at e
  obtain ⟨rfl, rfl, rfl⟩ := e
  obtain ⟨b, o, ha, hs, _⟩ := hcell 0 hn
  simp only [Option.some.injEq] at ha
  subst ha
  exact hs
theorem InK.mono {K K' : Nat → Prop} {v : Value} (h : InK K v) (hK : ∀ k, K k → K' k) : InK K' v := fun a n c e hn => hK _ (h a n c e hn)
theorem InK.nil (K : Nat → Prop) : InK K (.slice none 0 0) := fun a n c e => by cases e
theorem Items.nil (w : World) : Items w (.slice none 0 0) [] := ⟨none, 0, rfl, Nat.le_refl _, by omega, fun x hx => by simp at hx, fun k hk => by simp at hk⟩
theorem Items.keeps {v : Value} {xs : List Itm} (h : Items w v xs) (hk : Keeps K w w') (hv : InK K v) : Items w' v xs := by
  obtain ⟨ao, cap, rfl, hl, hc, hok, hcell⟩ := h
  refine ⟨ao, cap, rfl, hl, hc, hok, fun k hlt => ?_⟩
  obtain ⟨b, o, rfl, hs, h1, h2⟩ := hcell k hlt
  have hb : K b := hv _ _ _ rfl (by omega)
  exact ⟨b, o, rfl, Nat.lt_of_lt_of_le hs hk.size, (hk.cell (a := ⟨b, _, none⟩) hb).trans h1, (hk.cell (a := ⟨b, _, none⟩) hb).trans h2⟩
end

theorem own_shape {w : World} {B E S n : Nat} {v : Value} {xs : List Value} (h : w.ownsRow B E S v n xs) (hn : 0 < n) :
    ∃ g cap, v = .slice (some ⟨g, 0, none⟩) n cap ∧ n ≤ cap ∧ B ≤ g := by
  rcases h.2 with ⟨_, h'⟩ | ⟨g, cap, cur, rfl, hb, hg, hnc, hcm, hcs, htake⟩
  · omega
  · exact ⟨g, cap, rfl, hnc, hb⟩
theorem own_slice {w : World} {B E S n : Nat} {v : Value} {xs : List Value} (h : w.ownsRow B E S v n xs) : ∃ ao cap, v = .slice ao n cap ∧ n ≤ cap ∧ cap ≤ 9223372036854775807 := by
  rcases h.2 with ⟨rfl, rfl⟩ | ⟨g, cap, cur, rfl, hb, hg, hnc, hcm, hcs, htake⟩
  · exact ⟨none, 0, rfl, Nat.le_refl _, by omega⟩
  · exact ⟨_, cap, rfl, hnc, by unfold maxLen at hcm; exact hcm⟩
/-- A row of keys is no tally's block. -/
theorem own_ne {w : World} {B E T S n t : Nat} {v : Value} {xs : List Value} {cs : Array Value} (h : w.ownsRow B E S v n xs) (ht : w.heap[t]? = some (.cells cs T (0, 0))) (hE : E ≠ T) : v.ownBlock ≠ some t := by
  rcases h.2 with ⟨rfl, _⟩ | ⟨g, cap, cur, rfl, hb, hg, r⟩
  · simp [Value.ownBlock]
  · simp only [Value.ownBlock, ne_eq, Option.some.injEq]
    rintro rfl
    rw [hg] at ht
    simp only [Option.some.injEq, Obj.cells.injEq] at ht
    exact hE ht.2.1
theorem grow_block {w w1 : World} {o : Obj} {t : Nat} {c : Obj} {row : Option Nat} (h : w.heap[t]? = some c) (hg : (w.alloc o).grownBy w1 row) (hne : row ≠ some t) : w1.heap[t]? = some c := by
  have hlt := lt_of_block h
  rw [hg.block t (by simp; omega) (Ne.symm hne), Below.heap_alloc _ _ _ hlt, h]
section
variable {w : World} {t : Nat} {v u : Value} {T : TypeId}
theorem two_cell0 (h : w.heap[t]? = some (.cells #[v, u] T (0, 0))) : w.cell? ⟨t, 0, none⟩ = some v := by simp [World.cell?, h]
theorem two_cell1 (h : w.heap[t]? = some (.cells #[v, u] T (0, 0))) : w.cell? ⟨t, 1, none⟩ = some u := by simp [World.cell?, h]
theorem two_free (h : w.heap[t]? = some (.cells #[v, u] T (0, 0))) (j : Nat) : w.frozen? ⟨t, j, none⟩ = false := by simp [World.frozen?, h]
theorem two_set0 (h : w.heap[t]? = some (.cells #[v, u] T (0, 0))) (v' : Value) : (w.setCell ⟨t, 0, none⟩ v').heap[t]? = some (.cells #[v', u] T (0, 0)) := by
  have hlt := lt_of_block h
  have h' : w.heap[t] = .cells #[v, u] T (0, 0) := by simpa [Array.getElem?_eq_getElem hlt] using h
  show (w.heap.modify t _)[t]? = _
  rw [Array.getElem?_eq_getElem (by simpa using hlt), Array.getElem_modify_self, h']
  rfl
end

theorem cells_two_new (w : World) (a b : Value) (E : TypeId) : ∀ (j : Nat) (u : Value), [a, b][j]? = some u → (w.alloc (.cells #[a, b] E)).cell? ((⟨w.heap.size, 0, none⟩ : Addr).add j) = some u := by
  intro j u hu
  match j, hu with
  | 0, hu => simp at hu; subst hu; simp [Addr.add]
  | 1, hu => simp at hu; subst hu; simp [Addr.add]
  | j + 2, hu => simp at hu
theorem own_cell {w : World} {B E n m cap k : Nat} {ao : Option Addr} {xs : List Value} {u : Value} (h : w.ownsRow B E 1 (.slice ao m cap) n xs) (hk : k < n) (hu : xs[k]? = some u) : ∃ g, ao = some ⟨g, 0, none⟩ ∧ g < w.heap.size ∧ w.cell? ⟨g, k, none⟩ = some u := by
  rcases h.2 with ⟨h', h0⟩ | ⟨g, cap', cur, h', hb, hg, hnc, hcm, hcs, htake⟩
  · omega
  · simp only [Value.slice.injEq] at h'
    obtain ⟨rfl, rfl, rfl⟩ := h'
    refine ⟨g, rfl, (Array.getElem?_eq_some_iff.1 hg).1, ?_⟩
    rw [cell_of_row w g k cur E (0, 0) hg]
    rw [← htake, List.getElem?_take, if_pos (by omega)] at hu
    simpa using hu
theorem okI_filter {l : List Itm} (h : okI l) (q : Itm → Bool) : okI (l.filter q) := fun x hx => h x (List.mem_filter.1 hx).1
theorem Items.ok {w : World} {v : Value} {xs : List Itm} (h : Items w v xs) : okI xs := by obtain ⟨_, _, _, _, _, h, _⟩ := h; exact h
theorem OwnI.base {E : Nat} {w : World} {B B' : Nat} {v : Value} {xs : List Itm} (h : OwnI E w B v xs) (hB : B' ≤ B) : OwnI E w B' v xs := by
  refine ⟨⟨h.1.1, ?_⟩, h.2⟩
  rcases h.1.2 with h2 | ⟨g, cap, cur, e, hg, r⟩
  · exact .inl h2
  · exact .inr ⟨g, cap, cur, e, Nat.le_trans hB hg, r⟩

/-- Items, or none where they are not valid. -/
def chkI (l : List Itm) : List Itm := if validI l = true then l else []
theorem OwnI_nil (E : Nat) (w : World) (B : Nat) : OwnI E w B (.slice none 0 0) [] := ⟨World.ownsRow_nil _ _ _ _, fun x hx => by simp at hx⟩
theorem valid_num {l : List Itm} (h : validI l = true) : ∀ x ∈ l, -9999 ≤ x.2 ∧ x.2 ≤ 9999 := fun x hx => numB_iff.1 (((validI_iff l).1 h).1 x hx).2
theorem valid_len {l : List Itm} (h : validI l = true) : l.length ≤ 8 := ((validI_iff l).1 h).2.2
theorem valid_uniq {l : List Itm} (h : validI l = true) : uniqI l = true := ((validI_iff l).1 h).2.1
/-- Both valid: what follows is asked of small lists. -/
theorem both_yes {a b : List Itm} (h : (validI a && validI b) = true) : validI a = true ∧ validI b = true := by simpa using h
theorem chk_le (l : List Itm) : (chkI l).length ≤ 10000000 := by
  unfold chkI
  cases h : validI l
  · simp
  · have := valid_len h
    simp
    omega
theorem if_chk_le (b : Bool) (l : List Itm) : (if b = true then chkI l else []).length ≤ 10000000 := by
  cases b
  · simp
  · simp only [if_true]; exact chk_le l
theorem two_set1 {w : World} {t : Nat} {v u : Value} {T : TypeId} (h : w.heap[t]? = some (.cells #[v, u] T (0, 0))) (u' : Value) : (w.setCell ⟨t, 1, none⟩ u').heap[t]? = some (.cells #[v, u'] T (0, 0)) := by
  have hlt := lt_of_block h
  have h' : w.heap[t] = .cells #[v, u] T (0, 0) := by simpa [Array.getElem?_eq_getElem hlt] using h
  show (w.heap.modify t _)[t]? = _
  rw [Array.getElem?_eq_getElem (by simpa using hlt), Array.getElem_modify_self, h']
  rfl
theorem size_alloc_le {n : Nat} {w : World} (h : n ≤ w.heap.size) (o : Go.Obj) : n ≤ (w.alloc o).heap.size := by simp; omega
end Go.Proofs.Ythblobjemaooeaa
/-
  The model's small functions over items: a copy, a count, a number put, what is positive.
-/
namespace Go.Proofs.Ythblobjemaooeaa
open Go.RowKit

theorem cellsI_one (xs : List Itm) : ∀ u ∈ cellsI xs, u.oneCell' = true := by
  intro u hu
  obtain ⟨x, _, hx⟩ := List.mem_flatMap.1 hu
  simp at hx
  rcases hx with rfl | rfl <;> rfl

/-- The cells of a slice of items, one by one. -/
theorem Items.news {w : World} {b o n cap : Nat} {sp : Option Nat} {xs : List Itm} (h : Items w (.slice (some ⟨b, o, sp⟩) n cap) xs) : ∀ j u, (cellsI xs)[j]? = some u → w.cell? ((⟨b, o, sp⟩ : Addr).add j) = some u := by
  intro j u hu
  obtain ⟨ao, cap', e, hl, hc, hok, hcell⟩ := h
  simp only [Value.slice.injEq] at e
  obtain ⟨rfl, rfl, rfl⟩ := e
  have hj : j < xs.length * 2 := by rw [← cellsI_length]; exact (List.getElem?_eq_some_iff.1 hu).1
  have hk : j / 2 < xs.length := by omega
  obtain ⟨b', o', e, _, h1, h2⟩ := hcell (j / 2) hk
  simp only [Option.some.injEq, Addr.mk.injEq] at e
  obtain ⟨rfl, rfl, rfl⟩ := e
  have hf := cellsI_fst xs (j / 2) hk
  rw [Addr.add_lit]
  rcases Nat.mod_two_eq_zero_or_one j with h | h
  · have e : j = j / 2 * 2 := by omega
    rw [e] at hu
    rw [e, h1, ← hu, hf.1]
  · have e : j = j / 2 * 2 + 1 := by omega
    rw [e] at hu
    rw [e, ← Nat.add_assoc, h2, ← hu, hf.2]

theorem run_append_nothing {P : Program} {w : World} (base : Nat) (t ty e : TypeId) (i : TypeInfo) (size : Nat) (ht : P.underlying t = some (.slice e)) (hi : P.info? e = some i)
    (v : Value) (n : Nat) (xs : List Value) (hown : w.ownsRow base e size v n xs) (c : Nat) :
    (Builtin.append_ #[t, t] ty #[v, .slice none 0 c]).run P w = .ok v w := by
  rcases hown.2 with ⟨rfl, rfl⟩ | ⟨g, cap, cur, rfl, _, _, hnc, _⟩
  · simp [Builtin.append_, run_underlying ht, sizeOf, typeInfo, hi, Builtin.lenOf, Builtin.firstCells]
  · simp [Builtin.append_, run_underlying ht, sizeOf, typeInfo, hi, Builtin.lenOf, Builtin.firstCells, hnc, storeCells]

/-- Nothing is appended. -/
theorem wpl_append_nothing {P : Program} (w : World) {ops : Array Oper} {rest : List Oper} {o : Oper} {a : Act} {Q : Exit → Act → World → Prop} (hgd : o.guard = none) (s x : Operand) (t : TypeId)
    (ho : o.op = .call { callee := .builtin .append, args := #[s, x], argTypes := #[t, t] })
    (base : Nat) (e : TypeId) (i : TypeInfo) (size : Nat) (ht : P.underlying t = some (.slice e)) (hi : P.info? e = some i)
    (v : Value) (n : Nat) (xs : List Value) (hs : a.eval s = v) (hown : w.ownsRow base e size v n xs) (c : Nat) (hx : a.eval x = .slice none 0 c)
    (h : wpList P ops Q rest (a.put o.dst v) w) : wpList P ops Q (o :: rest) a w := by
  refine wpList_plain hgd fun K hK => ?_
  have hrun := run_append_nothing (P := P) (w := w) base t o.type e i size ht hi v n xs hown c
  unfold Oper.wp
  simp [execOp, ho, resolve, invoke, builtin, hs, hx, hrun, Result.andThen]
  exact hK _ _ h

/-! ### the place of a key, and its number -/
theorem placeI_at (l : List Itm) (s : ByteArray) : ∀ i : Nat, hasI l s = true → ∃ k, ∃ h : k < l.length, placeI l s i = (k + i : Nat) ∧ l[k].1 = s ∧ cnt l s = l[k].2 ∧ ∀ n, putI l s n = l.set k (s, n) := by
  induction l with
  | nil => intro i h; simp [hasI] at h
  | cons x r ih =>
    intro i h
    by_cases hx : x.1 = s
    · exact ⟨0, by simp, by simp [placeI, hx], hx, by simp [cnt, hx], fun n => by simp [putI, hx]⟩
    · simp only [hasI, hx, decide_false, Bool.false_or] at h
      obtain ⟨k, hk, h1, h2, h3, h4⟩ := ih (i + 1) h
      refine ⟨k + 1, by simpa using hk, ?_, by simpa using h2, by simp [cnt, hx, h3], fun n => by simp [putI, hx, h4]⟩
      simp only [placeI, hx, if_false, h1]
      omega

/-! ### a number put -/
theorem cellsI_set (l : List Itm) : ∀ (k : Nat) (h : k < l.length) (n : Int), (cellsI l).set (k * 2 + 1) (.int .i64 n) = cellsI (l.set k (l[k].1, n)) := by
  induction l with
  | nil => intro k h; simp at h
  | cons x r ih =>
    intro k h n
    cases k with
    | zero => simp [cellsI]
    | succ k =>
      have := ih k (by simpa using h) n
      have e : (k + 1) * 2 + 1 = k * 2 + 1 + 1 + 1 := by omega
      rw [e]
      simpa [cellsI] using this

theorem cellsI_setKey (l : List Itm) : ∀ (k : Nat) (h : k < l.length) (s : ByteArray), (cellsI l).set (k * 2) (.string s) = cellsI (l.set k (s, l[k].2)) := by
  induction l with
  | nil => intro k h; simp at h
  | cons x r ih =>
    intro k h s
    cases k with
    | zero => simp [cellsI]
    | succ k =>
      have := ih k (by simpa using h) s
      have e : (k + 1) * 2 = k * 2 + 1 + 1 := by omega
      rw [e]
      simpa [cellsI] using this
theorem okI_put {l : List Itm} {s : ByteArray} {n : Int} (h : okI l) (hs : s.size ≤ 9223372036854775807) (hn : -9223372036854775808 ≤ n ∧ n ≤ 9223372036854775807) : okI (putI l s n) := by
  induction l with
  | nil => intro x hx; simp [putI] at hx; subst hx; exact ⟨hs, hn.1, hn.2⟩
  | cons y r ih =>
    have hr : okI r := fun x hx => h x (by simp [hx])
    unfold putI
    split
    · intro x hx
      rcases List.mem_cons.1 hx with rfl | hx
      · exact ⟨hs, hn.1, hn.2⟩
      · exact hr x hx
    · intro x hx
      rcases List.mem_cons.1 hx with rfl | hx
      · exact h _ (by simp)
      · exact ih hr x hx

theorem row_cell_at {w : World} {B E S g n c m : Nat} {xs : List Value} {u : Value} (h : w.ownsRow B E S (.slice (some ⟨g, 0, none⟩) n c) m xs) {j : Nat} (hj : xs[j]? = some u) : w.cell? ⟨g, j, none⟩ = some u := by
  have hj1 : j < m * S := by have := (List.getElem?_eq_some_iff.1 hj).1; rw [h.1] at this; exact this
  rcases h.2 with ⟨h', _⟩ | ⟨g', cap', cur, h', hb, hg, hnc, hcm, hcs, htake⟩
  · simp at h'
  · simp only [Value.slice.injEq, Option.some.injEq, Addr.mk.injEq, and_true] at h'
    obtain ⟨rfl, rfl, rfl⟩ := h'
    have hj' : j < cur.size := by rw [hcs]; exact Nat.lt_of_lt_of_le hj1 (Nat.mul_le_mul_right _ hnc)
    rw [cell_of_row w g j cur E (0, 0) hg, ← hj, ← htake, List.getElem?_take_of_lt hj1]
    simp
/-- One number of a row of its own written. -/
theorem row_number {w : World} {B E g n cap : Nat} {l : List Itm} {k : Nat} (h : w.ownsRow B E 2 (.slice (some ⟨g, 0, none⟩) n cap) n (cellsI l)) (hk : k < l.length) (m : Int) :
    (w.setCell ⟨g, k * 2 + 1, none⟩ (.int .i64 m)).ownsRow B E 2 (.slice (some ⟨g, 0, none⟩) n cap) n (cellsI (l.set k (l[k].1, m))) := by
  have h1 := (h.stored (k * 2 + 1) (.int .i64 m)).1
  rw [cellsI_set l k hk m] at h1
  exact h1
theorem cells_at {l : List Itm} {k : Nat} (h : k < l.length) : (cellsI l)[k * 2]? = some (.string l[k].1) ∧ (cellsI l)[k * 2 + 1]? = some (.int .i64 l[k].2) := by
  induction l generalizing k with
  | nil => simp at h
  | cons x r ih =>
    cases k with
    | zero => simp [cellsI]
    | succ k =>
      have := ih (k := k) (by simpa using h)
      have e : (k + 1) * 2 = k * 2 + 1 + 1 := by omega
      rw [e]
      simpa [cellsI] using this

end Go.Proofs.Ythblobjemaooeaa
/-
  The model's rest of items.
-/
namespace Go.Proofs.Ythblobjemaooeaa
open Go.RowKit

theorem drewN_self (w : World) : ∃ n, w = w.drewN n := ⟨0, rfl⟩
theorem drewN_belows {w w' : World} (h : ∃ n, w' = w.drewN n) : Below w.heap.size w w' := by
  obtain ⟨n, rfl⟩ := h
  exact ⟨rfl, rfl, rfl, Nat.le_refl _, fun _ _ => rfl⟩
theorem Items.drewN {w wr : World} {v : Value} {xs : List Itm} (h : Items w v xs) (hw : ∃ n, wr = w.drewN n) : Items wr v xs := h.mono (drewN_belows hw) (Nat.le_refl _)
theorem rest_yes {b a : List Itm} {k : Nat} (h : k < b.length) (hq : hasI a b[k].1 = false) : restI (b.take (k + 1)) a = restI (b.take k) a ++ [b[k]] := by
  unfold restI; rw [List.take_succ_eq_append_getElem h, List.filter_append]; simp [hq]
theorem rest_no {b a : List Itm} {k : Nat} (h : k < b.length) (hq : hasI a b[k].1 = true) : restI (b.take (k + 1)) a = restI (b.take k) a := by
  unfold restI; rw [List.take_succ_eq_append_getElem h, List.filter_append]; simp [hq]
theorem rest_le (b a : List Itm) : (restI b a).length ≤ b.length := List.length_filter_le _ _
theorem Items.drew {w : World} {v : Value} {xs : List Itm} (h : Items w v xs) : Items w.drew v xs := h
end Go.Proofs.Ythblobjemaooeaa
