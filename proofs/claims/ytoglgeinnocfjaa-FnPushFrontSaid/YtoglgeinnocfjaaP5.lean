/-
  Keep, Spec, SpecR.
-/
import Derived.Maps.AppendAt
import Derived.Test.YtoglgeinnocfjaaP0
import Derived.Test.YtoglgeinnocfjaaP4
/-
  What stays as it was; rows of the call's own; what is valid.
-/
namespace Go.Proofs.Ytoglgeinnocfjaa
open Go.RowKit

theorem zeroN (w : World) : (zeroValue 3).run Try.prog w = .ok (.int .i64 0) w := by kernel_rfl
theorem Try.infoS : (Try.prog.info? 9).map (fun i => (i.zero, i.size, i.bytes)) = some (some (.string ⟨#[]⟩), 1, 16) := by kernel_rfl
/-- Of the blocks in K nothing has turned. -/
structure Keeps (K : Nat → Prop) (w w' : World) : Prop where
  os : w'.os = w.os
  tape : w'.tape = w.tape
  output : w'.output = w.output
  size : w.heap.size ≤ w'.heap.size
  block : ∀ k, K k → w'.heap[k]? = w.heap[k]?
section
variable {K : Nat → Prop} {w w' w'' : World}
theorem Keeps.refl (K : Nat → Prop) (w : World) : Keeps K w w := ⟨rfl, rfl, rfl, Nat.le_refl _, fun _ _ => rfl⟩
theorem Keeps.trans (h : Keeps K w w') (h' : Keeps K w' w'') : Keeps K w w'' :=
  ⟨h'.os.trans h.os, h'.tape.trans h.tape, h'.output.trans h.output, Nat.le_trans h.size h'.size, fun k hk => (h'.block k hk).trans (h.block k hk)⟩
theorem Keeps.drew (h : Keeps K w w') : Keeps K w w'.drew := ⟨h.os, h.tape, h.output, h.size, h.block⟩
theorem Keeps.alloc (h : Keeps K w w') (hK : ∀ k, K k → k < w.heap.size) (o : Obj) : Keeps K w (w'.alloc o) :=
  h.trans ⟨rfl, rfl, rfl, by simp, fun k hk => Below.heap_alloc _ _ _ (Nat.lt_of_lt_of_le (hK k hk) h.size)⟩
theorem Keeps.setCell (h : Keeps K w w') {a : Addr} (ha : ¬ K a.block) (u : Value) : Keeps K w (w'.setCell a u) :=
  h.trans ⟨rfl, rfl, rfl, by simp, fun k hk => Below.heap_setCell _ _ _ _ (fun e => ha (e ▸ hk))⟩
theorem Keeps.grown {row : Option Nat} (h : Keeps K w w') (hg : w'.grownBy w'' row) (hK : ∀ k, K k → k < w.heap.size) (hr : ∀ k, row = some k → ¬ K k) : Keeps K w w'' :=
  h.trans ⟨hg.os, hg.tape, hg.output, hg.size, fun k hk => hg.block k (Nat.lt_of_lt_of_le (hK k hk) h.size) (fun e => hr k e.symm hk)⟩
theorem Keeps.of_below {B : Nat} (h : Below B w w') (hK : ∀ k, K k → k < B) : Keeps K w w' := ⟨h.os, h.tape, h.output, h.size, fun k hk => h.block k (hK k hk)⟩
theorem Keeps.below {B : Nat} (h : Keeps K w w') (hK : ∀ k, k < B → K k) : Below B w w' := ⟨h.os, h.tape, h.output, h.size, fun k hk => h.block k (hK k hk)⟩
theorem Keeps.mono {K' : Nat → Prop} (h : Keeps K w w') (hK : ∀ k, K' k → K k) : Keeps K' w w' := ⟨h.os, h.tape, h.output, h.size, fun k hk => h.block k (hK k hk)⟩
theorem Keeps.cell (h : Keeps K w w') {a : Addr} (ha : K a.block) : w'.cell? a = w.cell? a := World.cell?_of_block (h.block _ ha)
theorem Keeps.own {B E S n : Nat} {v : Value} {xs : List Value} (h : Keeps K w w') (ho : w.ownsRow B E S v n xs) (hv : ∀ g, v.ownBlock = some g → K g) : w'.ownsRow B E S v n xs := by
  refine ⟨ho.1, ?_⟩
  rcases ho.2 with h2 | ⟨g, cap, cur, rfl, hg, hh, r⟩
  · exact .inl h2
  · exact .inr ⟨g, cap, cur, rfl, hg, (h.block g (hv g rfl)).trans hh, r⟩
/-- A slice all of whose cells lie in K. -/
def InK (K : Nat → Prop) (v : Value) : Prop := ∀ a n c, v = .slice (some a) n c → 0 < n → K a.block
theorem Items.inK {v : Value} {xs : List Itm} (h : Items w v xs) : InK (· < w.heap.size) v := by
  obtain ⟨ao, cap, rfl, hl, hc, hok, hcell⟩ := h
  intro a n c e hn
  simp only [Value.slice.injEq] at e
  obtain ⟨rfl, rfl, rfl⟩ := e
  obtain ⟨b, o, ha, hs, _⟩ := hcell 0 hn
  simp only [Option.some.injEq] at ha
  subst ha
  exact hs
theorem InK.mono {K K' : Nat → Prop} {v : Value} (h : InK K v) (hK : ∀ k, K k → K' k) : InK K' v := fun a n c e hn => hK _ (h a n c e hn)
theorem InK.nil (K : Nat → Prop) : InK K (.slice none 0 0) := fun a n c e => by cases e
theorem Items.nil (w : World) : Items w (.slice none 0 0) [] := ⟨none, 0, rfl, Nat.le_refl _, by omega, fun x hx => by simp at hx, fun k hk => by simp at hk⟩
theorem Items.keeps {v : Value} {xs : List Itm} (h : Items w v xs) (hk : Keeps K w w') (hv : InK K v) : Items w' v xs := by
  obtain ⟨ao, cap, rfl, hl, hc, hok, hcell⟩ := h
  refine ⟨ao, cap, rfl, hl, hc, hok, fun k hlt => ?_⟩
  obtain ⟨b, o, rfl, hs, h1, h2⟩ := hcell k hlt
  have hb : K b := hv _ _ _ rfl (by omega)
  exact ⟨b, o, rfl, Nat.lt_of_lt_of_le hs hk.size, (hk.cell (a := ⟨b, _, none⟩) hb).trans h1, (hk.cell (a := ⟨b, _, none⟩) hb).trans h2⟩
end

theorem own_shape {w : World} {B E S n : Nat} {v : Value} {xs : List Value} (h : w.ownsRow B E S v n xs) (hn : 0 < n) :
    ∃ g cap, v = .slice (some ⟨g, 0, none⟩) n cap ∧ n ≤ cap ∧ B ≤ g := by
  rcases h.2 with ⟨_, h'⟩ | ⟨g, cap, cur, rfl, hb, hg, hnc, hcm, hcs, htake⟩
  · omega
  · exact ⟨g, cap, rfl, hnc, hb⟩
theorem own_slice {w : World} {B E S n : Nat} {v : Value} {xs : List Value} (h : w.ownsRow B E S v n xs) : ∃ ao cap, v = .slice ao n cap ∧ n ≤ cap ∧ cap ≤ 9223372036854775807 := by
  rcases h.2 with ⟨rfl, rfl⟩ | ⟨g, cap, cur, rfl, hb, hg, hnc, hcm, hcs, htake⟩
  · exact ⟨none, 0, rfl, Nat.le_refl _, by omega⟩
  · exact ⟨_, cap, rfl, hnc, by unfold maxLen at hcm; exact hcm⟩
/-- A row of keys is no tally's block. -/
theorem own_ne {w : World} {B E T S n t : Nat} {v : Value} {xs : List Value} {cs : Array Value} (h : w.ownsRow B E S v n xs) (ht : w.heap[t]? = some (.cells cs T (0, 0))) (hE : E ≠ T) : v.ownBlock ≠ some t := by
  rcases h.2 with ⟨rfl, _⟩ | ⟨g, cap, cur, rfl, hb, hg, r⟩
  · simp [Value.ownBlock]
  · simp only [Value.ownBlock, ne_eq, Option.some.injEq]
    rintro rfl
    rw [hg] at ht
    simp only [Option.some.injEq, Obj.cells.injEq] at ht
    exact hE ht.2.1
theorem grow_block {w w1 : World} {o : Obj} {t : Nat} {c : Obj} {row : Option Nat} (h : w.heap[t]? = some c) (hg : (w.alloc o).grownBy w1 row) (hne : row ≠ some t) : w1.heap[t]? = some c := by
  have hlt := lt_of_block h
  rw [hg.block t (by simp; omega) (Ne.symm hne), Below.heap_alloc _ _ _ hlt, h]
section
variable {w : World} {t : Nat} {v u : Value} {T : TypeId}
theorem two_cell0 (h : w.heap[t]? = some (.cells #[v, u] T (0, 0))) : w.cell? ⟨t, 0, none⟩ = some v := by simp [World.cell?, h]
theorem two_cell1 (h : w.heap[t]? = some (.cells #[v, u] T (0, 0))) : w.cell? ⟨t, 1, none⟩ = some u := by simp [World.cell?, h]
theorem two_free (h : w.heap[t]? = some (.cells #[v, u] T (0, 0))) (j : Nat) : w.frozen? ⟨t, j, none⟩ = false := by simp [World.frozen?, h]
theorem two_set0 (h : w.heap[t]? = some (.cells #[v, u] T (0, 0))) (v' : Value) : (w.setCell ⟨t, 0, none⟩ v').heap[t]? = some (.cells #[v', u] T (0, 0)) := by
  have hlt := lt_of_block h
  have h' : w.heap[t] = .cells #[v, u] T (0, 0) := by simpa [Array.getElem?_eq_getElem hlt] using h
  show (w.heap.modify t _)[t]? = _
  rw [Array.getElem?_eq_getElem (by simpa using hlt), Array.getElem_modify_self, h']
  rfl
end

theorem cells_two_new (w : World) (a b : Value) (E : TypeId) : ∀ (j : Nat) (u : Value), [a, b][j]? = some u → (w.alloc (.cells #[a, b] E)).cell? ((⟨w.heap.size, 0, none⟩ : Addr).add j) = some u := by
  intro j u hu
  match j, hu with
  | 0, hu => simp at hu; subst hu; simp [Addr.add]
  | 1, hu => simp at hu; subst hu; simp [Addr.add]
  | j + 2, hu => simp at hu
theorem own_cell {w : World} {B E n m cap k : Nat} {ao : Option Addr} {xs : List Value} {u : Value} (h : w.ownsRow B E 1 (.slice ao m cap) n xs) (hk : k < n) (hu : xs[k]? = some u) : ∃ g, ao = some ⟨g, 0, none⟩ ∧ g < w.heap.size ∧ w.cell? ⟨g, k, none⟩ = some u := by
  rcases h.2 with ⟨h', h0⟩ | ⟨g, cap', cur, h', hb, hg, hnc, hcm, hcs, htake⟩
  · omega
  · simp only [Value.slice.injEq] at h'
    obtain ⟨rfl, rfl, rfl⟩ := h'
    refine ⟨g, rfl, (Array.getElem?_eq_some_iff.1 hg).1, ?_⟩
    rw [cell_of_row w g k cur E (0, 0) hg]
    rw [← htake, List.getElem?_take, if_pos (by omega)] at hu
    simpa using hu
theorem okI_filter {l : List Itm} (h : okI l) (q : Itm → Bool) : okI (l.filter q) := fun x hx => h x (List.mem_filter.1 hx).1
theorem Items.ok {w : World} {v : Value} {xs : List Itm} (h : Items w v xs) : okI xs := by obtain ⟨_, _, _, _, _, h, _⟩ := h; exact h
theorem OwnI.base {E : Nat} {w : World} {B B' : Nat} {v : Value} {xs : List Itm} (h : OwnI E w B v xs) (hB : B' ≤ B) : OwnI E w B' v xs := by
  refine ⟨⟨h.1.1, ?_⟩, h.2⟩
  rcases h.1.2 with h2 | ⟨g, cap, cur, e, hg, r⟩
  · exact .inl h2
  · exact .inr ⟨g, cap, cur, e, Nat.le_trans hB hg, r⟩

/-- Items, or none where they are not valid. -/
def chkI (l : List Itm) : List Itm := if validI l = true then l else []
/-- A new list. -/
def NewI (l : List Itm) (w : World) (e : Ending) (w' : World) : Prop :=
  ∃ v, e = .returned v ∧ OwnI 74 w' w.heap.size v l ∧ Below w.heap.size w w'
/-- A new list and whether it is one. -/
def NewI2 (l : List Itm) (ok : Bool) (w : World) (e : Ending) (w' : World) : Prop :=
  ∃ v, e = .returned (.tuple #[v, .bool ok]) ∧ OwnI 74 w' w.heap.size v l ∧ Below w.heap.size w w'
theorem OwnI_nil (E : Nat) (w : World) (B : Nat) : OwnI E w B (.slice none 0 0) [] := ⟨World.ownsRow_nil _ _ _ _, fun x hx => by simp at hx⟩
theorem valid_num {l : List Itm} (h : validI l = true) : ∀ x ∈ l, -9999 ≤ x.2 ∧ x.2 ≤ 9999 := fun x hx => numB_iff.1 (((validI_iff l).1 h).1 x hx).2
theorem valid_len {l : List Itm} (h : validI l = true) : l.length ≤ 8 := ((validI_iff l).1 h).2.2
theorem valid_uniq {l : List Itm} (h : validI l = true) : uniqI l = true := ((validI_iff l).1 h).2.1
theorem Vi_v {v : Value} {xs : List Itm} {b : Bool} (w : World) (h : Items w v xs) (hb : validI xs = b) : Calls Try.prog 44 #[v] w fun e w' => e = .returned (.bool b) ∧ Below w.heap.size w w' :=
  (ValidItems_any v xs w h).mono fun _ _ ⟨he, hw⟩ => ⟨hb ▸ he, hw⟩
theorem checked_any {B : Nat} {v : Value} {l : List Itm} (w : World) (h : OwnI 74 w B v l) :
    Calls Try.prog 145 #[v] w fun e w' => ∃ v', e = .returned (.tuple #[v', .bool (validI l)]) ∧ OwnI 74 w' B v' (chkI l) ∧ Below w.heap.size w w' := by
  go_enter Try.func145, Try.ntmps145
  cases hv : validI l
  all_goals
    have H := Lib.hid hv
    clear hv
    go_wp2_with fail
    refine (Vi_v _ h.items H.out).mono ?_
    rintro e w1 ⟨rfl, hb1⟩
    go_wp2
    go_ret2
  · exact ⟨_, rfl, by unfold chkI; rw [H.out]; exact OwnI_nil _ _ _, hb1⟩
  · exact ⟨_, rfl, by unfold chkI; rw [H.out]; exact h.below hb1 (Nat.le_refl _), hb1⟩
/-- Both valid: what follows is asked of small lists. -/
theorem both_yes {a b : List Itm} (h : (validI a && validI b) = true) : validI a = true ∧ validI b = true := by simpa using h
theorem chk_le (l : List Itm) : (chkI l).length ≤ 10000000 := by
  unfold chkI
  cases h : validI l
  · simp
  · have := valid_len h
    simp
    omega
theorem if_chk_le (b : Bool) (l : List Itm) : (if b = true then chkI l else []).length ≤ 10000000 := by
  cases b
  · simp
  · simp only [if_true]; exact chk_le l
theorem two_set1 {w : World} {t : Nat} {v u : Value} {T : TypeId} (h : w.heap[t]? = some (.cells #[v, u] T (0, 0))) (u' : Value) : (w.setCell ⟨t, 1, none⟩ u').heap[t]? = some (.cells #[v, u'] T (0, 0)) := by
  have hlt := lt_of_block h
  have h' : w.heap[t] = .cells #[v, u] T (0, 0) := by simpa [Array.getElem?_eq_getElem hlt] using h
  show (w.heap.modify t _)[t]? = _
  rw [Array.getElem?_eq_getElem (by simpa using hlt), Array.getElem_modify_self, h']
  rfl
theorem size_alloc_le {n : Nat} {w : World} (h : n ≤ w.heap.size) (o : Go.Obj) : n ≤ (w.alloc o).heap.size := by simp; omega
end Go.Proofs.Ytoglgeinnocfjaa
/-
  The model's small functions over items: a copy, a count, a number put, what is positive.
-/
namespace Go.Proofs.Ytoglgeinnocfjaa
open Go.RowKit

theorem cellsI_one (xs : List Itm) : ∀ u ∈ cellsI xs, u.oneCell' = true := by
  intro u hu
  obtain ⟨x, _, hx⟩ := List.mem_flatMap.1 hu
  simp at hx
  rcases hx with rfl | rfl <;> rfl

/-- The cells of a slice of items, one by one. -/
theorem Items.news {w : World} {b o n cap : Nat} {sp : Option Nat} {xs : List Itm} (h : Items w (.slice (some ⟨b, o, sp⟩) n cap) xs) : ∀ j u, (cellsI xs)[j]? = some u → w.cell? ((⟨b, o, sp⟩ : Addr).add j) = some u := by
  intro j u hu
  obtain ⟨ao, cap', e, hl, hc, hok, hcell⟩ := h
  simp only [Value.slice.injEq] at e
  obtain ⟨rfl, rfl, rfl⟩ := e
  have hj : j < xs.length * 2 := by rw [← cellsI_length]; exact (List.getElem?_eq_some_iff.1 hu).1
  have hk : j / 2 < xs.length := by omega
  obtain ⟨b', o', e, _, h1, h2⟩ := hcell (j / 2) hk
  simp only [Option.some.injEq, Addr.mk.injEq] at e
  obtain ⟨rfl, rfl, rfl⟩ := e
  have hf := cellsI_fst xs (j / 2) hk
  rw [Addr.add_lit]
  rcases Nat.mod_two_eq_zero_or_one j with h | h
  · have e : j = j / 2 * 2 := by omega
    rw [e] at hu
    rw [e, h1, ← hu, hf.1]
  · have e : j = j / 2 * 2 + 1 := by omega
    rw [e] at hu
    rw [e, ← Nat.add_assoc, h2, ← hu, hf.2]

theorem run_append_nothing {P : Program} {w : World} (base : Nat) (t ty e : TypeId) (i : TypeInfo) (size : Nat) (ht : P.underlying t = some (.slice e)) (hi : P.info? e = some i)
    (v : Value) (n : Nat) (xs : List Value) (hown : w.ownsRow base e size v n xs) (c : Nat) :
    (Builtin.append_ #[t, t] ty #[v, .slice none 0 c]).run P w = .ok v w := by
  rcases hown.2 with ⟨rfl, rfl⟩ | ⟨g, cap, cur, rfl, _, _, hnc, _⟩
  · simp [Builtin.append_, run_underlying ht, sizeOf, typeInfo, hi, Builtin.lenOf, Builtin.firstCells]
  · simp [Builtin.append_, run_underlying ht, sizeOf, typeInfo, hi, Builtin.lenOf, Builtin.firstCells, hnc, storeCells]

/-- Nothing is appended. -/
theorem wpl_append_nothing {P : Program} (w : World) {ops : Array Oper} {rest : List Oper} {o : Oper} {a : Act} {Q : Exit → Act → World → Prop} (hgd : o.guard = none) (s x : Operand) (t : TypeId)
    (ho : o.op = .call { callee := .builtin .append, args := #[s, x], argTypes := #[t, t] })
    (base : Nat) (e : TypeId) (i : TypeInfo) (size : Nat) (ht : P.underlying t = some (.slice e)) (hi : P.info? e = some i)
    (v : Value) (n : Nat) (xs : List Value) (hs : a.eval s = v) (hown : w.ownsRow base e size v n xs) (c : Nat) (hx : a.eval x = .slice none 0 c)
    (h : wpList P ops Q rest (a.put o.dst v) w) : wpList P ops Q (o :: rest) a w := by
  refine wpList_plain hgd fun K hK => ?_
  have hrun := run_append_nothing (P := P) (w := w) base t o.type e i size ht hi v n xs hown c
  unfold Oper.wp
  simp [execOp, ho, resolve, invoke, builtin, hs, hx, hrun, Result.andThen]
  exact hK _ _ h

set_option maxHeartbeats 400000 in
theorem copyItems_any (v : Value) (xs : List Itm) (w : World) (h : Items w v xs) (hn : xs.length ≤ 1048576) :
    Calls Try.prog 133 #[v] w (FreshI xs w) := by
  have h0 := h
  obtain ⟨ao, cap, rfl, hlc, hcm, hok, hcell⟩ := h
  obtain ⟨i0, hi, hz0, hz1, hz2⟩ := info_parts Try.infoI
  have hown := World.ownsRow_lit (base := w.heap.size) (e := 74) (size := 2) w #[] 0 (Nat.le_refl _) (by unfold maxLen; omega) rfl
  go_enter Try.func133, Try.ntmps133
  cases ao with
  | none =>
    have hx : xs = [] := by
      cases xs with
      | nil => rfl
      | cons x r => obtain ⟨b, o, e, _⟩ := hcell 0 (by simp); cases e
    subst hx
    go_wp2_with (at_builtin; refine wpl_append_nothing _ rfl _ _ 55 rfl w.heap.size 74 i0 2 Try.underlying55 hi (.slice (some ⟨w.heap.size, 0, none⟩) 0 0) 0 [] rfl hown cap rfl ?_)
    go_ret
    exact ⟨_, rfl, ⟨hown, hok⟩, (Below.refl _ _).alloc (Nat.le_refl _) _⟩
  | some ad =>
    obtain ⟨b, o, sp⟩ := ad
    go_wp2_with (at_builtin; refine wpList_append_own _ rfl _ _ 55 rfl w.heap.size 74 i0 (.agg #[.string ⟨#[]⟩, .int .i64 0]) 2 24 Try.underlying55 hi hz0 hz1 hz2 rfl (by decide) (.slice (some ⟨w.heap.size, 0, none⟩) 0 0) 0 [] rfl hown ⟨b, o, sp⟩ xs.length cap (cellsI xs) rfl (cellsI_length xs) ((h0.mono ((Below.refl _ _).alloc (Nat.le_refl _) _) (Nat.le_refl _)).news) (cellsI_one xs) (by unfold maxLen; omega) (by omega) (by simp) ?_; intro v' w1 hown1 hgrow1 hnil1)
    go_ret
    exact ⟨_, rfl, ⟨by simpa using hown1, hok⟩, ((Below.refl _ _).alloc (Nat.le_refl _) _).grown hgrow1 (by simp) (fun k hk => by simp [Value.ownBlock] at hk; omega)⟩

/-! ### the place of a key, and its number -/
theorem placeI_at (l : List Itm) (s : ByteArray) : ∀ i : Nat, hasI l s = true → ∃ k, ∃ h : k < l.length, placeI l s i = (k + i : Nat) ∧ l[k].1 = s ∧ cnt l s = l[k].2 ∧ ∀ n, putI l s n = l.set k (s, n) := by
  induction l with
  | nil => intro i h; simp [hasI] at h
  | cons x r ih =>
    intro i h
    by_cases hx : x.1 = s
    · exact ⟨0, by simp, by simp [placeI, hx], hx, by simp [cnt, hx], fun n => by simp [putI, hx]⟩
    · simp only [hasI, hx, decide_false, Bool.false_or] at h
      obtain ⟨k, hk, h1, h2, h3, h4⟩ := ih (i + 1) h
      refine ⟨k + 1, by simpa using hk, ?_, by simpa using h2, by simp [cnt, hx, h3], fun n => by simp [putI, hx, h4]⟩
      simp only [placeI, hx, if_false, h1]
      omega

theorem place_no {v : Value} {xs : List Itm} {s : ByteArray} (w : World) (h : Items w v xs) (hh : hasI xs s = false) : Calls Try.prog 113 #[v, .string s] w fun e w' => e = .returned (.int .i64 (-1)) ∧ w = w' :=
  (place_any v xs s w h).mono fun _ _ ⟨he, hw⟩ => ⟨((placeI_has xs s 0).1 hh) ▸ he, hw⟩
theorem place_at {v : Value} {xs : List Itm} {s : ByteArray} {k : Nat} (w : World) (h : Items w v xs) (hh : placeI xs s 0 = k) : Calls Try.prog 113 #[v, .string s] w fun e w' => e = .returned (.int .i64 k) ∧ w = w' :=
  (place_any v xs s w h).mono fun _ _ ⟨he, hw⟩ => ⟨hh ▸ he, hw⟩

theorem sVi_v {v : Value} {xs : List Itm} {b : Bool} (w : World) (h : Items w v xs) (hb : validI xs = b) : Calls Try.prog 125 #[v] w fun e w' => e = .returned (.bool b) ∧ Below w.heap.size w w' := by
  refine (validItems_any v xs w h).mono ?_
  rintro e w' ⟨rfl, n, rfl⟩
  exact ⟨by rw [hb], rfl, rfl, rfl, Nat.le_refl _, fun _ _ => rfl⟩

/-! ### a number put -/
theorem cellsI_set (l : List Itm) : ∀ (k : Nat) (h : k < l.length) (n : Int), (cellsI l).set (k * 2 + 1) (.int .i64 n) = cellsI (l.set k (l[k].1, n)) := by
  induction l with
  | nil => intro k h; simp at h
  | cons x r ih =>
    intro k h n
    cases k with
    | zero => simp [cellsI]
    | succ k =>
      have := ih k (by simpa using h) n
      have e : (k + 1) * 2 + 1 = k * 2 + 1 + 1 + 1 := by omega
      rw [e]
      simpa [cellsI] using this

theorem cellsI_setKey (l : List Itm) : ∀ (k : Nat) (h : k < l.length) (s : ByteArray), (cellsI l).set (k * 2) (.string s) = cellsI (l.set k (s, l[k].2)) := by
  induction l with
  | nil => intro k h; simp at h
  | cons x r ih =>
    intro k h s
    cases k with
    | zero => simp [cellsI]
    | succ k =>
      have := ih k (by simpa using h) s
      have e : (k + 1) * 2 = k * 2 + 1 + 1 := by omega
      rw [e]
      simpa [cellsI] using this
theorem okI_put {l : List Itm} {s : ByteArray} {n : Int} (h : okI l) (hs : s.size ≤ 9223372036854775807) (hn : -9223372036854775808 ≤ n ∧ n ≤ 9223372036854775807) : okI (putI l s n) := by
  induction l with
  | nil => intro x hx; simp [putI] at hx; subst hx; exact ⟨hs, hn.1, hn.2⟩
  | cons y r ih =>
    have hr : okI r := fun x hx => h x (by simp [hx])
    unfold putI
    split
    · intro x hx
      rcases List.mem_cons.1 hx with rfl | hx
      · exact ⟨hs, hn.1, hn.2⟩
      · exact hr x hx
    · intro x hx
      rcases List.mem_cons.1 hx with rfl | hx
      · exact h _ (by simp)
      · exact ih hr x hx

set_option maxHeartbeats 800000 in
theorem put_any (v : Value) (xs : List Itm) (s : ByteArray) (n : Int) (w : World) (h : Items w v xs) (hn : xs.length ≤ 1000000) (hs : s.size ≤ 9223372036854775807) (hi : -9223372036854775808 ≤ n ∧ n ≤ 9223372036854775807) :
    Calls Try.prog 107 #[v, .string s, .int .i64 n] w (FreshI (putI xs s n) w) := by
  have HOK := Lib.hid (okI_put h.ok hs hi)
  obtain ⟨i0, hi0, hz0, hz1, hz2⟩ := info_parts Try.infoI
  go_enter Try.func107, Try.ntmps107
  go_wp2_with fail
  refine (copyItems_any v xs w h (by omega)).mono ?_
  rintro e w1 ⟨v1, rfl, ho1, hb1⟩
  have hsz1 := hb1.size
  obtain ⟨ao, cap, rfl, hlc, hcm⟩ := own_slice ho1.1
  have hI := Lib.hid ho1.items
  cases hh : hasI xs s
  · have HP := Lib.hid (putI_new (n := n) hh)
    have HH := Lib.hid hh
    have hown := ho1.1
    clear hh h
    go_wp2_with (first
      | (go_at_call 113; refine (place_no _ hI.out HH.out).mono ?_; rintro e w2 ⟨rfl, rfl⟩)
      | (at_builtin; refine wpList_append_own _ rfl _ _ 55 rfl w.heap.size 74 i0 (.agg #[.string ⟨#[]⟩, .int .i64 0]) 2 24 Try.underlying55 hi0 hz0 hz1 hz2 rfl (by decide) (.slice ao xs.length cap) xs.length (cellsI xs) rfl (hown.alloc _) ⟨w1.heap.size, 0, none⟩ 1 1 [.string s, .int .i64 n] rfl rfl (cells_two_new _ _ _ _) (by intro u hu; simp at hu; rcases hu with rfl | rfl <;> rfl) (by unfold maxLen; omega) (by omega) (by simp; omega) ?_; intro v' w2 hown2 hgrow2 hnil2))
    go_ret
    refine ⟨_, rfl, ⟨by rw [HP.out, List.length_append, cellsI_snoc]; exact hown2, HOK.out⟩, (hb1.alloc hsz1 _).grown hgrow2 (by simp; omega) (fun k hk => (hown.lt k hk).1)⟩
  · obtain ⟨k, hk, h1, h2, h3, h4⟩ := placeI_at xs s 0 hh
    have H1 := Lib.hid (h1.trans (by simp) : placeI xs s 0 = (k : Int))
    have H2 := Lib.hid h2
    have H4 := Lib.hid (h4 n)
    have hown := ho1.1
    obtain ⟨g, cap', e, hgc, hgB⟩ := own_shape hown (by omega)
    simp only [Value.slice.injEq] at e
    obtain ⟨rfl, _, rfl⟩ := e
    obtain ⟨u, c1⟩ := row_cell hown (j := k * 2 + 1) (by omega)
    have f1 := hown.frozenAt (k * 2 + 1)
    clear hh h1 h2 h3 h4 h
    go_wp2_with (go_at_call 113; refine (place_at _ hI.out H1.out).mono ?_; rintro e w2 ⟨rfl, rfl⟩)
    go_ret
    have hst := hown.stored (k * 2 + 1) (.int .i64 n)
    refine ⟨_, rfl, ⟨?_, HOK.out⟩, hb1.setCell hgB _⟩
    rw [H4.out, List.length_set]
    have e := cellsI_set xs k hk n
    rw [H2.out] at e
    rw [← e]
    exact hst.1

/-- Items appended. -/
theorem wpl_append_items (w : World) {ops : Array Oper} {rest : List Oper} {o : Oper} {a : Act} {Q : Exit → Act → World → Prop} (hgd : o.guard = none) (s x : Operand)
    (ho : o.op = .call { callee := .builtin .append, args := #[s, x], argTypes := #[55, 55] })
    (base : Nat) (v : Value) (n : Nat) (xs : List Value) (hs : a.eval s = v) (hown : w.ownsRow base 74 2 v n xs)
    (u : Value) (ys : List Itm) (hx : a.eval x = u) (hy : Items w u ys) (hn : n ≤ 1000000) (hm : ys.length ≤ 1000000) (hbase : base ≤ w.heap.size)
    (h : ∀ v' w', w'.ownsRow base 74 2 v' (n + ys.length) (xs ++ cellsI ys) → w.grownBy w' v.ownBlock → wpList Try.prog ops Q rest (a.put o.dst v') w') : wpList Try.prog ops Q (o :: rest) a w := by
  obtain ⟨i0, hi0, hz0, hz1, hz2⟩ := info_parts Try.infoI
  have hy0 := hy
  obtain ⟨ao, cap, rfl, hlc, hcm, hok, hcell⟩ := hy
  cases ao with
  | none =>
    have hx0 : ys = [] := by
      cases ys with
      | nil => rfl
      | cons y r => obtain ⟨b, o, e, _⟩ := hcell 0 (by simp); cases e
    subst hx0
    refine wpl_append_nothing w hgd s x 55 ho base 74 i0 2 Try.underlying55 hi0 v n xs hs hown cap hx ?_
    refine h v w ?_ (World.grownBy.refl _ _)
    have e : cellsI [] = [] := rfl
    rw [e, List.append_nil]
    exact hown
  | some ad =>
    obtain ⟨b, o', sp⟩ := ad
    exact wpList_append_own w hgd s x 55 ho base 74 i0 (.agg #[.string ⟨#[]⟩, .int .i64 0]) 2 24 Try.underlying55 hi0 hz0 hz1 hz2 rfl (by decide) v n xs hs hown ⟨b, o', sp⟩ ys.length cap (cellsI ys) hx (cellsI_length ys) hy0.news (cellsI_one ys) (by unfold maxLen; omega) (by omega) hbase (fun v' w' h1 h2 _ => h v' w' h1 h2)
theorem row_cell_at {w : World} {B E S g n c m : Nat} {xs : List Value} {u : Value} (h : w.ownsRow B E S (.slice (some ⟨g, 0, none⟩) n c) m xs) {j : Nat} (hj : xs[j]? = some u) : w.cell? ⟨g, j, none⟩ = some u := by
  have hj1 : j < m * S := by have := (List.getElem?_eq_some_iff.1 hj).1; rw [h.1] at this; exact this
  rcases h.2 with ⟨h', _⟩ | ⟨g', cap', cur, h', hb, hg, hnc, hcm, hcs, htake⟩
  · simp at h'
  · simp only [Value.slice.injEq, Option.some.injEq, Addr.mk.injEq, and_true] at h'
    obtain ⟨rfl, rfl, rfl⟩ := h'
    have hj' : j < cur.size := by rw [hcs]; exact Nat.lt_of_lt_of_le hj1 (Nat.mul_le_mul_right _ hnc)
    rw [cell_of_row w g j cur E (0, 0) hg, ← hj, ← htake, List.getElem?_take_of_lt hj1]
    simp
/-- One number of a row of its own written. -/
theorem row_number {w : World} {B E g n cap : Nat} {l : List Itm} {k : Nat} (h : w.ownsRow B E 2 (.slice (some ⟨g, 0, none⟩) n cap) n (cellsI l)) (hk : k < l.length) (m : Int) :
    (w.setCell ⟨g, k * 2 + 1, none⟩ (.int .i64 m)).ownsRow B E 2 (.slice (some ⟨g, 0, none⟩) n cap) n (cellsI (l.set k (l[k].1, m))) := by
  have h1 := (h.stored (k * 2 + 1) (.int .i64 m)).1
  rw [cellsI_set l k hk m] at h1
  exact h1
theorem cells_at {l : List Itm} {k : Nat} (h : k < l.length) : (cellsI l)[k * 2]? = some (.string l[k].1) ∧ (cellsI l)[k * 2 + 1]? = some (.int .i64 l[k].2) := by
  induction l generalizing k with
  | nil => simp at h
  | cons x r ih =>
    cases k with
    | zero => simp [cellsI]
    | succ k =>
      have := ih (k := k) (by simpa using h)
      have e : (k + 1) * 2 = k * 2 + 1 + 1 := by omega
      rw [e]
      simpa [cellsI] using this

/-- Items appended, as one step of a region that draws its order. -/
theorem step_append_items (w : World) {ops : Array Oper} {o : Oper} {a : Act} {K : Act → World → Prop} {Q : Exit → Act → World → Prop} {E : Prop} (hgd : o.guard = none) (s x : Operand)
    (ho : o.op = .call { callee := .builtin .append, args := #[s, x], argTypes := #[55, 55] })
    (base : Nat) (v : Value) (n : Nat) (xs : List Value) (hs : a.eval s = v) (hown : w.ownsRow base 74 2 v n xs)
    (u : Value) (ys : List Itm) (hx : a.eval x = u) (hy : Items w u ys) (hn : n ≤ 1000000) (hm : ys.length ≤ 1000000) (hbase : base ≤ w.heap.size)
    (h : ∀ v' w', w'.ownsRow base 74 2 v' (n + ys.length) (xs ++ cellsI ys) → w.grownBy w' v.ownBlock → K (a.put o.dst v') w') :
    if Region.wanted o (yielded ops a.tmps) = true then Oper.wp Try.prog o a w K Q else E := by
  have hw : Region.wanted o (yielded ops a.tmps) = true := by simp [Region.wanted, hgd]
  rw [if_pos hw]
  obtain ⟨i0, hi0, hz0, hz1, hz2⟩ := info_parts Try.infoI
  have hy0 := hy
  obtain ⟨ao, cap, rfl, hlc, hcm, hok, hcell⟩ := hy
  cases ao with
  | none =>
    have hx0 : ys = [] := by
      cases ys with
      | nil => rfl
      | cons y r => obtain ⟨b, o, e, _⟩ := hcell 0 (by simp); cases e
    subst hx0
    have hrun := run_append_nothing (P := Try.prog) (w := w) base 55 o.type 74 i0 2 Try.underlying55 hi0 v n xs hown cap
    have e : cellsI [] = [] := rfl
    have h' := h v w (by rw [e, List.append_nil]; exact hown) (World.grownBy.refl _ _)
    unfold Oper.wp
    simp only [List.length_nil] at hx
    simp [execOp, ho, resolve, invoke, builtin, hs, hx, hrun, Result.andThen]
    exact h'
  | some ad =>
    obtain ⟨b, o', sp⟩ := ad
    obtain ⟨v', w', hrun, r1, r2, _⟩ := run_append_own (P := Try.prog) w base 55 o.type 74 i0 (.agg #[.string ⟨#[]⟩, .int .i64 0]) 2 24 Try.underlying55 hi0 hz0 hz1 hz2 rfl (by decide) v n xs hown ⟨b, o', sp⟩ ys.length cap (cellsI ys) (cellsI_length ys) hy0.news (cellsI_one ys) (by unfold maxLen; omega) (by omega) hbase
    unfold Oper.wp
    simp [execOp, ho, resolve, invoke, builtin, hs, hx, hrun, Result.andThen]
    exact h v' w' r1 r2
end Go.Proofs.Ytoglgeinnocfjaa
/-
  The model's rest of items.
-/
namespace Go.Proofs.Ytoglgeinnocfjaa
open Go.RowKit

theorem drewN_self (w : World) : ∃ n, w = w.drewN n := ⟨0, rfl⟩
theorem drewN_belows {w w' : World} (h : ∃ n, w' = w.drewN n) : Below w.heap.size w w' := by
  obtain ⟨n, rfl⟩ := h
  exact ⟨rfl, rfl, rfl, Nat.le_refl _, fun _ _ => rfl⟩
theorem Items.drewN {w wr : World} {v : Value} {xs : List Itm} (h : Items w v xs) (hw : ∃ n, wr = w.drewN n) : Items wr v xs := h.mono (drewN_belows hw) (Nat.le_refl _)
theorem rest_yes {b a : List Itm} {k : Nat} (h : k < b.length) (hq : hasI a b[k].1 = false) : restI (b.take (k + 1)) a = restI (b.take k) a ++ [b[k]] := by
  unfold restI; rw [List.take_succ_eq_append_getElem h, List.filter_append]; simp [hq]
theorem rest_no {b a : List Itm} {k : Nat} (h : k < b.length) (hq : hasI a b[k].1 = true) : restI (b.take (k + 1)) a = restI (b.take k) a := by
  unfold restI; rw [List.take_succ_eq_append_getElem h, List.filter_append]; simp [hq]
theorem rest_le (b a : List Itm) : (restI b a).length ≤ b.length := List.length_filter_le _ _
theorem Items.drew {w : World} {v : Value} {xs : List Itm} (h : Items w v xs) : Items w.drew v xs := h
end Go.Proofs.Ytoglgeinnocfjaa
