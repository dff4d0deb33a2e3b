/-
  Keep, Spec, SpecR, Ring, Tally, Tally2, Tally3, Impl, Impl1, Impl2, CountS, SpecB, Spec2, Spec3, Pure2, Pure4.
-/
import Derived.Maps.AppendAt
import Derived.Test.YtlclhdolcokipaaH0
import Derived.Test.YtlclhdolcokipaaH4
/-
  What stays as it was; rows of the call's own; what is valid.
-/
namespace Go.Proofs.Ytlclhdolcokipaa
open Go.RowKit

theorem zeroN (w : World) : (zeroValue 3).run Try.prog w = .ok (.int .i64 0) w := by kernel_rfl
theorem Try.infoS : (Try.prog.info? 9).map (fun i => (i.zero, i.size, i.bytes)) = some (some (.string ⟨#[]⟩), 1, 16) := by kernel_rfl
/-- Of the blocks in K nothing has turned. -/
structure Keeps (K : Nat → Prop) (w w' : World) : Prop where
  os : w'.os = w.os
  tape : w'.tape = w.tape
  output : w'.output = w.output
  size : w.heap.size ≤ w'.heap.size
  block : ∀ k, K k → w'.heap[k]? = w.heap[k]?
section
variable {K : Nat → Prop} {w w' w'' : World}
theorem Keeps.refl (K : Nat → Prop) (w : World) : Keeps K w w := ⟨rfl, rfl, rfl, Nat.le_refl _, fun _ _ => rfl⟩
theorem Keeps.trans (h : Keeps K w w') (h' : Keeps K w' w'') : Keeps K w w'' :=
  ⟨h'.os.trans h.os, h'.tape.trans h.tape, h'.output.trans h.output, Nat.le_trans h.size h'.size, fun k hk => (h'.block k hk).trans (h.block k hk)⟩
theorem Keeps.drew (h : Keeps K w w') : Keeps K w w'.drew := ⟨h.os, h.tape, h.output, h.size, h.block⟩
theorem Keeps.alloc (h : Keeps K w w') (hK : ∀ k, K k → k < w.heap.size) (o : Obj) : Keeps K w (w'.alloc o) :=
  h.trans ⟨rfl, rfl, rfl, by simp, fun k hk => Below.heap_alloc _ _ _ (Nat.lt_of_lt_of_le (hK k hk) h.size)⟩
theorem Keeps.setCell (h : Keeps K w w') {a : Addr} (ha : ¬ K a.block) (u : Value) : Keeps K w (w'.setCell a u) :=
  h.trans ⟨rfl, rfl, rfl, by simp, fun k hk => Below.heap_setCell _ _ _ _ (fun e => ha (e ▸ hk))⟩
theorem Keeps.grown {row : Option Nat} (h : Keeps K w w') (hg : w'.grownBy w'' row) (hK : ∀ k, K k → k < w.heap.size) (hr : ∀ k, row = some k → ¬ K k) : Keeps K w w'' :=
  h.trans ⟨hg.os, hg.tape, hg.output, hg.size, fun k hk => hg.block k (Nat.lt_of_lt_of_le (hK k hk) h.size) (fun e => hr k e.symm hk)⟩
theorem Keeps.of_below {B : Nat} (h : Below B w w') (hK : ∀ k, K k → k < B) : Keeps K w w' := ⟨h.os, h.tape, h.output, h.size, fun k hk => h.block k (hK k hk)⟩
theorem Keeps.below {B : Nat} (h : Keeps K w w') (hK : ∀ k, k < B → K k) : Below B w w' := ⟨h.os, h.tape, h.output, h.size, fun k hk => h.block k (hK k hk)⟩
theorem Keeps.mono {K' : Nat → Prop} (h : Keeps K w w') (hK : ∀ k, K' k → K k) : Keeps K' w w' := ⟨h.os, h.tape, h.output, h.size, fun k hk => h.block k (hK k hk)⟩
theorem Keeps.cell (h : Keeps K w w') {a : Addr} (ha : K a.block) : w'.cell? a = w.cell? a := World.cell?_of_block (h.block _ ha)
theorem Keeps.own {B E S n : Nat} {v : Value} {xs : List Value} (h : Keeps K w w') (ho : w.ownsRow B E S v n xs) (hv : ∀ g, v.ownBlock = some g → K g) : w'.ownsRow B E S v n xs := by
  refine ⟨ho.1, ?_⟩
  rcases ho.2 with h2 | ⟨g, cap, cur, rfl, hg, hh, r⟩
  · exact .inl h2
  · exact .inr ⟨g, cap, cur, rfl, hg, (h.block g (hv g rfl)).trans hh, r⟩
/-- A slice all of whose cells lie in K. -/
def InK (K : Nat → Prop) (v : Value) : Prop := ∀ a n c, v = .slice (some a) n c → 0 < n → K a.block
theorem Items.inK {v : Value} {xs : List Itm} (h : Items w v xs) : InK (· < w.heap.size) v := by
  obtain ⟨ao, cap, rfl, hl, hc, hok, hcell⟩ := h
  intro a n c e hn
  simp only [Value.slice.injEq] at e
  obtain ⟨rfl, rfl, rfl⟩ := e
  obtain ⟨b, o, ha, hs, _⟩ := hcell 0 hn
  simp only [Option.some.injEq] at ha
  subst ha
  exact hs
theorem InK.mono {K K' : Nat → Prop} {v : Value} (h : InK K v) (hK : ∀ k, K k → K' k) : InK K' v := fun a n c e hn => hK _ (h a n c e hn)
theorem InK.nil (K : Nat → Prop) : InK K (.slice none 0 0) := fun a n c e => by cases e
theorem Items.nil (w : World) : Items w (.slice none 0 0) [] := ⟨none, 0, rfl, Nat.le_refl _, by omega, fun x hx => by simp at hx, fun k hk => by simp at hk⟩
theorem Items.keeps {v : Value} {xs : List Itm} (h : Items w v xs) (hk : Keeps K w w') (hv : InK K v) : Items w' v xs := by
  obtain ⟨ao, cap, rfl, hl, hc, hok, hcell⟩ := h
  refine ⟨ao, cap, rfl, hl, hc, hok, fun k hlt => ?_⟩
  obtain ⟨b, o, rfl, hs, h1, h2⟩ := hcell k hlt
  have hb : K b := hv _ _ _ rfl (by omega)
  exact ⟨b, o, rfl, Nat.lt_of_lt_of_le hs hk.size, (hk.cell (a := ⟨b, _, none⟩) hb).trans h1, (hk.cell (a := ⟨b, _, none⟩) hb).trans h2⟩
end

theorem own_shape {w : World} {B E S n : Nat} {v : Value} {xs : List Value} (h : w.ownsRow B E S v n xs) (hn : 0 < n) :
    ∃ g cap, v = .slice (some ⟨g, 0, none⟩) n cap ∧ n ≤ cap ∧ B ≤ g := by
  rcases h.2 with ⟨_, h'⟩ | ⟨g, cap, cur, rfl, hb, hg, hnc, hcm, hcs, htake⟩
  · omega
  · exact ⟨g, cap, rfl, hnc, hb⟩
theorem own_slice {w : World} {B E S n : Nat} {v : Value} {xs : List Value} (h : w.ownsRow B E S v n xs) : ∃ ao cap, v = .slice ao n cap ∧ n ≤ cap ∧ cap ≤ 9223372036854775807 := by
  rcases h.2 with ⟨rfl, rfl⟩ | ⟨g, cap, cur, rfl, hb, hg, hnc, hcm, hcs, htake⟩
  · exact ⟨none, 0, rfl, Nat.le_refl _, by omega⟩
  · exact ⟨_, cap, rfl, hnc, by unfold maxLen at hcm; exact hcm⟩
/-- A row of keys is no tally's block. -/
theorem own_ne {w : World} {B E T S n t : Nat} {v : Value} {xs : List Value} {cs : Array Value} (h : w.ownsRow B E S v n xs) (ht : w.heap[t]? = some (.cells cs T (0, 0))) (hE : E ≠ T) : v.ownBlock ≠ some t := by
  rcases h.2 with ⟨rfl, _⟩ | ⟨g, cap, cur, rfl, hb, hg, r⟩
  · simp [Value.ownBlock]
  · simp only [Value.ownBlock, ne_eq, Option.some.injEq]
    rintro rfl
    rw [hg] at ht
    simp only [Option.some.injEq, Obj.cells.injEq] at ht
    exact hE ht.2.1
theorem grow_block {w w1 : World} {o : Obj} {t : Nat} {c : Obj} {row : Option Nat} (h : w.heap[t]? = some c) (hg : (w.alloc o).grownBy w1 row) (hne : row ≠ some t) : w1.heap[t]? = some c := by
  have hlt := lt_of_block h
  rw [hg.block t (by simp; omega) (Ne.symm hne), Below.heap_alloc _ _ _ hlt, h]
section
variable {w : World} {t : Nat} {v u : Value} {T : TypeId}
theorem two_cell0 (h : w.heap[t]? = some (.cells #[v, u] T (0, 0))) : w.cell? ⟨t, 0, none⟩ = some v := by simp [World.cell?, h]
theorem two_cell1 (h : w.heap[t]? = some (.cells #[v, u] T (0, 0))) : w.cell? ⟨t, 1, none⟩ = some u := by simp [World.cell?, h]
theorem two_free (h : w.heap[t]? = some (.cells #[v, u] T (0, 0))) (j : Nat) : w.frozen? ⟨t, j, none⟩ = false := by simp [World.frozen?, h]
theorem two_set0 (h : w.heap[t]? = some (.cells #[v, u] T (0, 0))) (v' : Value) : (w.setCell ⟨t, 0, none⟩ v').heap[t]? = some (.cells #[v', u] T (0, 0)) := by
  have hlt := lt_of_block h
  have h' : w.heap[t] = .cells #[v, u] T (0, 0) := by simpa [Array.getElem?_eq_getElem hlt] using h
  show (w.heap.modify t _)[t]? = _
  rw [Array.getElem?_eq_getElem (by simpa using hlt), Array.getElem_modify_self, h']
  rfl
end

theorem cells_two_new (w : World) (a b : Value) (E : TypeId) : ∀ (j : Nat) (u : Value), [a, b][j]? = some u → (w.alloc (.cells #[a, b] E)).cell? ((⟨w.heap.size, 0, none⟩ : Addr).add j) = some u := by
  intro j u hu
  match j, hu with
  | 0, hu => simp at hu; subst hu; simp [Addr.add]
  | 1, hu => simp at hu; subst hu; simp [Addr.add]
  | j + 2, hu => simp at hu
theorem own_cell {w : World} {B E n m cap k : Nat} {ao : Option Addr} {xs : List Value} {u : Value} (h : w.ownsRow B E 1 (.slice ao m cap) n xs) (hk : k < n) (hu : xs[k]? = some u) : ∃ g, ao = some ⟨g, 0, none⟩ ∧ g < w.heap.size ∧ w.cell? ⟨g, k, none⟩ = some u := by
  rcases h.2 with ⟨h', h0⟩ | ⟨g, cap', cur, h', hb, hg, hnc, hcm, hcs, htake⟩
  · omega
  · simp only [Value.slice.injEq] at h'
    obtain ⟨rfl, rfl, rfl⟩ := h'
    refine ⟨g, rfl, (Array.getElem?_eq_some_iff.1 hg).1, ?_⟩
    rw [cell_of_row w g k cur E (0, 0) hg]
    rw [← htake, List.getElem?_take, if_pos (by omega)] at hu
    simpa using hu
theorem okI_filter {l : List Itm} (h : okI l) (q : Itm → Bool) : okI (l.filter q) := fun x hx => h x (List.mem_filter.1 hx).1
theorem Items.ok {w : World} {v : Value} {xs : List Itm} (h : Items w v xs) : okI xs := by obtain ⟨_, _, _, _, _, h, _⟩ := h; exact h
theorem OwnI.base {E : Nat} {w : World} {B B' : Nat} {v : Value} {xs : List Itm} (h : OwnI E w B v xs) (hB : B' ≤ B) : OwnI E w B' v xs := by
  refine ⟨⟨h.1.1, ?_⟩, h.2⟩
  rcases h.1.2 with h2 | ⟨g, cap, cur, e, hg, r⟩
  · exact .inl h2
  · exact .inr ⟨g, cap, cur, e, Nat.le_trans hB hg, r⟩

/-- Items, or none where they are not valid. -/
def chkI (l : List Itm) : List Itm := if validI l = true then l else []
/-- A new list. -/
def NewI (l : List Itm) (w : World) (e : Ending) (w' : World) : Prop :=
  ∃ v, e = .returned v ∧ OwnI 43 w' w.heap.size v l ∧ Below w.heap.size w w'
/-- A new list and whether it is one. -/
def NewI2 (l : List Itm) (ok : Bool) (w : World) (e : Ending) (w' : World) : Prop :=
  ∃ v, e = .returned (.tuple #[v, .bool ok]) ∧ OwnI 43 w' w.heap.size v l ∧ Below w.heap.size w w'
theorem OwnI_nil (E : Nat) (w : World) (B : Nat) : OwnI E w B (.slice none 0 0) [] := ⟨World.ownsRow_nil _ _ _ _, fun x hx => by simp at hx⟩
theorem valid_num {l : List Itm} (h : validI l = true) : ∀ x ∈ l, -9999 ≤ x.2 ∧ x.2 ≤ 9999 := fun x hx => numB_iff.1 (((validI_iff l).1 h).1 x hx).2
theorem valid_len {l : List Itm} (h : validI l = true) : l.length ≤ 8 := ((validI_iff l).1 h).2.2
theorem valid_uniq {l : List Itm} (h : validI l = true) : uniqI l = true := ((validI_iff l).1 h).2.1
theorem Vi_v {v : Value} {xs : List Itm} {b : Bool} (w : World) (h : Items w v xs) (hb : validI xs = b) : Calls Try.prog 59 #[v] w fun e w' => e = .returned (.bool b) ∧ Below w.heap.size w w' :=
  (ValidItems_any v xs w h).mono fun _ _ ⟨he, hw⟩ => ⟨hb ▸ he, hw⟩
/-- Both valid: what follows is asked of small lists. -/
theorem both_yes {a b : List Itm} (h : (validI a && validI b) = true) : validI a = true ∧ validI b = true := by simpa using h
theorem chk_le (l : List Itm) : (chkI l).length ≤ 10000000 := by
  unfold chkI
  cases h : validI l
  · simp
  · have := valid_len h
    simp
    omega
theorem if_chk_le (b : Bool) (l : List Itm) : (if b = true then chkI l else []).length ≤ 10000000 := by
  cases b
  · simp
  · simp only [if_true]; exact chk_le l
theorem two_set1 {w : World} {t : Nat} {v u : Value} {T : TypeId} (h : w.heap[t]? = some (.cells #[v, u] T (0, 0))) (u' : Value) : (w.setCell ⟨t, 1, none⟩ u').heap[t]? = some (.cells #[v, u'] T (0, 0)) := by
  have hlt := lt_of_block h
  have h' : w.heap[t] = .cells #[v, u] T (0, 0) := by simpa [Array.getElem?_eq_getElem hlt] using h
  show (w.heap.modify t _)[t]? = _
  rw [Array.getElem?_eq_getElem (by simpa using hlt), Array.getElem_modify_self, h']
  rfl
theorem size_alloc_le {n : Nat} {w : World} (h : n ≤ w.heap.size) (o : Go.Obj) : n ≤ (w.alloc o).heap.size := by simp; omega
end Go.Proofs.Ytlclhdolcokipaa
/-
  The model's small functions over items: a copy, a count, a number put, what is positive.
-/
namespace Go.Proofs.Ytlclhdolcokipaa
open Go.RowKit

theorem cellsI_one (xs : List Itm) : ∀ u ∈ cellsI xs, u.oneCell' = true := by
  intro u hu
  obtain ⟨x, _, hx⟩ := List.mem_flatMap.1 hu
  simp at hx
  rcases hx with rfl | rfl <;> rfl

/-- The cells of a slice of items, one by one. -/
theorem Items.news {w : World} {b o n cap : Nat} {sp : Option Nat} {xs : List Itm} (h : Items w (.slice (some ⟨b, o, sp⟩) n cap) xs) : ∀ j u, (cellsI xs)[j]? = some u → w.cell? ((⟨b, o, sp⟩ : Addr).add j) = some u := by
  intro j u hu
  obtain ⟨ao, cap', e, hl, hc, hok, hcell⟩ := h
  simp only [Value.slice.injEq] at e
  obtain ⟨rfl, rfl, rfl⟩ := e
  have hj : j < xs.length * 2 := by rw [← cellsI_length]; exact (List.getElem?_eq_some_iff.1 hu).1
  have hk : j / 2 < xs.length := by omega
  obtain ⟨b', o', e, _, h1, h2⟩ := hcell (j / 2) hk
  simp only [Option.some.injEq, Addr.mk.injEq] at e
  obtain ⟨rfl, rfl, rfl⟩ := e
  have hf := cellsI_fst xs (j / 2) hk
  rw [Addr.add_lit]
  rcases Nat.mod_two_eq_zero_or_one j with h | h
  · have e : j = j / 2 * 2 := by omega
    rw [e] at hu
    rw [e, h1, ← hu, hf.1]
  · have e : j = j / 2 * 2 + 1 := by omega
    rw [e] at hu
    rw [e, ← Nat.add_assoc, h2, ← hu, hf.2]

theorem run_append_nothing {P : Program} {w : World} (base : Nat) (t ty e : TypeId) (i : TypeInfo) (size : Nat) (ht : P.underlying t = some (.slice e)) (hi : P.info? e = some i)
    (v : Value) (n : Nat) (xs : List Value) (hown : w.ownsRow base e size v n xs) (c : Nat) :
    (Builtin.append_ #[t, t] ty #[v, .slice none 0 c]).run P w = .ok v w := by
  rcases hown.2 with ⟨rfl, rfl⟩ | ⟨g, cap, cur, rfl, _, _, hnc, _⟩
  · simp [Builtin.append_, run_underlying ht, sizeOf, typeInfo, hi, Builtin.lenOf, Builtin.firstCells]
  · simp [Builtin.append_, run_underlying ht, sizeOf, typeInfo, hi, Builtin.lenOf, Builtin.firstCells, hnc, storeCells]

/-- Nothing is appended. -/
theorem wpl_append_nothing {P : Program} (w : World) {ops : Array Oper} {rest : List Oper} {o : Oper} {a : Act} {Q : Exit → Act → World → Prop} (hgd : o.guard = none) (s x : Operand) (t : TypeId)
    (ho : o.op = .call { callee := .builtin .append, args := #[s, x], argTypes := #[t, t] })
    (base : Nat) (e : TypeId) (i : TypeInfo) (size : Nat) (ht : P.underlying t = some (.slice e)) (hi : P.info? e = some i)
    (v : Value) (n : Nat) (xs : List Value) (hs : a.eval s = v) (hown : w.ownsRow base e size v n xs) (c : Nat) (hx : a.eval x = .slice none 0 c)
    (h : wpList P ops Q rest (a.put o.dst v) w) : wpList P ops Q (o :: rest) a w := by
  refine wpList_plain hgd fun K hK => ?_
  have hrun := run_append_nothing (P := P) (w := w) base t o.type e i size ht hi v n xs hown c
  unfold Oper.wp
  simp [execOp, ho, resolve, invoke, builtin, hs, hx, hrun, Result.andThen]
  exact hK _ _ h

set_option maxHeartbeats 400000 in
theorem copyItems_any (v : Value) (xs : List Itm) (w : World) (h : Items w v xs) (hn : xs.length ≤ 1048576) :
    Calls Try.prog 124 #[v] w (FreshI xs w) := by
  have h0 := h
  obtain ⟨ao, cap, rfl, hlc, hcm, hok, hcell⟩ := h
  obtain ⟨i0, hi, hz0, hz1, hz2⟩ := info_parts Try.infoI
  have hown := World.ownsRow_lit (base := w.heap.size) (e := 43) (size := 2) w #[] 0 (Nat.le_refl _) (by unfold maxLen; omega) rfl
  go_enter Try.func124, Try.ntmps124
  cases ao with
  | none =>
    have hx : xs = [] := by
      cases xs with
      | nil => rfl
      | cons x r => obtain ⟨b, o, e, _⟩ := hcell 0 (by simp); cases e
    subst hx
    go_wp2_with (at_builtin; refine wpl_append_nothing _ rfl _ _ 23 rfl w.heap.size 43 i0 2 Try.underlying23 hi (.slice (some ⟨w.heap.size, 0, none⟩) 0 0) 0 [] rfl hown cap rfl ?_)
    go_ret
    exact ⟨_, rfl, ⟨hown, hok⟩, (Below.refl _ _).alloc (Nat.le_refl _) _⟩
  | some ad =>
    obtain ⟨b, o, sp⟩ := ad
    go_wp2_with (at_builtin; refine wpList_append_own _ rfl _ _ 23 rfl w.heap.size 43 i0 (.agg #[.string ⟨#[]⟩, .int .i64 0]) 2 24 Try.underlying23 hi hz0 hz1 hz2 rfl (by decide) (.slice (some ⟨w.heap.size, 0, none⟩) 0 0) 0 [] rfl hown ⟨b, o, sp⟩ xs.length cap (cellsI xs) rfl (cellsI_length xs) ((h0.mono ((Below.refl _ _).alloc (Nat.le_refl _) _) (Nat.le_refl _)).news) (cellsI_one xs) (by unfold maxLen; omega) (by omega) (by simp) ?_; intro v' w1 hown1 hgrow1 hnil1)
    go_ret
    exact ⟨_, rfl, ⟨by simpa using hown1, hok⟩, ((Below.refl _ _).alloc (Nat.le_refl _) _).grown hgrow1 (by simp) (fun k hk => by simp [Value.ownBlock] at hk; omega)⟩

/-! ### the place of a key, and its number -/
theorem placeI_at (l : List Itm) (s : ByteArray) : ∀ i : Nat, hasI l s = true → ∃ k, ∃ h : k < l.length, placeI l s i = (k + i : Nat) ∧ l[k].1 = s ∧ cnt l s = l[k].2 ∧ ∀ n, putI l s n = l.set k (s, n) := by
  induction l with
  | nil => intro i h; simp [hasI] at h
  | cons x r ih =>
    intro i h
    by_cases hx : x.1 = s
    · exact ⟨0, by simp, by simp [placeI, hx], hx, by simp [cnt, hx], fun n => by simp [putI, hx]⟩
    · simp only [hasI, hx, decide_false, Bool.false_or] at h
      obtain ⟨k, hk, h1, h2, h3, h4⟩ := ih (i + 1) h
      refine ⟨k + 1, by simpa using hk, ?_, by simpa using h2, by simp [cnt, hx, h3], fun n => by simp [putI, hx, h4]⟩
      simp only [placeI, hx, if_false, h1]
      omega

theorem place_no {v : Value} {xs : List Itm} {s : ByteArray} (w : World) (h : Items w v xs) (hh : hasI xs s = false) : Calls Try.prog 101 #[v, .string s] w fun e w' => e = .returned (.int .i64 (-1)) ∧ w = w' :=
  (place_any v xs s w h).mono fun _ _ ⟨he, hw⟩ => ⟨((placeI_has xs s 0).1 hh) ▸ he, hw⟩
theorem place_at {v : Value} {xs : List Itm} {s : ByteArray} {k : Nat} (w : World) (h : Items w v xs) (hh : placeI xs s 0 = k) : Calls Try.prog 101 #[v, .string s] w fun e w' => e = .returned (.int .i64 k) ∧ w = w' :=
  (place_any v xs s w h).mono fun _ _ ⟨he, hw⟩ => ⟨hh ▸ he, hw⟩

theorem sVi_v {v : Value} {xs : List Itm} {b : Bool} (w : World) (h : Items w v xs) (hb : validI xs = b) : Calls Try.prog 110 #[v] w fun e w' => e = .returned (.bool b) ∧ Below w.heap.size w w' := by
  refine (validItems_any v xs w h).mono ?_
  rintro e w' ⟨rfl, n, rfl⟩
  exact ⟨by rw [hb], rfl, rfl, rfl, Nat.le_refl _, fun _ _ => rfl⟩

/-! ### a number put -/
theorem cellsI_set (l : List Itm) : ∀ (k : Nat) (h : k < l.length) (n : Int), (cellsI l).set (k * 2 + 1) (.int .i64 n) = cellsI (l.set k (l[k].1, n)) := by
  induction l with
  | nil => intro k h; simp at h
  | cons x r ih =>
    intro k h n
    cases k with
    | zero => simp [cellsI]
    | succ k =>
      have := ih k (by simpa using h) n
      have e : (k + 1) * 2 + 1 = k * 2 + 1 + 1 + 1 := by omega
      rw [e]
      simpa [cellsI] using this

theorem cellsI_setKey (l : List Itm) : ∀ (k : Nat) (h : k < l.length) (s : ByteArray), (cellsI l).set (k * 2) (.string s) = cellsI (l.set k (s, l[k].2)) := by
  induction l with
  | nil => intro k h; simp at h
  | cons x r ih =>
    intro k h s
    cases k with
    | zero => simp [cellsI]
    | succ k =>
      have := ih k (by simpa using h) s
      have e : (k + 1) * 2 = k * 2 + 1 + 1 := by omega
      rw [e]
      simpa [cellsI] using this
theorem okI_put {l : List Itm} {s : ByteArray} {n : Int} (h : okI l) (hs : s.size ≤ 9223372036854775807) (hn : -9223372036854775808 ≤ n ∧ n ≤ 9223372036854775807) : okI (putI l s n) := by
  induction l with
  | nil => intro x hx; simp [putI] at hx; subst hx; exact ⟨hs, hn.1, hn.2⟩
  | cons y r ih =>
    have hr : okI r := fun x hx => h x (by simp [hx])
    unfold putI
    split
    · intro x hx
      rcases List.mem_cons.1 hx with rfl | hx
      · exact ⟨hs, hn.1, hn.2⟩
      · exact hr x hx
    · intro x hx
      rcases List.mem_cons.1 hx with rfl | hx
      · exact h _ (by simp)
      · exact ih hr x hx

set_option maxHeartbeats 800000 in
theorem put_any (v : Value) (xs : List Itm) (s : ByteArray) (n : Int) (w : World) (h : Items w v xs) (hn : xs.length ≤ 1000000) (hs : s.size ≤ 9223372036854775807) (hi : -9223372036854775808 ≤ n ∧ n ≤ 9223372036854775807) :
    Calls Try.prog 140 #[v, .string s, .int .i64 n] w (FreshI (putI xs s n) w) := by
  have HOK := Lib.hid (okI_put h.ok hs hi)
  obtain ⟨i0, hi0, hz0, hz1, hz2⟩ := info_parts Try.infoI
  go_enter Try.func140, Try.ntmps140
  go_wp2_with fail
  refine (copyItems_any v xs w h (by omega)).mono ?_
  rintro e w1 ⟨v1, rfl, ho1, hb1⟩
  have hsz1 := hb1.size
  obtain ⟨ao, cap, rfl, hlc, hcm⟩ := own_slice ho1.1
  have hI := Lib.hid ho1.items
  cases hh : hasI xs s
  · have HP := Lib.hid (putI_new (n := n) hh)
    have HH := Lib.hid hh
    have hown := ho1.1
    clear hh h
    go_wp2_with (first
      | (go_at_call 101; refine (place_no _ hI.out HH.out).mono ?_; rintro e w2 ⟨rfl, rfl⟩)
      | (at_builtin; refine wpList_append_own _ rfl _ _ 23 rfl w.heap.size 43 i0 (.agg #[.string ⟨#[]⟩, .int .i64 0]) 2 24 Try.underlying23 hi0 hz0 hz1 hz2 rfl (by decide) (.slice ao xs.length cap) xs.length (cellsI xs) rfl (hown.alloc _) ⟨w1.heap.size, 0, none⟩ 1 1 [.string s, .int .i64 n] rfl rfl (cells_two_new _ _ _ _) (by intro u hu; simp at hu; rcases hu with rfl | rfl <;> rfl) (by unfold maxLen; omega) (by omega) (by simp; omega) ?_; intro v' w2 hown2 hgrow2 hnil2))
    go_ret
    refine ⟨_, rfl, ⟨by rw [HP.out, List.length_append, cellsI_snoc]; exact hown2, HOK.out⟩, (hb1.alloc hsz1 _).grown hgrow2 (by simp; omega) (fun k hk => (hown.lt k hk).1)⟩
  · obtain ⟨k, hk, h1, h2, h3, h4⟩ := placeI_at xs s 0 hh
    have H1 := Lib.hid (h1.trans (by simp) : placeI xs s 0 = (k : Int))
    have H2 := Lib.hid h2
    have H4 := Lib.hid (h4 n)
    have hown := ho1.1
    obtain ⟨g, cap', e, hgc, hgB⟩ := own_shape hown (by omega)
    simp only [Value.slice.injEq] at e
    obtain ⟨rfl, _, rfl⟩ := e
    obtain ⟨u, c1⟩ := row_cell hown (j := k * 2 + 1) (by omega)
    have f1 := hown.frozenAt (k * 2 + 1)
    clear hh h1 h2 h3 h4 h
    go_wp2_with (go_at_call 101; refine (place_at _ hI.out H1.out).mono ?_; rintro e w2 ⟨rfl, rfl⟩)
    go_ret
    have hst := hown.stored (k * 2 + 1) (.int .i64 n)
    refine ⟨_, rfl, ⟨?_, HOK.out⟩, hb1.setCell hgB _⟩
    rw [H4.out, List.length_set]
    have e := cellsI_set xs k hk n
    rw [H2.out] at e
    rw [← e]
    exact hst.1

/-- Items appended. -/
theorem wpl_append_items (w : World) {ops : Array Oper} {rest : List Oper} {o : Oper} {a : Act} {Q : Exit → Act → World → Prop} (hgd : o.guard = none) (s x : Operand)
    (ho : o.op = .call { callee := .builtin .append, args := #[s, x], argTypes := #[23, 23] })
    (base : Nat) (v : Value) (n : Nat) (xs : List Value) (hs : a.eval s = v) (hown : w.ownsRow base 43 2 v n xs)
    (u : Value) (ys : List Itm) (hx : a.eval x = u) (hy : Items w u ys) (hn : n ≤ 1000000) (hm : ys.length ≤ 1000000) (hbase : base ≤ w.heap.size)
    (h : ∀ v' w', w'.ownsRow base 43 2 v' (n + ys.length) (xs ++ cellsI ys) → w.grownBy w' v.ownBlock → wpList Try.prog ops Q rest (a.put o.dst v') w') : wpList Try.prog ops Q (o :: rest) a w := by
  obtain ⟨i0, hi0, hz0, hz1, hz2⟩ := info_parts Try.infoI
  have hy0 := hy
  obtain ⟨ao, cap, rfl, hlc, hcm, hok, hcell⟩ := hy
  cases ao with
  | none =>
    have hx0 : ys = [] := by
      cases ys with
      | nil => rfl
      | cons y r => obtain ⟨b, o, e, _⟩ := hcell 0 (by simp); cases e
    subst hx0
    refine wpl_append_nothing w hgd s x 23 ho base 43 i0 2 Try.underlying23 hi0 v n xs hs hown cap hx ?_
    refine h v w ?_ (World.grownBy.refl _ _)
    have e : cellsI [] = [] := rfl
    rw [e, List.append_nil]
    exact hown
  | some ad =>
    obtain ⟨b, o', sp⟩ := ad
    exact wpList_append_own w hgd s x 23 ho base 43 i0 (.agg #[.string ⟨#[]⟩, .int .i64 0]) 2 24 Try.underlying23 hi0 hz0 hz1 hz2 rfl (by decide) v n xs hs hown ⟨b, o', sp⟩ ys.length cap (cellsI ys) hx (cellsI_length ys) hy0.news (cellsI_one ys) (by unfold maxLen; omega) (by omega) hbase (fun v' w' h1 h2 _ => h v' w' h1 h2)
theorem row_cell_at {w : World} {B E S g n c m : Nat} {xs : List Value} {u : Value} (h : w.ownsRow B E S (.slice (some ⟨g, 0, none⟩) n c) m xs) {j : Nat} (hj : xs[j]? = some u) : w.cell? ⟨g, j, none⟩ = some u := by
  have hj1 : j < m * S := by have := (List.getElem?_eq_some_iff.1 hj).1; rw [h.1] at this; exact this
  rcases h.2 with ⟨h', _⟩ | ⟨g', cap', cur, h', hb, hg, hnc, hcm, hcs, htake⟩
  · simp at h'
  · simp only [Value.slice.injEq, Option.some.injEq, Addr.mk.injEq, and_true] at h'
    obtain ⟨rfl, rfl, rfl⟩ := h'
    have hj' : j < cur.size := by rw [hcs]; exact Nat.lt_of_lt_of_le hj1 (Nat.mul_le_mul_right _ hnc)
    rw [cell_of_row w g j cur E (0, 0) hg, ← hj, ← htake, List.getElem?_take_of_lt hj1]
    simp
/-- One number of a row of its own written. -/
theorem row_number {w : World} {B E g n cap : Nat} {l : List Itm} {k : Nat} (h : w.ownsRow B E 2 (.slice (some ⟨g, 0, none⟩) n cap) n (cellsI l)) (hk : k < l.length) (m : Int) :
    (w.setCell ⟨g, k * 2 + 1, none⟩ (.int .i64 m)).ownsRow B E 2 (.slice (some ⟨g, 0, none⟩) n cap) n (cellsI (l.set k (l[k].1, m))) := by
  have h1 := (h.stored (k * 2 + 1) (.int .i64 m)).1
  rw [cellsI_set l k hk m] at h1
  exact h1
theorem cells_at {l : List Itm} {k : Nat} (h : k < l.length) : (cellsI l)[k * 2]? = some (.string l[k].1) ∧ (cellsI l)[k * 2 + 1]? = some (.int .i64 l[k].2) := by
  induction l generalizing k with
  | nil => simp at h
  | cons x r ih =>
    cases k with
    | zero => simp [cellsI]
    | succ k =>
      have := ih (k := k) (by simpa using h)
      have e : (k + 1) * 2 = k * 2 + 1 + 1 := by omega
      rw [e]
      simpa [cellsI] using this

/-- Items appended, as one step of a region that draws its order. -/
theorem step_append_items (w : World) {ops : Array Oper} {o : Oper} {a : Act} {K : Act → World → Prop} {Q : Exit → Act → World → Prop} {E : Prop} (hgd : o.guard = none) (s x : Operand)
    (ho : o.op = .call { callee := .builtin .append, args := #[s, x], argTypes := #[23, 23] })
    (base : Nat) (v : Value) (n : Nat) (xs : List Value) (hs : a.eval s = v) (hown : w.ownsRow base 43 2 v n xs)
    (u : Value) (ys : List Itm) (hx : a.eval x = u) (hy : Items w u ys) (hn : n ≤ 1000000) (hm : ys.length ≤ 1000000) (hbase : base ≤ w.heap.size)
    (h : ∀ v' w', w'.ownsRow base 43 2 v' (n + ys.length) (xs ++ cellsI ys) → w.grownBy w' v.ownBlock → K (a.put o.dst v') w') :
    if Region.wanted o (yielded ops a.tmps) = true then Oper.wp Try.prog o a w K Q else E := by
  have hw : Region.wanted o (yielded ops a.tmps) = true := by simp [Region.wanted, hgd]
  rw [if_pos hw]
  obtain ⟨i0, hi0, hz0, hz1, hz2⟩ := info_parts Try.infoI
  have hy0 := hy
  obtain ⟨ao, cap, rfl, hlc, hcm, hok, hcell⟩ := hy
  cases ao with
  | none =>
    have hx0 : ys = [] := by
      cases ys with
      | nil => rfl
      | cons y r => obtain ⟨b, o, e, _⟩ := hcell 0 (by simp); cases e
    subst hx0
    have hrun := run_append_nothing (P := Try.prog) (w := w) base 23 o.type 43 i0 2 Try.underlying23 hi0 v n xs hown cap
    have e : cellsI [] = [] := rfl
    have h' := h v w (by rw [e, List.append_nil]; exact hown) (World.grownBy.refl _ _)
    unfold Oper.wp
    simp only [List.length_nil] at hx
    simp [execOp, ho, resolve, invoke, builtin, hs, hx, hrun, Result.andThen]
    exact h'
  | some ad =>
    obtain ⟨b, o', sp⟩ := ad
    obtain ⟨v', w', hrun, r1, r2, _⟩ := run_append_own (P := Try.prog) w base 23 o.type 43 i0 (.agg #[.string ⟨#[]⟩, .int .i64 0]) 2 24 Try.underlying23 hi0 hz0 hz1 hz2 rfl (by decide) v n xs hown ⟨b, o', sp⟩ ys.length cap (cellsI ys) (cellsI_length ys) hy0.news (cellsI_one ys) (by unfold maxLen; omega) (by omega) hbase
    unfold Oper.wp
    simp [execOp, ho, resolve, invoke, builtin, hs, hx, hrun, Result.andThen]
    exact h v' w' r1 r2
end Go.Proofs.Ytlclhdolcokipaa
/-
  The model's rest of items.
-/
namespace Go.Proofs.Ytlclhdolcokipaa
open Go.RowKit

theorem drewN_self (w : World) : ∃ n, w = w.drewN n := ⟨0, rfl⟩
theorem drewN_belows {w w' : World} (h : ∃ n, w' = w.drewN n) : Below w.heap.size w w' := by
  obtain ⟨n, rfl⟩ := h
  exact ⟨rfl, rfl, rfl, Nat.le_refl _, fun _ _ => rfl⟩
theorem Items.drewN {w wr : World} {v : Value} {xs : List Itm} (h : Items w v xs) (hw : ∃ n, wr = w.drewN n) : Items wr v xs := h.mono (drewN_belows hw) (Nat.le_refl _)
theorem rest_yes {b a : List Itm} {k : Nat} (h : k < b.length) (hq : hasI a b[k].1 = false) : restI (b.take (k + 1)) a = restI (b.take k) a ++ [b[k]] := by
  unfold restI; rw [List.take_succ_eq_append_getElem h, List.filter_append]; simp [hq]
theorem rest_no {b a : List Itm} {k : Nat} (h : k < b.length) (hq : hasI a b[k].1 = true) : restI (b.take (k + 1)) a = restI (b.take k) a := by
  unfold restI; rw [List.take_succ_eq_append_getElem h, List.filter_append]; simp [hq]
theorem rest_le (b a : List Itm) : (restI b a).length ≤ b.length := List.length_filter_le _ _
theorem Items.drew {w : World} {v : Value} {xs : List Itm} (h : Items w v xs) : Items w.drew v xs := h
end Go.Proofs.Ytlclhdolcokipaa
/-
  A ring of links: blocks that point to each other; what a cut and a hanging leave.
-/
namespace Go.Proofs.Ytlclhdolcokipaa
open Go.RowKit

abbrev Nod := Nat × Itm
abbrev blk (l : List Nod) : List Nat := l.map (·.1)
abbrev its (l : List Nod) : List Itm := l.map (·.2)

/-- Block b is a link with the value x, behind the link p and ahead of the link q. -/
def Nd (w : World) (b : Nat) (x : Itm) (p q : Nat) : Prop :=
  w.heap[b]? = some (.cells #[.string x.1, .int .i64 x.2, .pointer (some ⟨p, 0, none⟩), .pointer (some ⟨q, 0, none⟩)] 139 (0, 0))

/-- The same, whatever it points to. -/
def NdX (w : World) (b : Nat) (x : Itm) (u v : Value) : Prop :=
  w.heap[b]? = some (.cells #[.string x.1, .int .i64 x.2, u, v] 139 (0, 0))

def fstOr : List Nod → Nat → Nat
  | [], d => d
  | n :: _, _ => n.1
def lstOr : Nat → List Nod → Nat
  | d, [] => d
  | _, n :: r => lstOr n.1 r

/-- The links l, one behind the other, between the links p and s. -/
def Chain (w : World) : Nat → List Nod → Nat → Prop
  | _, [], _ => True
  | p, n :: r, s => Nd w n.1 n.2 p (fstOr r s) ∧ Chain w n.1 r s

theorem fstOr_app (l r : List Nod) (s : Nat) : fstOr (l ++ r) s = fstOr l (fstOr r s) := by cases l <;> rfl
theorem lstOr_app (l : List Nod) : ∀ (p : Nat) (r : List Nod), lstOr p (l ++ r) = lstOr (lstOr p l) r := by
  induction l with
  | nil => intro p r; rfl
  | cons n l ih => intro p r; exact ih n.1 r
theorem lst_mem (l : List Nod) : ∀ p, lstOr p l = p ∨ lstOr p l ∈ blk l := by
  induction l with
  | nil => intro p; exact .inl rfl
  | cons n l ih =>
    intro p
    rcases ih n.1 with h | h
    · exact .inr (by simp [lstOr, h])
    · exact .inr (by simp only [lstOr, List.map_cons, List.mem_cons]; exact .inr h)
theorem fst_mem (l : List Nod) (s : Nat) : fstOr l s = s ∨ fstOr l s ∈ blk l := by
  cases l with
  | nil => exact .inl rfl
  | cons n l => exact .inr (by simp [fstOr])

theorem chain_app (w : World) (l : List Nod) : ∀ (p : Nat) (r : List Nod) (s : Nat), Chain w p (l ++ r) s ↔ Chain w p l (fstOr r s) ∧ Chain w (lstOr p l) r s := by
  induction l with
  | nil => intro p r s; simp [Chain, lstOr]
  | cons n l ih =>
    intro p r s
    simp only [List.cons_append, Chain, ih, fstOr_app, lstOr, and_assoc]

theorem chain_keeps {w w' : World} {l : List Nod} : ∀ {p s : Nat}, (∀ b ∈ blk l, w'.heap[b]? = w.heap[b]?) → Chain w p l s → Chain w' p l s := by
  induction l with
  | nil => intro p s _ _; trivial
  | cons n l ih =>
    intro p s h hc
    exact ⟨(h n.1 (by simp)).trans hc.1, ih (fun b hb => h b (by simp only [List.map_cons, List.mem_cons]; exact .inr hb)) hc.2⟩

theorem chain_lt {w : World} {l : List Nod} : ∀ {p s : Nat}, Chain w p l s → ∀ b ∈ blk l, b < w.heap.size := by
  induction l with
  | nil => intro p s _ b hb; simp at hb
  | cons n l ih =>
    intro p s hc b hb
    rcases List.mem_cons.1 (by simpa using hb : b ∈ n.1 :: blk l) with rfl | hb
    · exact lt_of_block hc.1
    · exact ih hc.2 b hb

theorem nd_set0 {w : World} {b p q : Nat} {x : Itm} (h : Nd w b x p q) (s : ByteArray) : Nd (w.setCell ⟨b, 0, none⟩ (.string s)) b (s, x.2) p q := by
  unfold Nd at h ⊢; rw [heap_setCell_same w b 0 _ _ _ h]; rfl
theorem nd_set1 {w : World} {b p q : Nat} {x : Itm} (h : Nd w b x p q) (n : Int) : Nd (w.setCell ⟨b, 1, none⟩ (.int .i64 n)) b (x.1, n) p q := by
  unfold Nd at h ⊢; rw [heap_setCell_same w b 1 _ _ _ h]; rfl
theorem nd_set2 {w : World} {b p q : Nat} {x : Itm} (h : Nd w b x p q) (p' : Nat) : Nd (w.setCell ⟨b, 2, none⟩ (.pointer (some ⟨p', 0, none⟩))) b x p' q := by
  unfold Nd at h ⊢; rw [heap_setCell_same w b 2 _ _ _ h]; rfl
theorem nd_set3 {w : World} {b p q : Nat} {x : Itm} (h : Nd w b x p q) (q' : Nat) : Nd (w.setCell ⟨b, 3, none⟩ (.pointer (some ⟨q', 0, none⟩))) b x p q' := by
  unfold Nd at h ⊢; rw [heap_setCell_same w b 3 _ _ _ h]; rfl
theorem ndx_other {w : World} {b : Nat} {u u' : Value} {x : Itm} (h : NdX w b x u u') {a : Addr} (ha : b ≠ a.block) (v : Value) : NdX (w.setCell a v) b x u u' := by
  unfold NdX at h ⊢; rw [heap_setCell_other w a b v ha, h]
theorem ndx_set23 {w : World} {b : Nat} {u v : Value} {x : Itm} (h : NdX w b x u v) (p q : Nat) : Nd ((w.setCell ⟨b, 2, none⟩ (.pointer (some ⟨p, 0, none⟩))).setCell ⟨b, 3, none⟩ (.pointer (some ⟨q, 0, none⟩))) b x p q := by
  unfold NdX at h
  unfold Nd
  rw [heap_setCell_same _ b 3 _ _ _ (heap_setCell_same w b 2 _ _ _ h)]
  rfl
theorem ndx_cells {w : World} {b : Nat} {u v : Value} {x : Itm} (h : NdX w b x u v) :
    w.cell? ⟨b, 0, none⟩ = some (.string x.1) ∧ w.cell? ⟨b, 1, none⟩ = some (.int .i64 x.2) ∧ w.cell? ⟨b, 2, none⟩ = some u ∧ w.cell? ⟨b, 3, none⟩ = some v := by
  unfold NdX at h
  refine ⟨?_, ?_, ?_, ?_⟩ <;> simp [World.cell?, h]
theorem ndx_free {w : World} {b : Nat} {u v : Value} {x : Itm} (h : NdX w b x u v) (j : Nat) : w.frozen? ⟨b, j, none⟩ = false := by
  unfold NdX at h
  simp [World.frozen?, h]
theorem nd_other {w : World} {b p q : Nat} {x : Itm} (h : Nd w b x p q) {a : Addr} (ha : b ≠ a.block) (v : Value) : Nd (w.setCell a v) b x p q := by
  unfold Nd at h ⊢; rw [heap_setCell_other w a b v ha, h]
theorem nd_cells {w : World} {b p q : Nat} {x : Itm} (h : Nd w b x p q) :
    w.cell? ⟨b, 0, none⟩ = some (.string x.1) ∧ w.cell? ⟨b, 1, none⟩ = some (.int .i64 x.2) ∧ w.cell? ⟨b, 2, none⟩ = some (.pointer (some ⟨p, 0, none⟩)) ∧ w.cell? ⟨b, 3, none⟩ = some (.pointer (some ⟨q, 0, none⟩)) := by
  unfold Nd at h
  refine ⟨?_, ?_, ?_, ?_⟩ <;> simp [World.cell?, h]
theorem nd_free {w : World} {b p q : Nat} {x : Itm} (h : Nd w b x p q) (j : Nat) : w.frozen? ⟨b, j, none⟩ = false := by
  unfold Nd at h
  simp [World.frozen?, h]

theorem chain_other {w : World} {l : List Nod} {p s : Nat} (h : Chain w p l s) {a : Addr} (ha : a.block ∉ blk l) (v : Value) : Chain (w.setCell a v) p l s :=
  chain_keeps (fun b hb => heap_setCell_other w a b v (fun e => ha (e ▸ hb))) h

theorem chain_setR {w : World} {l : List Nod} : ∀ {p s : Nat}, Chain w p l s → l ≠ [] → (blk l).Nodup → ∀ s', Chain (w.setCell ⟨lstOr p l, 3, none⟩ (.pointer (some ⟨s', 0, none⟩))) p l s' := by
  induction l with
  | nil => intro p s _ h; exact absurd rfl h
  | cons n l ih =>
    intro p s hc _ hn s'
    cases l with
    | nil => exact ⟨nd_set3 hc.1 s', trivial⟩
    | cons m l =>
      have hn' : n.1 ∉ blk (m :: l) ∧ (blk (m :: l)).Nodup := List.nodup_cons.1 hn
      have hm : lstOr n.1 (m :: l) ∈ blk (m :: l) := by
        rcases lst_mem l m.1 with h | h
        · simp [lstOr, h]
        · simp only [lstOr, List.map_cons, List.mem_cons]; exact .inr h
      refine ⟨nd_other hc.1 (fun e => ?_) _, ih hc.2 (by simp) hn'.2 s'⟩
      exact hn'.1 (by rw [e]; exact hm)

theorem chain_setL {w : World} {n : Nod} {l : List Nod} {p s : Nat} (hc : Chain w p (n :: l) s) (hn : (blk (n :: l)).Nodup) (p' : Nat) : Chain (w.setCell ⟨n.1, 2, none⟩ (.pointer (some ⟨p', 0, none⟩))) p' (n :: l) s :=
  ⟨nd_set2 hc.1 p', chain_other hc.2 (List.nodup_cons.1 hn).1 _⟩

theorem nodup_mid {rt a : Nat} {x : Itm} {l r : List Nod} (hn : (rt :: blk (l ++ (a, x) :: r)).Nodup) :
    (rt :: blk l).Nodup ∧ (blk r).Nodup ∧ a ∉ rt :: blk l ∧ a ∉ blk r ∧ (∀ b ∈ rt :: blk l, b ∉ blk r) ∧ (rt :: blk (l ++ r)).Nodup := by
  simp only [List.map_append, List.map_cons, List.nodup_cons, List.nodup_append, List.mem_append, List.mem_cons, not_or] at hn ⊢
  obtain ⟨⟨h1, h2, h3⟩, h4, ⟨h5, h6⟩, h7⟩ := hn
  refine ⟨⟨h1, h4⟩, h6, ⟨fun e => h2 e.symm, fun h => h7 a h a (.inl rfl) rfl⟩, h5, ?_, ⟨h1, h3⟩, h4, h6, fun b hb c hc => h7 b hb c (.inr hc)⟩
  rintro b (rfl | hb) hr
  · exact h3 hr
  · exact h7 b hb b (.inr hr) rfl

theorem lst_in {rt : Nat} {l : List Nod} : lstOr rt l ∈ rt :: blk l := by
  rcases lst_mem l rt with h | h
  · simp [h]
  · exact List.mem_cons_of_mem _ h

/-- A link cut out. -/
theorem chain_cut {w : World} {rt a : Nat} {z x : Itm} {l r : List Nod} (hc : Chain w (lstOr rt (l ++ (a, x) :: r)) ((rt, z) :: (l ++ (a, x) :: r)) rt) (hn : (rt :: blk (l ++ (a, x) :: r)).Nodup) :
    Nd w a x (lstOr rt l) (fstOr r rt) ∧
    Chain ((w.setCell ⟨lstOr rt l, 3, none⟩ (.pointer (some ⟨fstOr r rt, 0, none⟩))).setCell ⟨fstOr r rt, 2, none⟩ (.pointer (some ⟨lstOr rt l, 0, none⟩))) (lstOr rt (l ++ r)) ((rt, z) :: (l ++ r)) rt := by
  obtain ⟨n1, n2, n3, n4, n5, n6⟩ := nodup_mid hn
  have e : (rt, z) :: (l ++ (a, x) :: r) = ((rt, z) :: l) ++ (a, x) :: r := rfl
  rw [e, chain_app] at hc
  obtain ⟨hL, hA, hR⟩ := hc
  have hl : lstOr (lstOr rt (l ++ (a, x) :: r)) ((rt, z) :: l) = lstOr rt l := rfl
  rw [hl] at hA
  refine ⟨hA, ?_⟩
  have h1 := chain_setR hL (by simp) n1 (fstOr r rt)
  rw [hl] at h1
  cases r with
  | nil =>
    have h2 := chain_setL h1 n1 (lstOr rt l)
    simpa [fstOr] using h2
  | cons c r =>
    have e2 : (rt, z) :: (l ++ c :: r) = ((rt, z) :: l) ++ c :: r := rfl
    rw [e2, chain_app]
    have hR1 := chain_other hR (a := ⟨lstOr rt l, 3, none⟩) (n5 _ lst_in) (.pointer (some ⟨fstOr (c :: r) rt, 0, none⟩))
    refine ⟨?_, chain_setL hR1 n2 _⟩
    have h3 := chain_other h1 (a := ⟨fstOr (c :: r) rt, 2, none⟩) (fun h => n5 _ h (by simp [fstOr])) (.pointer (some ⟨lstOr rt l, 0, none⟩))
    have e3 : lstOr rt (l ++ (a, x) :: c :: r) = lstOr rt (l ++ c :: r) := by rw [lstOr_app, lstOr_app]; rfl
    rw [e3] at h3
    exact h3

/-- A link hung between two. -/
theorem chain_hang {w : World} {rt a : Nat} {pu qu : Value} {z v : Itm} {l r : List Nod} (hc : Chain w (lstOr rt (l ++ r)) ((rt, z) :: (l ++ r)) rt) (hn : (rt :: blk (l ++ (a, v) :: r)).Nodup) (ha : NdX w a v pu qu) :
    Chain ((((w.setCell ⟨a, 2, none⟩ (.pointer (some ⟨lstOr rt l, 0, none⟩))).setCell ⟨a, 3, none⟩ (.pointer (some ⟨fstOr r rt, 0, none⟩))).setCell ⟨lstOr rt l, 3, none⟩ (.pointer (some ⟨a, 0, none⟩))).setCell ⟨fstOr r rt, 2, none⟩ (.pointer (some ⟨a, 0, none⟩)))
      (lstOr rt (l ++ (a, v) :: r)) ((rt, z) :: (l ++ (a, v) :: r)) rt := by
  obtain ⟨n1, n2, n3, n4, n5, n6⟩ := nodup_mid hn
  have e : (rt, z) :: (l ++ r) = ((rt, z) :: l) ++ r := rfl
  rw [e, chain_app] at hc
  obtain ⟨hL, hR⟩ := hc
  have a1 := ndx_set23 ha (lstOr rt l) (fstOr r rt)
  have L1 := chain_other (chain_other hL (a := ⟨a, 2, none⟩) n3 (.pointer (some ⟨lstOr rt l, 0, none⟩))) (a := ⟨a, 3, none⟩) n3 (.pointer (some ⟨fstOr r rt, 0, none⟩))
  have R1 := chain_other (chain_other hR (a := ⟨a, 2, none⟩) n4 (.pointer (some ⟨lstOr rt l, 0, none⟩))) (a := ⟨a, 3, none⟩) n4 (.pointer (some ⟨fstOr r rt, 0, none⟩))
  have hl : ∀ d, lstOr d ((rt, z) :: l) = lstOr rt l := fun d => rfl
  rw [hl] at R1
  have L2 := chain_setR L1 (by simp) n1 a
  rw [hl] at L2
  have hin : lstOr rt l ∈ rt :: blk l := lst_in
  have a2 := nd_other a1 (a := ⟨lstOr rt l, 3, none⟩) (fun e => n3 (by rw [e]; exact hin)) (.pointer (some ⟨a, 0, none⟩))
  have R2 := chain_other R1 (a := ⟨lstOr rt l, 3, none⟩) (n5 _ hin) (.pointer (some ⟨a, 0, none⟩))
  have e4 : (rt, z) :: (l ++ (a, v) :: r) = ((rt, z) :: l) ++ (a, v) :: r := rfl
  rw [e4, chain_app, hl]
  cases r with
  | nil =>
    have L3 := chain_setL L2 n1 a
    have a3 := nd_other a2 (a := ⟨rt, 2, none⟩) (fun e => n3 (by rw [e]; simp)) (.pointer (some ⟨a, 0, none⟩))
    refine ⟨?_, a3, trivial⟩
    have e5 : lstOr rt (l ++ [(a, v)]) = a := by rw [lstOr_app]; rfl
    rw [e5]
    exact L3
  | cons c r =>
    have hc : c.1 ∈ blk (c :: r) := by simp
    have a3 := nd_other a2 (a := ⟨fstOr (c :: r) rt, 2, none⟩) (fun e => n4 (by rw [e]; exact hc)) (.pointer (some ⟨a, 0, none⟩))
    have L3 := chain_other L2 (a := ⟨fstOr (c :: r) rt, 2, none⟩) (fun h => n5 _ h hc) (.pointer (some ⟨a, 0, none⟩))
    have R3 := chain_setL R2 n2 a
    have e5 : lstOr rt (l ++ (a, v) :: c :: r) = lstOr rt (l ++ c :: r) := by rw [lstOr_app, lstOr_app]; rfl
    rw [e5]
    exact ⟨L3, a3, R3⟩

/-- Another value. -/
theorem chain_val {w : World} {p s a : Nat} {x y : Itm} {l r : List Nod} (hc : Chain w p (l ++ (a, x) :: r) s) (hn : (blk (l ++ (a, x) :: r)).Nodup) {j : Nat} {u : Value}
    (hy : ∀ p q, Nd w a x p q → Nd (w.setCell ⟨a, j, none⟩ u) a y p q) : Chain (w.setCell ⟨a, j, none⟩ u) p (l ++ (a, y) :: r) s := by
  rw [chain_app] at hc ⊢
  obtain ⟨hL, hA, hR⟩ := hc
  simp only [List.map_append, List.map_cons, List.nodup_append, List.nodup_cons, List.mem_cons] at hn
  obtain ⟨h1, ⟨h2, h3⟩, h4⟩ := hn
  exact ⟨chain_other hL (fun h => h4 a h a (.inl rfl) rfl) _, hy _ _ hA, chain_other hR h2 _⟩

/-- r is a ring of the links ns, with the root rt; none of its memory lies in K. -/
structure RingAt (K : Nat → Prop) (w : World) (r rt : Nat) (ns : List Nod) : Prop where
  head : w.heap[r]? = some (.cells #[.pointer (some ⟨rt, 0, none⟩), .int .i64 ns.length] 143 (0, 0))
  chain : ∃ z : Itm, Chain w (lstOr rt ns) ((rt, z) :: ns) rt
  nodup : (rt :: blk ns).Nodup
  out : ¬ K r ∧ ∀ b ∈ rt :: blk ns, ¬ K b
  ok : okI (its ns)

theorem RingAt.lt {K : Nat → Prop} {w : World} {r rt : Nat} {ns : List Nod} (h : RingAt K w r rt ns) : r < w.heap.size ∧ ∀ b ∈ rt :: blk ns, b < w.heap.size :=
  ⟨lt_of_block h.head, fun b hb => by obtain ⟨z, hc⟩ := h.chain; exact chain_lt hc b hb⟩
theorem RingAt.ne {K : Nat → Prop} {w : World} {r rt : Nat} {ns : List Nod} (h : RingAt K w r rt ns) : r ∉ rt :: blk ns := by
  obtain ⟨z, hc⟩ := h.chain
  intro hr
  have : ∀ {l : List Nod} {p s : Nat}, Chain w p l s → r ∈ blk l → False := by
    intro l
    induction l with
    | nil => intro p s _ h; simp at h
    | cons n l ih =>
      intro p s hc h
      rcases List.mem_cons.1 (by simpa using h : r ∈ n.1 :: blk l) with e | h
      · have h1 := hc.1
        unfold Nd at h1
        rw [← e, ‹RingAt K w r rt ns›.head] at h1
        simp at h1
      · exact ih hc.2 h
  exact this hc hr
/-- Nothing of it has turned. -/
theorem RingAt.keeps {K K' : Nat → Prop} {w w' : World} {r rt : Nat} {ns : List Nod} (h : RingAt K w r rt ns) (hk : Keeps K' w w') (hr : K' r ∧ ∀ b ∈ rt :: blk ns, K' b) : RingAt K w' r rt ns := by
  obtain ⟨z, hc⟩ := h.chain
  exact ⟨(hk.block r hr.1).trans h.head, ⟨z, chain_keeps (fun b hb => hk.block b (hr.2 b hb)) hc⟩, h.nodup, h.out, h.ok⟩
theorem RingAt.below {K : Nat → Prop} {w w' : World} {r rt : Nat} {ns : List Nod} (h : RingAt K w r rt ns) (hb : Below w.heap.size w w') : RingAt K w' r rt ns :=
  h.keeps (Keeps.of_below hb (fun _ h => h)) h.lt
end Go.Proofs.Ytlclhdolcokipaa
/-
  The program's tally: a struct of an order of keys and a map of counts, behind a pointer.
-/
namespace Go.Proofs.Ytlclhdolcokipaa
open Go.RowKit


def keysV (l : List Itm) : List Value := l.map fun x => .string x.1

/-- Block t is a tally of the items l; none of its memory lies in K. -/
def TallyAt (K : Nat → Prop) (w : World) (t : Nat) (l : List Itm) : Prop :=
  ∃ (v : Value) (mb : Nat), w.heap[t]? = some (.cells #[v, .map (some mb)] 91 (0, 0)) ∧ ¬ K t ∧ ¬ K mb ∧ (∀ g, v.ownBlock = some g → ¬ K g) ∧ w.ownsRow 0 9 1 v l.length (keysV l) ∧ MapN 3 w mb l

theorem map_ne {w : World} {e mb t T : Nat} {l : List Itm} {cs : Array Value} (h : MapN e w mb l) (ht : w.heap[t]? = some (.cells cs T (0, 0))) : mb ≠ t := by
  rintro rfl
  obtain ⟨D, ⟨es, clock, hb, _⟩, _⟩ := h
  rw [hb] at ht
  simp at ht

theorem own_map_ne {w : World} {B E S e mb n : Nat} {v : Value} {xs : List Value} {l : List Itm} (h : w.ownsRow B E S v n xs) (hm : MapN e w mb l) : v.ownBlock ≠ some mb := by
  obtain ⟨D, ⟨es, clock, hb, _⟩, _⟩ := hm
  rcases h.2 with ⟨rfl, _⟩ | ⟨g, cap, cur, rfl, hb', hg, r⟩
  · simp [Value.ownBlock]
  · simp only [Value.ownBlock, ne_eq, Option.some.injEq]
    rintro rfl
    rw [hg] at hb
    simp at hb


theorem TallyAt.alloc {K : Nat → Prop} {w : World} {t : Nat} {l : List Itm} (h : TallyAt K w t l) (o : Obj) : TallyAt K (w.alloc o) t l := by
  obtain ⟨v, mb, hb, h1, h2, h3, h4, h5⟩ := h
  exact ⟨v, mb, (Below.heap_alloc _ _ _ (lt_of_block hb)).trans hb, h1, h2, h3, h4.alloc o, h5.alloc o⟩

theorem sum_step {t b : List Itm} {m M : Int} {k : Nat} (hb : smallI b m) (ht : cntLe t M) (hk : k < b.length) :
    -(M + 40 * 1000000000 + 1000000000) ≤ cnt (addAll t (b.take k) m) b[k].1 + b[k].2 * m ∧ cnt (addAll t (b.take k) m) b[k].1 + b[k].2 * m ≤ M + 40 * 1000000000 + 1000000000 := by
  have h1 := addAll_le (b.take k) m (take_small hb k).2 t M ht b[k].1
  have h2 := hb.2 _ (List.getElem_mem hk)
  have h3 := hb.1
  have h4 : (b.take k).length ≤ 40 := (take_small hb k).1
  omega

def AddPost (K : Nat → Prop) (t : Nat) (l : List Itm) (w : World) (e : Ending) (w' : World) : Prop :=
  e = .returned (.tuple #[]) ∧ TallyAt K w' t l ∧ Keeps K w w'

theorem tally_new {K : Nat → Prop} {w1 w2 : World} {t mb g cp : Nat} {l : List Itm} {s : ByteArray} {n : Int} {v : Value} (hb1 : w1.heap[t]? = some (.cells #[v, .map (some mb)] 91 (0, 0))) (hBt : ¬ K t) (hBm : ¬ K mb) (hBg : ¬ K g)
    (hown1 : w1.ownsRow 0 9 1 (.slice (some ⟨g, 0, none⟩) (l.length + 1) cp) (l.length + 1) (keysV l ++ [.string s]))
    (hmap1 : MapN 3 (w1.setCell ⟨t, 0, none⟩ (.slice (some ⟨g, 0, none⟩) (l.length + 1) cp)) mb l)
    (hmap2 : MapN 3 w2 mb (l ++ [(s, n)])) (hg : (w1.setCell ⟨t, 0, none⟩ (.slice (some ⟨g, 0, none⟩) (l.length + 1) cp)).grownBy w2 (some mb)) : TallyAt K w2 t (l ++ [(s, n)]) := by
  have hb2 := two_set0 hb1 (.slice (some ⟨g, 0, none⟩) (l.length + 1) cp)
  have ho2 := ownsRow_setCell_other hown1 (a := ⟨t, 0, none⟩) (own_ne hown1 hb1 (by decide)) (.slice (some ⟨g, 0, none⟩) (l.length + 1) cp)
  refine ⟨.slice (some ⟨g, 0, none⟩) (l.length + 1) cp, mb, ?_, hBt, hBm, (fun k hk => by simp [Value.ownBlock] at hk; subst hk; exact hBg), ?_, hmap2⟩
  · rw [hg.block t (lt_of_block hb2) (by intro e; cases e; exact map_ne hmap1 hb2 rfl), hb2]
  · have e : (l ++ [(s, n)]).length = l.length + 1 := by simp
    have e2 : keysV (l ++ [(s, n)]) = keysV l ++ [.string s] := by simp [keysV]
    rw [e, e2]
    exact ho2.kept hg (.inr (own_map_ne ho2 hmap1))

set_option maxHeartbeats 800000 in
theorem add_new (K : Nat → Prop) (t : Nat) (l : List Itm) (s : ByteArray) (n : Int) (w : World) (hK : ∀ k, K k → k < w.heap.size) (h : TallyAt K w t l) (hs : s.size ≤ 9223372036854775807) (hl : l.length ≤ 1048576) (hn : -9223372036854775808 ≤ n ∧ n ≤ 9223372036854775807)
    (hhas : hasI l s = false) :
    Calls Try.prog 138 #[.pointer (some ⟨t, 0, none⟩), .string s, .int .i64 n] w (AddPost K t (l ++ [(s, n)]) w) := by
  obtain ⟨v, mb, hb, hBt, hBm, hBv, hown, hmap⟩ := h
  have hcnt := cnt_none hhas
  have hput := putI_new (n := n) hhas
  have HH := Lib.hid hhas
  have HC := Lib.hid hcnt
  have HP := Lib.hid hput
  have HV := Lib.hid hBv
  have HKK := Lib.hid hK
  clear hhas hcnt hput hBv hK
  obtain ⟨i0, hi, hz0, hz1, hz2⟩ := info_parts Try.infoS
  have c0 := two_cell0 hb
  have c1 := two_cell1 hb
  have f0 := two_free hb 0
  have hbs := lt_of_block hb
  have hw64 : (Lit.int .i64 n).wf = true := WalkArith.wf_i64 (by omega)
  go_enter Try.func138, Try.ntmps138
  go_wp2_with (first
    | (at_lookup; refine wpl_lookokN _ rfl _ _ 89 rfl hmap Try.underlying89 Try.underlying3 (zeroN _) rfl _ rfl hs ?_; rw [HH.out, HC.out])
    | (at_builtin; refine wpList_append_own_at _ rfl _ _ 47 rfl 0 9 i0 (.string ⟨#[]⟩) 1 16 Try.underlying47 hi hz0 hz1 hz2 rfl (by decide) v l.length (keysV l) rfl (hown.alloc _) ⟨w.heap.size, 0, none⟩ 1 1 [.string s] rfl rfl (cell_one_new _ _ _) (by intro u hu; simp at hu; subst hu; rfl) (by unfold maxLen; omega) (by omega) (by simp) ?_; intro v' w1 hown1 hgrow1 hnil1 hloc1; obtain ⟨g, cp, rfl, hcp, hgB⟩ := own_shape hown1 (by omega); have HL := Lib.hid hloc1; clear hloc1 hnil1; have hb1 := grow_block hb hgrow1 (own_ne hown hb (by decide)); have c0' := two_cell0 hb1; have c1' := two_cell1 hb1; have f0' := two_free hb1 0; have hmap1 := ((hmap.alloc _).kept hgrow1 (Ne.symm (own_map_ne hown hmap))).of_block (Below.heap_setCell w1 ⟨t, 0, none⟩ (.slice (some ⟨g, 0, none⟩) (l.length + 1) cp) mb (map_ne hmap hb)); clear c0 c1 f0)
    | (at_lookup; refine wpl_lookN _ rfl _ _ 89 rfl (by assumption) Try.underlying89 Try.underlying3 (zeroN _) rfl _ rfl hs ?_; rw [HC.out])
    | (at_mapUpdate; refine wpl_storeN _ rfl _ _ _ 89 rfl (by assumption) Try.underlying89 Try.underlying3 rfl _ rfl _ rfl hs (by go_wf) (by omega) ?_; intro w2 hmap2 hgrow2; rw [HP.out] at hmap2))
  go_end0
  have hg : ¬ K g := by
    rcases HL.out with h | h
    · exact HV.out g (h.symm.trans (by simp [Value.ownBlock]))
    · intro hk
      have := HKK.out g hk
      simp [Value.ownBlock] at h
      omega
  exact ⟨rfl, tally_new hb1 hBt hBm hg hown1 hmap1 hmap2 hgrow2, ((((Keeps.refl K _).alloc HKK.out _).grown hgrow1 HKK.out HV.out).setCell hBt _).grown hgrow2 HKK.out (fun k hk => by cases hk; exact hBm)⟩

theorem tally_old {K : Nat → Prop} {w w2 : World} {t mb : Nat} {l : List Itm} {s : ByteArray} {n : Int} {v : Value} (hb : w.heap[t]? = some (.cells #[v, .map (some mb)] 91 (0, 0))) (hBt : ¬ K t) (hBm : ¬ K mb) (hBv : ∀ g, v.ownBlock = some g → ¬ K g)
    (hown : w.ownsRow 0 9 1 v l.length (keysV l)) (hmap : MapN 3 w mb l) (hmap2 : MapN 3 w2 mb (putI l s n)) (hg : w.grownBy w2 (some mb)) (hh : hasI l s = true) : TallyAt K w2 t (putI l s n) := by
  have hk := putI_keys (n := n) hh
  have hl : (putI l s n).length = l.length := by simpa using congrArg List.length hk
  have hk' : keysV (putI l s n) = keysV l := by
    have := congrArg (List.map Value.string) hk
    simpa [keysV, Function.comp_def] using this
  refine ⟨v, mb, ?_, hBt, hBm, hBv, ?_, hmap2⟩
  · rw [hg.block t (lt_of_block hb) (by intro e; cases e; exact map_ne hmap hb rfl), hb]
  · rw [hl, hk']
    exact hown.kept hg (.inr (own_map_ne hown hmap))

set_option maxHeartbeats 800000 in
theorem add_old (K : Nat → Prop) (t : Nat) (l : List Itm) (s : ByteArray) (n : Int) (w : World) (hK : ∀ k, K k → k < w.heap.size) (h : TallyAt K w t l) (hs : s.size ≤ 9223372036854775807) (hl : l.length ≤ 1048576) (hn : -9223372036854775808 ≤ cnt l s + n ∧ cnt l s + n ≤ 9223372036854775807)
    (hhas : hasI l s = true) :
    Calls Try.prog 138 #[.pointer (some ⟨t, 0, none⟩), .string s, .int .i64 n] w (AddPost K t (putI l s (cnt l s + n)) w) := by
  obtain ⟨v, mb, hb, hBt, hBm, hBv, hown, hmap⟩ := h
  have HH := Lib.hid hhas
  have HV := Lib.hid hBv
  have HKK := Lib.hid hK
  clear hhas hBv hK
  have c0 := two_cell0 hb
  have c1 := two_cell1 hb
  have hbs := lt_of_block hb
  have hw64 : (Lit.int .i64 (cnt l s + n)).wf = true := WalkArith.wf_i64 (by omega)
  go_enter Try.func138, Try.ntmps138
  go_wp2_with (first
    | (at_lookup; refine wpl_lookokN _ rfl _ _ 89 rfl hmap Try.underlying89 Try.underlying3 (zeroN _) rfl _ rfl hs ?_; rw [HH.out])
    | (at_lookup; refine wpl_lookN _ rfl _ _ 89 rfl hmap Try.underlying89 Try.underlying3 (zeroN _) rfl _ rfl hs ?_)
    | (at_mapUpdate; refine wpl_storeN _ rfl _ _ _ 89 rfl hmap Try.underlying89 Try.underlying3 rfl _ rfl (cnt l s + n) rfl hs hw64 (by omega) ?_; intro w2 hmap2 hgrow2))
  go_end0
  exact ⟨rfl, tally_old hb hBt hBm HV.out hown hmap hmap2 hgrow2 HH.out, (Keeps.refl K _).grown hgrow2 HKK.out (fun k hk => by cases hk; exact hBm)⟩

theorem add_any (K : Nat → Prop) (t : Nat) (l : List Itm) (s : ByteArray) (n : Int) (w : World) (hK : ∀ k, K k → k < w.heap.size) (h : TallyAt K w t l) (hs : s.size ≤ 9223372036854775807) (hl : l.length ≤ 1048576) (hn : -9223372036854775808 ≤ cnt l s + n ∧ cnt l s + n ≤ 9223372036854775807) :
    Calls Try.prog 138 #[.pointer (some ⟨t, 0, none⟩), .string s, .int .i64 n] w (AddPost K t (putI l s (cnt l s + n)) w) := by
  cases hh : hasI l s
  · rw [cnt_none hh, Int.zero_add] at hn ⊢
    rw [putI_new hh]
    exact add_new K t l s n w hK h hs hl hn hh
  · exact add_old K t l s n w hK h hs hl hn hh

theorem newTally_any (K : Nat → Prop) (w : World) (hK : ∀ k, K k → k < w.heap.size) :
    Calls Try.prog 119 #[] w fun e w' => ∃ t, e = .returned (.pointer (some ⟨t, 0, none⟩)) ∧ TallyAt K w' t [] ∧ Keeps K w w' := by
  have hmm := @run_makeMap Try.prog
  go_enter Try.func119, Try.ntmps119
  go_wp2
  go_ret
  have h1 : (w.alloc (.map #[] 0)).heap.size = w.heap.size + 1 := by simp
  have hb : ((w.alloc (.map #[] 0)).alloc (.cells #[.slice none 0 0, .map (some w.heap.size)] 91)).heap[w.heap.size + 1]? = some (.cells #[.slice none 0 0, .map (some w.heap.size)] 91 (0, 0)) := by
    rw [← h1]; exact heap_alloc_new _ _
  exact ⟨w.heap.size + 1, rfl, ⟨.slice none 0 0, w.heap.size, hb, fun hk => by have := hK _ hk; omega, fun hk => by have := hK _ hk; omega, fun g hg => by simp [Value.ownBlock] at hg, World.ownsRow_nil _ _ _ _, (MapN_made _ w).alloc _⟩, ((Keeps.refl K w).alloc hK _).alloc hK _⟩

theorem tally_reset {K : Nat → Prop} {w w1 : World} {t mb : Nat} {v : Value} {l : List Itm} (hb : w.heap[t]? = some (.cells #[v, .map (some mb)] 91 (0, 0))) (hBt : ¬ K t) (hBm : ¬ K mb) (hmap : MapN 3 w mb l)
    (hmap1 : MapN 3 w1 mb []) (hg : (w.setCell ⟨t, 0, none⟩ (.slice none 0 0)).grownBy w1 (some mb)) : TallyAt K w1 t [] := by
  have hb2 := two_set0 hb (.slice none 0 0)
  refine ⟨.slice none 0 0, mb, ?_, hBt, hBm, fun g hg => by simp [Value.ownBlock] at hg, World.ownsRow_nil _ _ _ _, hmap1⟩
  rw [hg.block t (lt_of_block hb2) (by intro e; cases e; exact map_ne hmap hb rfl), hb2]

set_option maxHeartbeats 1600000 in
theorem sum_any (K : Nat → Prop) (t : Nat) (l : List Itm) (va vb : Value) (a b : List Itm) (m : Int) (w : World) (hK : ∀ k, K k → k < w.heap.size) (h : TallyAt K w t l) (ha : Items w va a) (hb : Items w vb b)
    (hka : InK K va) (hkb : InK K vb) (hsa : smallI a 1) (hsb : smallI b m) :
    Calls Try.prog 120 #[.pointer (some ⟨t, 0, none⟩), va, vb, .int .i64 m] w (AddPost K t (sumL a b m) w) := by
  have hb0 := Lib.hid hb
  obtain ⟨v, mb, hbl, hBt, hBm, hBv, hown, hmap⟩ := h
  obtain ⟨ao, acap, rfl, hlc, hcm, hok, hcell⟩ := ha
  have HV := Lib.hid hBv
  have HKK := Lib.hid hK
  clear hBv hK
  have c0 := two_cell0 hbl
  have c1 := two_cell1 hbl
  have f0 := two_free hbl 0
  have hbs := lt_of_block hbl
  go_enter Try.func120, Try.ntmps120
  go_wp2_with (refine wpl_clearN _ rfl (.tmp 18) 89 rfl (hmap.of_block (Below.heap_setCell w ⟨t, 0, none⟩ (.slice none 0 0) mb (map_ne hmap hbl))) Try.underlying89 rfl ?_; intro w1 hmap1 hgrow1)
  have hT1 := tally_reset hbl hBt hBm hmap hmap1 hgrow1
  have hk1 : Keeps K w w1 := ((Keeps.refl K w).setCell hBt _).grown hgrow1 HKK.out (fun k hk => by cases hk; exact hBm)
  clear hmap1 hgrow1 c0 c1 f0
  go_loopw [21] (fun i wr => ∃ k : Nat, k ≤ a.length ∧ i = .int .i64 k ∧ TallyAt K wr t (addAll [] (a.take k) 1) ∧ Keeps K w wr) (fun i _ => a.length - (intOf i).toNat)
  case atStart => exact ⟨0, Nat.zero_le _, rfl, hT1, hk1⟩
  case round =>
    obtain ⟨k, hk, rfl, hT, hkp⟩ := hrel
    by_cases hlt : k < a.length
    · obtain ⟨b1, o1, rfl, hb1, h1, h2⟩ := hcell k hlt
      have hkb1 : K b1 := hka _ _ _ rfl (by omega)
      have c1 := (hkp.cell (a := ⟨b1, o1 + k * 2, none⟩) hkb1).trans h1
      have c2 := (hkp.cell (a := ⟨b1, o1 + k * 2 + 1, none⟩) hkb1).trans h2
      have hs := (hok _ (List.getElem_mem hlt)).1
      have hsm := Lib.hid (sum_step (t := []) (m := 1) hsa cntLe_nil hlt)
      have hln := addAll_length (a.take k) 1 []
      have hl40 := hsa.1
      go_wp2_with (go_at_call 138; refine (add_any K t (addAll [] (a.take k) 1) _ _ _ (fun j hj => Nat.lt_of_lt_of_le (HKK.out j hj) (Nat.le_trans hkp.size (by simp))) (hT.alloc _) hs (by simp at hln; omega) (by have := hsm.out; omega)).mono ?_; rintro e w2 ⟨rfl, hT2, hk2⟩)
      have hT3 := Lib.hid hT2
      clear hT2 hT c1 c2 h1 h2 hln
      go_roundw
      case rel => exact ⟨k + 1, by omega, by go_num, by have := hT3.out; rw [addAll_take hlt, Int.mul_one]; exact this, hkp.trans (((Keeps.refl K wr).alloc (fun j hj => Nat.lt_of_lt_of_le (HKK.out j hj) hkp.size) _).trans hk2)⟩
      case measure => simp [intOf]; omega
    · obtain rfl : k = a.length := by omega
      rw [List.take_length] at hT
      obtain ⟨bo, bcap, rfl, hlc2, hcm2, hok2, hcell2⟩ := hb0.out
      have hla := addAll_length a 1 []
      have hca : cntLe (addAll [] a 1) (0 + a.length * 1000000000) := addAll_le a 1 hsa.2 [] 0 cntLe_nil
      have hl40 := hsa.1
      have hl41 := hsb.1
      clear hcell hok hb
      go_wp2
      obtain ⟨wq, rfl⟩ : ∃ wq : World, wq = wr := ⟨_, rfl⟩
      go_loopw [34] (fun i wr => ∃ k : Nat, k ≤ b.length ∧ i = .int .i64 k ∧ TallyAt K wr t (addAll (addAll [] a 1) (b.take k) m) ∧ Keeps K w wr) (fun i _ => b.length - (intOf i).toNat)
      case atStart => exact ⟨0, Nat.zero_le _, rfl, hT, hkp⟩
      case round =>
        obtain ⟨k, hk, rfl, hT, hkp⟩ := hrel
        by_cases hlt : k < b.length
        · obtain ⟨b1, o1, rfl, hb1, h1, h2⟩ := hcell2 k hlt
          have hkb1 : K b1 := hkb _ _ _ rfl (by omega)
          have c1 := (hkp.cell (a := ⟨b1, o1 + k * 2, none⟩) hkb1).trans h1
          have c2 := (hkp.cell (a := ⟨b1, o1 + k * 2 + 1, none⟩) hkb1).trans h2
          have hs := (hok2 _ (List.getElem_mem hlt)).1
          have hsm := Lib.hid (sum_step hsb hca hlt)
          have hln := addAll_length (b.take k) m (addAll [] a 1)
          have hmul := hsb.2 _ (List.getElem_mem hlt)
          have hmul1 := hmul.1
          have hmul2 := hmul.2
          clear hmul
          go_wp2_with (go_at_call 138; refine (add_any K t (addAll (addAll [] a 1) (b.take k) m) _ _ _ (fun j hj => Nat.lt_of_lt_of_le (HKK.out j hj) (Nat.le_trans hkp.size (by simp))) (hT.alloc _) hs (by simp at hln hla; omega) (by have := hsm.out; omega)).mono ?_; rintro e w2 ⟨rfl, hT2, hk2⟩)
          have hT3 := Lib.hid hT2
          clear hT2 hT c1 c2 h1 h2 hln hmul1 hmul2
          go_roundw
          case rel => exact ⟨k + 1, by omega, by go_num, by have := hT3.out; rw [addAll_take hlt]; exact this, hkp.trans (((Keeps.refl K wr).alloc (fun j hj => Nat.lt_of_lt_of_le (HKK.out j hj) hkp.size) _).trans hk2)⟩
          case measure => simp [intOf]; omega
        · obtain rfl : k = b.length := by omega
          rw [List.take_length] at hT
          go_wp2
          go_end0
          exact ⟨rfl, hT, hkp⟩
end Go.Proofs.Ytlclhdolcokipaa
/-
  The program's tally: what is read out of it.
-/
namespace Go.Proofs.Ytlclhdolcokipaa
open Go.RowKit

theorem cnt_at {l : List Itm} : ∀ {k : Nat} (h : k < l.length), uniqI l = true → cnt l l[k].1 = l[k].2 := by
  induction l with
  | nil => intro k h; simp at h
  | cons x r ih =>
    intro k h hu
    simp only [uniqI, Bool.and_eq_true, Bool.not_eq_true'] at hu
    cases k with
    | zero => simp [cnt]
    | succ k =>
      have hk : k < r.length := by simpa using h
      have hne : x.1 ≠ r[k].1 := by
        intro e
        have := hasI_mem.2 ⟨r[k], List.getElem_mem hk, e.symm⟩
        rw [hu.1] at this
        cases this
      simp only [List.getElem_cons_succ, cnt, hne, if_false]
      exact ih hk hu.2

theorem MapN.uniq {e b : Nat} {w : World} {l : List Itm} (h : MapN e w b l) : uniqI l = true := by obtain ⟨D, _, _, _, _, h⟩ := h; exact h

theorem keysV_get {l : List Itm} {k : Nat} (h : k < l.length) : (keysV l)[k]? = some (.string l[k].1) := by simp [keysV, h]

/-! ### what is kept -/
theorem hasI_of_uniq {a b : List Itm} {x : Itm} (h : uniqI (a ++ x :: b) = true) : hasI a x.1 = false ∧ hasI b x.1 = false := by
  induction a with
  | nil =>
    simp only [List.nil_append, uniqI, Bool.and_eq_true, Bool.not_eq_true'] at h
    exact ⟨rfl, h.1⟩
  | cons y r ih =>
    simp only [List.cons_append, uniqI, Bool.and_eq_true, Bool.not_eq_true', hasI_append, hasI, Bool.or_eq_false_iff, decide_eq_false_iff_not] at h
    have := ih h.2
    refine ⟨?_, this.2⟩
    simp only [hasI, this.1, Bool.or_false, decide_eq_false_iff_not]
    exact fun e => h.1.2.1 e.symm
theorem delI_mid {a b : List Itm} {x : Itm} (h : hasI a x.1 = false) : delI (a ++ x :: b) x.1 = a ++ b := by
  induction a with
  | nil => simp [delI]
  | cons y r ih =>
    simp only [hasI, Bool.or_eq_false_iff, decide_eq_false_iff_not] at h
    simp [delI, h.1, ih h.2]
theorem cnt_mid {a b : List Itm} {x : Itm} (h : hasI a x.1 = false) : cnt (a ++ x :: b) x.1 = x.2 := by
  rw [cnt_append, h]; simp [cnt]

/-- What keep has kept of the first k. -/
def keptI (q : Int → Bool) (l : List Itm) (k : Nat) : List Itm := (l.take k).filter fun x => q x.2
theorem keptI_yes {q : Int → Bool} {l : List Itm} {k : Nat} (h : k < l.length) (hq : q l[k].2 = true) : keptI q l (k + 1) = keptI q l k ++ [l[k]] := by
  unfold keptI; rw [List.take_succ_eq_append_getElem h, List.filter_append]; simp [hq]
theorem keptI_no {q : Int → Bool} {l : List Itm} {k : Nat} (h : k < l.length) (hq : q l[k].2 = false) : keptI q l (k + 1) = keptI q l k := by
  unfold keptI; rw [List.take_succ_eq_append_getElem h, List.filter_append]; simp [hq]
theorem keptI_le (q : Int → Bool) (l : List Itm) (k : Nat) : (keptI q l k).length ≤ k := by
  unfold keptI; exact Nat.le_trans (List.length_filter_le _ _) (List.length_take_le _ _)

theorem keysV_snoc (l : List Itm) (x : Itm) : keysV (l ++ [x]) = keysV l ++ [.string x.1] := by simp [keysV]

def KeepRel (K : Nat → Prop) (w wr : World) (t mb : Nat) (v : Value) (l : List Itm) (q : Int → Bool) (k : Nat) : Prop :=
  wr.heap[t]? = some (.cells #[v, .map (some mb)] 91 (0, 0)) ∧ wr.ownsRow 0 9 1 v l.length (keysV l) ∧ MapN 3 wr mb (keptI q l k ++ l.drop k) ∧
    wr.ownsRow w.heap.size 9 1 (.slice (some ⟨w.heap.size, 0, none⟩) (keptI q l k).length l.length) (keptI q l k).length (keysV (keptI q l k)) ∧ Keeps K w wr ∧ w.heap.size < wr.heap.size

theorem keep_no {K : Nat → Prop} {w wr w2 : World} {t mb : Nat} {v : Value} {l : List Itm} {q : Int → Bool} {k : Nat} (h : KeepRel K w wr t mb v l q k) (hlt : k < l.length) (hq : q l[k].2 = false)
    (hmap2 : MapN 3 w2 mb (delI (keptI q l k ++ l.drop k) l[k].1)) (hg : wr.grownBy w2 (some mb)) (hBm : ¬ K mb) (hK : ∀ k, K k → k < w.heap.size) (hmw : mb < w.heap.size) : KeepRel K w w2 t mb v l q (k + 1) := by
  obtain ⟨hb, ho, hm, hr, hk, hs⟩ := h
  have hu := hm.uniq
  rw [List.drop_eq_getElem_cons hlt] at hu hmap2
  rw [delI_mid (hasI_of_uniq hu).1, ← keptI_no hlt hq] at hmap2
  refine ⟨?_, ho.kept hg (.inr (own_map_ne ho hm)), hmap2, ?_, hk.grown hg hK (fun j hj => by cases hj; exact hBm), Nat.lt_of_lt_of_le hs hg.size⟩
  · rw [hg.block t (lt_of_block hb) (by intro e; cases e; exact map_ne hm hb rfl), hb]
  · rw [keptI_no hlt hq]
    exact hr.kept hg (.inr (by simp [Value.ownBlock]; omega))

theorem keep_yes {K : Nat → Prop} {w wr w2 : World} {t mb : Nat} {v : Value} {l : List Itm} {q : Int → Bool} {k : Nat} {o : Obj} (h : KeepRel K w wr t mb v l q k) (hlt : k < l.length) (hq : q l[k].2 = true)
    (hrow2 : w2.ownsRow w.heap.size 9 1 (.slice (some ⟨w.heap.size, 0, none⟩) ((keptI q l k).length + 1) l.length) ((keptI q l k).length + 1) (keysV (keptI q l k) ++ [.string l[k].1])) (hg : (wr.alloc o).grownBy w2 (some w.heap.size))
    (hNK : ¬ K w.heap.size) (hK : ∀ k, K k → k < w.heap.size) (hmw : mb < w.heap.size) (htw : t < w.heap.size) (hvw : ∀ g, v.ownBlock = some g → g < w.heap.size) : KeepRel K w w2 t mb v l q (k + 1) := by
  obtain ⟨hb, ho, hm, hr, hk, hs⟩ := h
  rw [List.drop_eq_getElem_cons hlt] at hm
  have e1 : keptI q l k ++ l[k] :: l.drop (k + 1) = keptI q l (k + 1) ++ l.drop (k + 1) := by rw [keptI_yes hlt hq, List.append_assoc]; rfl
  rw [e1] at hm
  have hs2 := hg.size
  simp at hs2
  refine ⟨grow_block hb hg (by simp; omega), (ho.alloc o).kept hg ?_, (hm.alloc o).kept hg (by simp; omega), ?_, (hk.alloc hK o).grown hg hK (fun j hj => by cases hj; exact hNK), by omega⟩
  · cases hv : v.ownBlock with
    | none => exact .inl rfl
    | some g => exact .inr (by have := hvw g hv; simp; omega)
  · rw [keptI_yes hlt hq, keysV_snoc, List.length_append]
    exact hrow2

theorem keep_end {K : Nat → Prop} {w wr : World} {t mb : Nat} {v : Value} {l : List Itm} {q : Int → Bool} (h : KeepRel K w wr t mb v l q l.length) (hBt : ¬ K t) (hBm : ¬ K mb) (hNK : ¬ K w.heap.size) (htw : t < w.heap.size) :
    TallyAt K (wr.setCell ⟨t, 0, none⟩ (.slice (some ⟨w.heap.size, 0, none⟩) (keptI q l l.length).length l.length)) t (l.filter fun x => q x.2) ∧ Keeps K w (wr.setCell ⟨t, 0, none⟩ (.slice (some ⟨w.heap.size, 0, none⟩) (keptI q l l.length).length l.length)) := by
  obtain ⟨hb, ho, hm, hr, hk, hs⟩ := h
  have e1 : keptI q l l.length = l.filter fun x => q x.2 := by unfold keptI; rw [List.take_length]
  rw [e1] at hm hr ⊢
  rw [List.drop_length, List.append_nil] at hm
  refine ⟨⟨_, mb, two_set0 hb _, hBt, hBm, fun g hg => ?_, ?_, hm.of_block (Below.heap_setCell _ _ _ _ (map_ne hm hb))⟩, hk.setCell hBt _⟩
  · simp [Value.ownBlock] at hg; subst hg; exact hNK
  · have := ownsRow_setCell_other hr (a := ⟨t, 0, none⟩) (by simp [Value.ownBlock]; omega) (.slice (some ⟨w.heap.size, 0, none⟩) (l.filter fun x => q x.2).length l.length)
    refine ⟨this.1, ?_⟩
    rcases this.2 with h2 | ⟨g, c, cur, e, hg, r⟩
    · exact .inl h2
    · exact .inr ⟨g, c, cur, e, Nat.zero_le _, r⟩

end Go.Proofs.Ytlclhdolcokipaa
/-
  Sums made by the program, and what is positive of them.
-/
namespace Go.Proofs.Ytlclhdolcokipaa
open Go.RowKit

theorem sumOf_any (K : Nat → Prop) (va vb : Value) (a b : List Itm) (m : Int) (w : World) (hK : ∀ k, K k → k < w.heap.size) (ha : Items w va a) (hb : Items w vb b)
    (hka : InK K va) (hkb : InK K vb) (hsa : smallI a 1) (hsb : smallI b m) :
    Calls Try.prog 72 #[va, vb, .int .i64 m] w fun e w' => ∃ t, e = .returned (.pointer (some ⟨t, 0, none⟩)) ∧ TallyAt K w' t (sumL a b m) ∧ Keeps K w w' := by
  go_enter Try.func72, Try.ntmps72
  go_wp2_with fail
  refine (newTally_any K w hK).mono ?_
  rintro e w1 ⟨t, rfl, hT, hk1⟩
  go_wp2_with fail
  refine (sum_any K t [] va vb a b m w1 (fun j hj => Nat.lt_of_lt_of_le (hK j hj) hk1.size) hT (ha.keeps hk1 hka) (hb.keeps hk1 hkb) hka hkb hsa hsb).mono ?_
  rintro e w2 ⟨rfl, hT2, hk2⟩
  go_wp2
  go_ret
  exact ⟨t, rfl, hT2, hk1.trans hk2⟩

/-! ### what a sum holds -/
theorem addAll_mem (b : List Itm) (m : Int) : ∀ (t : List Itm) (s : ByteArray), hasI (addAll t b m) s = (hasI t s || hasI b s) := by
  induction b with
  | nil => intro t s; simp [addAll, hasI]
  | cons x r ih =>
    intro t s
    have e : addAll t (x :: r) m = addAll (putI t x.1 (cnt t x.1 + x.2 * m)) r m := rfl
    rw [e, ih, hasI_putI]
    simp only [hasI]
    cases decide (x.1 = s) <;> simp

theorem okI_of {l : List Itm} (hu : uniqI l = true) (hk : ∀ s, hasI l s = true → s.size ≤ 9223372036854775807) (hc : cntLe l 9000000000000000000) : okI l := by
  intro x hx
  obtain ⟨k, hk', rfl⟩ := List.mem_iff_getElem.1 hx
  have h1 := hk l[k].1 (hasI_mem.2 ⟨_, List.getElem_mem hk', rfl⟩)
  have h2 := hc l[k].1
  rw [cnt_at hk' hu] at h2
  exact ⟨h1, by omega, by omega⟩

theorem sumL_le {a b : List Itm} {m : Int} (hsa : smallI a 1) (hsb : smallI b m) : cntLe (sumL a b m) 80000000000 := by
  have h1 := addAll_le a 1 hsa.2 [] 0 cntLe_nil
  have h2 := addAll_le b m hsb.2 _ _ h1
  have h3 := hsa.1
  have h4 := hsb.1
  intro s
  have := h2 s
  unfold sumL
  omega
theorem sumL_uniq (a b : List Itm) (m : Int) : uniqI (sumL a b m) = true := uniqI_addAll b m _ (uniqI_addAll a 1 [] rfl)
theorem sumL_length {a b : List Itm} {m : Int} (hsa : smallI a 1) (hsb : smallI b m) : (sumL a b m).length ≤ 80 := by
  have h1 := addAll_length a 1 []
  have h2 := addAll_length b m (addAll [] a 1)
  have h3 := hsa.1
  have h4 := hsb.1
  unfold sumL
  simp at h1
  omega
theorem sumL_ok {a b : List Itm} {m : Int} (hsa : smallI a 1) (hsb : smallI b m) (ha : okI a) (hb : okI b) : okI (sumL a b m) := by
  refine okI_of (sumL_uniq a b m) (fun s hs => ?_) (fun s => by have := sumL_le hsa hsb s; omega)
  unfold sumL at hs
  rw [addAll_mem, addAll_mem] at hs
  simp only [hasI, Bool.false_or, Bool.or_eq_true] at hs
  rcases hs with hs | hs
  · obtain ⟨x, hx, rfl⟩ := hasI_mem.1 hs; exact (ha x hx).1
  · obtain ⟨x, hx, rfl⟩ := hasI_mem.1 hs; exact (hb x hx).1
def PosPost (K : Nat → Prop) (t : Nat) (l : List Itm) (w : World) (e : Ending) (w' : World) : Prop :=
  ∃ v, e = .returned v ∧ OwnI 43 w' w.heap.size v l ∧ TallyAt K w' t l ∧ Keeps K w w'

theorem TallyAt.below {K : Nat → Prop} {w w' : World} {t : Nat} {l : List Itm} (h : TallyAt K w t l) {C : Nat} (hb : Below C w w') (hC : w.heap.size ≤ C) : TallyAt K w' t l := by
  obtain ⟨v, mb, h1, h2, h3, h4, h5, h6⟩ := h
  exact ⟨v, mb, (hb.block t (Nat.lt_of_lt_of_le (lt_of_block h1) hC)).trans h1, h2, h3, h4, ownsRow_below h5 hb hC, h6.below hb hC⟩

end Go.Proofs.Ytlclhdolcokipaa
/-
  The program's functions over two lists of items.
-/
namespace Go.Proofs.Ytlclhdolcokipaa
open Go.RowKit

theorem mul_bound {a b A B : Int} (h1 : -A ≤ a) (h2 : a ≤ A) (h3 : -B ≤ b) (h4 : b ≤ B) : -(A * B) ≤ a * b ∧ a * b ≤ A * B := by
  have hA : 0 ≤ A := by omega
  have hB : 0 ≤ B := by omega
  have e1 : (a.natAbs : Int) ≤ A := by omega
  have e2 : (b.natAbs : Int) ≤ B := by omega
  have e3 : ((a * b).natAbs : Int) ≤ A * B := by
    rw [Int.natAbs_mul, Int.natCast_mul]
    exact Int.mul_le_mul e1 e2 (by omega) hA
  omega
theorem valid_small {l : List Itm} {m : Int} (h : validI l = true) (h1 : -9999 ≤ m) (h2 : m ≤ 9999) : smallI l m :=
  ⟨by have := valid_len h; omega, fun x hx => by
    have hx := valid_num h x hx
    have := mul_bound hx.1 hx.2 h1 h2
    omega⟩

theorem small_nil (m : Int) : smallI [] m := ⟨by simp, fun x hx => by simp at hx⟩
end Go.Proofs.Ytlclhdolcokipaa
/-
  The program's functions over one list of items.
-/
namespace Go.Proofs.Ytlclhdolcokipaa
open Go.RowKit
end Go.Proofs.Ytlclhdolcokipaa
/-
  The program's functions that compare lists of items, and the smaller and the greater counts.
-/
namespace Go.Proofs.Ytlclhdolcokipaa
open Go.RowKit

/-- K and the block of a row. -/
def withRow (K : Nat → Prop) (v : Value) (k : Nat) : Prop := K k ∨ v.ownBlock = some k

theorem withRow_lt {K : Nat → Prop} {w : World} {B : Nat} {v : Value} {l : List Itm} (hK : ∀ k, K k → k < w.heap.size) (h : OwnI 43 w B v l) : ∀ k, withRow K v k → k < w.heap.size := by
  rintro k (hk | hk)
  · exact hK k hk
  · exact (h.1.lt k hk).2

theorem inRow {K : Nat → Prop} {w : World} {B : Nat} {v : Value} {l : List Itm} (_h : OwnI 43 w B v l) : InK (withRow K v) v := by
  intro a n c e _
  subst e
  exact .inr rfl

theorem tally_row {K : Nat → Prop} {w : World} {B t : Nat} {v : Value} {l m : List Itm} (h : TallyAt K w t l) (hr : OwnI 43 w B v m) : TallyAt (withRow K v) w t l := by
  obtain ⟨u, mb, hb, h1, h2, h3, h4, h5⟩ := h
  refine ⟨u, mb, hb, ?_, ?_, ?_, h4, h5⟩
  · rintro (hk | hk)
    · exact h1 hk
    · exact own_ne hr.1 hb (by decide) hk
  · rintro (hk | hk)
    · exact h2 hk
    · exact own_map_ne hr.1 h5 hk
  · rintro g hg (hk | hk)
    · exact h3 g hg hk
    · rcases h4.2 with ⟨rfl, _⟩ | ⟨g', cap', cur, rfl, _, hc, _⟩
      · simp [Value.ownBlock] at hg
      · simp [Value.ownBlock] at hg
        subst hg
        exact own_ne hr.1 hc (by decide) hk

theorem addAll_leD (b : List Itm) (m D : Int) (hb : ∀ x ∈ b, -D ≤ x.2 * m ∧ x.2 * m ≤ D) : ∀ (t : List Itm) (M : Int), cntLe t M → cntLe (addAll t b m) (M + b.length * D) := by
  induction b with
  | nil => intro t M h; simpa [addAll] using h
  | cons x r ih =>
    intro t M h
    have hx := hb x (by simp)
    have h1 := ih (fun y hy => hb y (by simp [hy])) _ _ (cntLe_put (D := D) (d := x.2 * m) h x.1 (by omega) (by omega))
    have e : addAll t (x :: r) m = addAll (putI t x.1 (cnt t x.1 + x.2 * m)) r m := rfl
    have e2 : M + ((x :: r).length : Int) * D = M + D + (r.length : Int) * D := by
      rw [List.length_cons, Int.natCast_add, Int.add_mul]
      omega
    rw [e, e2]
    exact h1

theorem above_small {a b : List Itm} (ha : validI a = true) (hb : validI b = true) (m : Int) (hm : m = -1 ∨ m = 1) : smallI (posI (sumL a b (-1))) m := by
  have hna := valid_num ha
  have hnb := valid_num hb
  have hla := valid_len ha
  have hlb := valid_len hb
  have h1 := addAll_leD a 1 9999 (fun x hx => by have := hna x hx; omega) [] 0 cntLe_nil
  have h2 := addAll_leD b (-1) 9999 (fun x hx => by have := hnb x hx; omega) _ _ h1
  have l1 := addAll_length a 1 []
  have l2 := addAll_length b (-1) (addAll [] a 1)
  refine ⟨?_, fun x hx => ?_⟩
  · have := List.length_filter_le (fun x : Itm => decide (0 < x.2)) (sumL a b (-1))
    unfold posI
    unfold sumL at this ⊢
    simp at l1
    omega
  · have hx' := (List.mem_filter.1 hx).1
    obtain ⟨k, hk, rfl⟩ := List.mem_iff_getElem.1 hx'
    have h3 := h2 (sumL a b (-1))[k].1
    have e := cnt_at hk (sumL_uniq a b (-1))
    unfold sumL at e h3 ⊢
    rw [e] at h3
    rcases hm with rfl | rfl <;> omega

theorem CountOf_any (va : Value) (a : List Itm) (s : ByteArray) (w : World) (ha : Items w va a) (hs : s.size ≤ 9223372036854775807) :
    Calls Try.prog 23 #[va, .string s] w fun e w' => e = .returned (.int .i64 (if validI a = true then cnt (sumL a [] 1) s else 0)) ∧ Below w.heap.size w w' := by
  go_enter Try.func23, Try.ntmps23
  cases hv : validI a
  · have H := Lib.hid hv
    clear hv
    go_wp2_with fail
    refine (Vi_v _ ha H.out).mono ?_
    rintro e w1 ⟨rfl, hb1⟩
    go_wp2
    go_ret
    exact ⟨rfl, hb1⟩
  · have H := Lib.hid hv
    clear hv
    have hsa := valid_small (m := 1) H.out (by omega) (by omega)
    go_wp2_with fail
    refine (Vi_v _ ha H.out).mono ?_
    rintro e w1 ⟨rfl, hb1⟩
    have ha1 := ha.mono hb1 (Nat.le_refl _)
    go_wp2_with fail
    refine (sumOf_any (· < w1.heap.size) va (.slice none 0 0) a [] 1 w1 (fun _ h => h) ha1 (Items.nil _) ha1.inK (InK.nil _) hsa (small_nil 1)).mono ?_
    rintro e w2 ⟨t, rfl, hT, hk2⟩
    have h12 : Below w1.heap.size w1 w2 := hk2.below (fun _ h => h)
    obtain ⟨v, mb, hbt, _, _, _, _, hmap⟩ := hT
    have c1 := two_cell1 hbt
    clear hk2 ha ha1 hbt
    go_wp2_with (at_lookup; refine wpl_lookN _ rfl _ _ 89 rfl hmap Try.underlying89 Try.underlying3 (zeroN _) rfl _ rfl hs ?_)
    go_ret
    exact ⟨rfl, hb1.trans (h12.mono hb1.size)⟩

theorem nzI_not (l : List Itm) : (l.filter fun x => !decide (x.2 = 0)) = nzI l := List.filter_congr fun x _ => by simp

end Go.Proofs.Ytlclhdolcokipaa
/-
  The model's count.
-/
namespace Go.Proofs.Ytlclhdolcokipaa
open Go.RowKit
end Go.Proofs.Ytlclhdolcokipaa
/-
  The model's count, and what is positive.
-/
namespace Go.Proofs.Ytlclhdolcokipaa
open Go.RowKit

theorem posI_yes {l : List Itm} {k : Nat} (h : k < l.length) (hq : 0 < l[k].2) : posI (l.take (k + 1)) = posI (l.take k) ++ [l[k]] := by
  unfold posI; rw [List.take_succ_eq_append_getElem h, List.filter_append]; simp [hq]
theorem posI_no {l : List Itm} {k : Nat} (h : k < l.length) (hq : ¬ 0 < l[k].2) : posI (l.take (k + 1)) = posI (l.take k) := by
  unfold posI; rw [List.take_succ_eq_append_getElem h, List.filter_append]; simp [hq]
end Go.Proofs.Ytlclhdolcokipaa
/-
  The model's sums.
-/
namespace Go.Proofs.Ytlclhdolcokipaa
open Go.RowKit
end Go.Proofs.Ytlclhdolcokipaa
/-
  The model's functions that are asked of the program, one by one.
-/
namespace Go.Proofs.Ytlclhdolcokipaa
open Go.RowKit

theorem addAll_nil_uniq (l : List Itm) : ∀ t : List Itm, uniqI (t ++ l) = true → addAll t l 1 = t ++ l := by
  induction l with
  | nil => intro t _; simp [addAll]
  | cons x r ih =>
    intro t h
    have h1 := (hasI_of_uniq h).1
    have e : addAll t (x :: r) 1 = addAll (putI t x.1 (cnt t x.1 + x.2 * 1)) r 1 := rfl
    rw [e, cnt_none h1, Int.zero_add, Int.mul_one, putI_new h1, ih _ (by simpa using h)]
    simp
theorem sumL_valid {a : List Itm} (h : validI a = true) (b : List Itm) (m : Int) : sumL a b m = addAll a b m := by
  unfold sumL
  rw [addAll_nil_uniq a [] (by simpa using valid_uniq h)]
  rfl
theorem sumL_one {a : List Itm} (h : validI a = true) : sumL a [] 1 = a := by rw [sumL_valid h]; rfl
theorem valid_cnt {a : List Itm} (h : validI a = true) : cntLe a 1000000000 := by
  have h1 := addAll_leD a 1 9999 (fun x hx => by have := valid_num h x hx; omega) [] 0 cntLe_nil
  rw [addAll_nil_uniq a [] (by simpa using valid_uniq h)] at h1
  have h2 := valid_len h
  intro s
  have h3 := h1 s
  simp only [List.nil_append] at h3
  omega

end Go.Proofs.Ytlclhdolcokipaa
/-
  Lists of items as keys and counts: what the operations come to.
-/
namespace Go.Proofs.Ytlclhdolcokipaa
open Go.RowKit

def keysL (l : List Itm) : List ByteArray := l.map (·.1)
def mkL (K : List ByteArray) (f : ByteArray → Int) : List Itm := K.map fun k => (k, f k)

theorem mem_keys {l : List Itm} {k : ByteArray} : k ∈ keysL l ↔ hasI l k = true := by
  rw [hasI_mem]
  simp [keysL]
theorem mk_congr {K : List ByteArray} {f g : ByteArray → Int} (h : ∀ k ∈ K, f k = g k) : mkL K f = mkL K g := by
  unfold mkL
  exact List.map_congr_left fun k hk => by rw [h k hk]
theorem mk_append (K K' : List ByteArray) (f : ByteArray → Int) : mkL (K ++ K') f = mkL K f ++ mkL K' f := by simp [mkL]
theorem keys_mk (K : List ByteArray) (f : ByteArray → Int) : keysL (mkL K f) = K := by simp [keysL, mkL, Function.comp_def]
theorem has_mk (K : List ByteArray) (f : ByteArray → Int) (k : ByteArray) : hasI (mkL K f) k = true ↔ k ∈ K := by rw [← mem_keys, keys_mk]
open Classical in
theorem cnt_mk (K : List ByteArray) (f : ByteArray → Int) (k : ByteArray) : cnt (mkL K f) k = if k ∈ K then f k else 0 := by
  induction K with
  | nil => simp [mkL, cnt]
  | cons x r ih =>
    simp only [mkL, List.map_cons, cnt] at ih ⊢
    by_cases h : x = k
    · subst h; simp
    · have h' : ¬ k = x := fun e => h e.symm
      simp [h, h', ih]
theorem uniq_mk_cnt : ∀ {l : List Itm}, uniqI l = true → l = mkL (keysL l) (cnt l)
  | [], _ => rfl
  | x :: r, h => by
    simp only [uniqI, Bool.and_eq_true, Bool.not_eq_true'] at h
    have ih := uniq_mk_cnt h.2
    have e : mkL (keysL r) (cnt (x :: r)) = mkL (keysL r) (cnt r) := by
      refine mk_congr fun k hk => ?_
      have hk' := mem_keys.1 hk
      simp only [cnt]
      rw [if_neg]
      intro e
      rw [← e, h.1] at hk'
      cases hk'
    show x :: r = (x.1, cnt (x :: r) x.1) :: mkL (keysL r) (cnt (x :: r))
    rw [e, ← ih]
    simp [cnt]
theorem pos_mk (K : List ByteArray) (f : ByteArray → Int) : posI (mkL K f) = mkL (K.filter fun k => decide (0 < f k)) f := by
  unfold posI mkL
  rw [List.filter_map]
  rfl
theorem nz_mk (K : List ByteArray) (f : ByteArray → Int) : nzI (mkL K f) = mkL (K.filter fun k => decide (f k ≠ 0)) f := by
  unfold nzI mkL
  rw [List.filter_map]
  rfl

/-! ### sums -/
theorem cnt_addAll (b : List Itm) (m : Int) : ∀ t : List Itm, uniqI b = true → ∀ s, cnt (addAll t b m) s = cnt t s + cnt b s * m := by
  induction b with
  | nil => intro t _ s; simp [addAll, cnt]
  | cons x r ih =>
    intro t h s
    simp only [uniqI, Bool.and_eq_true, Bool.not_eq_true'] at h
    have e : addAll t (x :: r) m = addAll (putI t x.1 (cnt t x.1 + x.2 * m)) r m := rfl
    rw [e, ih _ h.2]
    by_cases hs : s = x.1
    · subst hs
      rw [cnt_putI_same, cnt_none h.1]
      simp [cnt]
    · have hs' : ¬ x.1 = s := fun e => hs e.symm
      rw [cnt_putI_other _ _ _ _ hs]
      simp [cnt, hs']
theorem uniq_addAll (b : List Itm) (m : Int) : ∀ t : List Itm, uniqI t = true → uniqI (addAll t b m) = true := by
  induction b with
  | nil => intro t h; exact h
  | cons x r ih => intro t h; exact ih _ (uniqI_putI _ _ h)
theorem keys_addAll (b : List Itm) (m : Int) : ∀ t : List Itm, uniqI b = true → keysL (addAll t b m) = keysL t ++ (keysL b).filter fun k => !hasI t k := by
  induction b with
  | nil => intro t _; simp [addAll, keysL]
  | cons x r ih =>
    intro t h
    simp only [uniqI, Bool.and_eq_true, Bool.not_eq_true'] at h
    have e : addAll t (x :: r) m = addAll (putI t x.1 (cnt t x.1 + x.2 * m)) r m := rfl
    rw [e, ih _ h.2]
    have hk : keysL (x :: r) = x.1 :: keysL r := rfl
    rw [hk]
    cases hh : hasI t x.1
    · rw [putI_new hh]
      simp only [List.filter_cons, hh, Bool.not_false, if_true]
      have e2 : keysL (t ++ [(x.1, cnt t x.1 + x.2 * m)]) = keysL t ++ [x.1] := by simp [keysL]
      rw [e2, List.append_assoc]
      congr 1
      rw [List.singleton_append]
      congr 1
      refine List.filter_congr fun k hk => ?_
      rw [hasI_append]
      have : hasI [(x.1, cnt t x.1 + x.2 * m)] k = false := by
        simp only [hasI, Bool.or_false, decide_eq_false_iff_not]
        intro e
        have := mem_keys.1 hk
        rw [← e, h.1] at this
        cases this
      rw [this, Bool.or_false]
    · have e2 : keysL (putI t x.1 (cnt t x.1 + x.2 * m)) = keysL t := putI_keys hh
      rw [e2]
      simp only [List.filter_cons, hh, Bool.not_true]
      congr 1
      refine List.filter_congr fun k _ => ?_
      rw [hasI_putI]
      by_cases e : x.1 = k
      · subst e; simp [hh]
      · simp [e]
theorem addAll_mk {a b : List Itm} (ha : uniqI a = true) (hb : uniqI b = true) (m : Int) :
    addAll a b m = mkL (keysL a ++ (keysL b).filter fun k => !hasI a k) (fun s => cnt a s + cnt b s * m) := by
  rw [uniq_mk_cnt (uniq_addAll b m a ha), keys_addAll b m a hb]
  exact mk_congr fun k _ => cnt_addAll b m a hb k
theorem uniq_keys : ∀ {l l' : List Itm}, keysL l = keysL l' → uniqI l = uniqI l'
  | [], [], _ => rfl
  | [], _ :: _, h => by simp [keysL] at h
  | _ :: _, [], h => by simp [keysL] at h
  | x :: r, y :: r', h => by
    simp only [keysL, List.map_cons, List.cons.injEq] at h
    have ih := uniq_keys (l := r) (l' := r') h.2
    have hh : hasI r x.1 = hasI r' y.1 := by
      rw [h.1, Bool.eq_iff_iff, ← mem_keys, ← mem_keys]
      show y.1 ∈ r.map (·.1) ↔ y.1 ∈ r'.map (·.1)
      rw [h.2]
    simp only [uniqI, ih, hh]
theorem uniq_filter {p : Itm → Bool} : ∀ {l : List Itm}, uniqI l = true → uniqI (l.filter p) = true
  | [], _ => rfl
  | x :: r, h => by
    simp only [uniqI, Bool.and_eq_true, Bool.not_eq_true'] at h
    have ih := uniq_filter (p := p) h.2
    rw [List.filter_cons]
    split
    · simp only [uniqI, Bool.and_eq_true, Bool.not_eq_true', ih, and_true]
      cases hh : hasI (r.filter p) x.1
      · rfl
      · obtain ⟨y, hy, e⟩ := hasI_mem.1 hh
        have := hasI_mem.2 ⟨y, (List.mem_filter.1 hy).1, e⟩
        rw [h.1] at this
        cases this
    · exact ih
theorem cnt_at_mem {l : List Itm} (h : uniqI l = true) {x : Itm} (hx : x ∈ l) : cnt l x.1 = x.2 := by
  obtain ⟨k, hk, rfl⟩ := List.mem_iff_getElem.1 hx
  exact cnt_at hk h

/-! ### one operation after another -/
theorem scale_eq {a : List Itm} (h : uniqI a = true) (m : Int) : sumL [] a m = a.map fun x => (x.1, x.2 * m) := by
  show addAll [] a m = _
  rw [addAll_mk rfl h]
  have e1 : (keysL ([] : List Itm) ++ (keysL a).filter fun k => !hasI [] k) = keysL a := by
    show ([] : List ByteArray) ++ _ = _
    rw [List.nil_append, List.filter_eq_self]
    intro k _
    rfl
  rw [e1]
  show (a.map (·.1)).map _ = _
  rw [List.map_map]
  refine List.map_congr_left fun x hx => ?_
  show (x.1, cnt [] x.1 + cnt a x.1 * m) = _
  rw [cnt_at_mem h hx]
  simp [cnt]

theorem meet_eq {a b : List Itm} (ha : uniqI a = true) (hb : uniqI b = true) :
    posI (addAll a (posI (addAll a b (-1))) (-1)) = posI (a.map fun x => (x.1, min x.2 (cnt b x.1))) := by
  have hd : uniqI (posI (addAll a b (-1))) = true := uniq_filter (uniq_addAll b (-1) a ha)
  have hcd : ∀ s, cnt (posI (addAll a b (-1))) s = if 0 < cnt a s - cnt b s then cnt a s - cnt b s else 0 := by
    intro s
    rw [addAll_mk ha hb, pos_mk, cnt_mk]
    simp only [List.mem_filter, List.mem_append, mem_keys, decide_eq_true_eq, Bool.not_eq_true']
    by_cases hp : 0 < cnt a s - cnt b s
    · rw [if_pos hp, if_pos]
      · omega
      · refine ⟨?_, by omega⟩
        cases h1 : hasI a s
        · cases h2 : hasI b s
          · rw [cnt_none h1, cnt_none h2] at hp
            omega
          · exact .inr ⟨rfl, rfl⟩
        · exact .inl rfl
    · rw [if_neg hp, if_neg]
      intro h
      omega
  rw [addAll_mk ha hd, pos_mk, List.filter_append, mk_append]
  have e2 : ((keysL (posI (addAll a b (-1)))).filter fun k => !hasI a k).filter (fun k => decide (0 < cnt a k + cnt (posI (addAll a b (-1))) k * -1)) = [] := by
    rw [List.filter_eq_nil_iff]
    intro k hk
    have h1 := (List.mem_filter.1 hk).2
    simp only [Bool.not_eq_true'] at h1
    rw [cnt_none h1, hcd k]
    simp only [decide_eq_true_eq]
    split <;> omega
  rw [e2]
  have e3 : (a.map fun x => (x.1, min x.2 (cnt b x.1))) = mkL (keysL a) (fun s => min (cnt a s) (cnt b s)) := by
    unfold mkL keysL
    rw [List.map_map]
    refine List.map_congr_left fun x hx => ?_
    show _ = (x.1, min (cnt a x.1) (cnt b x.1))
    rw [cnt_at_mem ha hx]
  rw [e3, pos_mk]
  have e4 : ∀ s, cnt a s + cnt (posI (addAll a b (-1))) s * -1 = min (cnt a s) (cnt b s) := by
    intro s
    rw [hcd]
    split <;> omega
  show mkL _ _ ++ [] = _
  rw [List.append_nil]
  simp only [e4]

theorem join_eq {a b : List Itm} (ha : uniqI a = true) (hb : uniqI b = true) :
    posI (addAll a (posI (addAll b a (-1))) 1) = posI ((a ++ restI b a).map fun x => (x.1, max (cnt a x.1) (cnt b x.1))) := by
  have hd : uniqI (posI (addAll b a (-1))) = true := uniq_filter (uniq_addAll a (-1) b hb)
  have hcd : ∀ s, cnt (posI (addAll b a (-1))) s = if 0 < cnt b s - cnt a s then cnt b s - cnt a s else 0 := by
    intro s
    rw [addAll_mk hb ha, pos_mk, cnt_mk]
    simp only [List.mem_filter, List.mem_append, mem_keys, decide_eq_true_eq, Bool.not_eq_true']
    by_cases hp : 0 < cnt b s - cnt a s
    · rw [if_pos hp, if_pos]
      · omega
      · refine ⟨?_, by omega⟩
        cases h1 : hasI b s
        · cases h2 : hasI a s
          · rw [cnt_none h1, cnt_none h2] at hp
            omega
          · exact .inr ⟨rfl, rfl⟩
        · exact .inl rfl
    · rw [if_neg hp, if_neg]
      intro h
      omega
  have e4 : ∀ s, cnt a s + cnt (posI (addAll b a (-1))) s * 1 = max (cnt a s) (cnt b s) := by
    intro s
    rw [hcd]
    split <;> omega
  rw [addAll_mk ha hd, pos_mk]
  simp only [e4]
  have e3 : ((a ++ restI b a).map fun x => (x.1, max (cnt a x.1) (cnt b x.1))) = mkL (keysL a ++ (keysL b).filter fun k => !hasI a k) (fun s => max (cnt a s) (cnt b s)) := by
    unfold mkL keysL restI
    rw [List.map_append, List.map_append, List.map_map, List.filter_map, List.map_map]
    rfl
  rw [e3, pos_mk]
  congr 1
  rw [List.filter_append, List.filter_append]
  congr 1
  rw [addAll_mk hb ha, pos_mk, keys_mk, List.filter_append, List.filter_append, List.filter_append]
  have e5 : (((((keysL a).filter fun k => !hasI b k)).filter fun k => decide (0 < cnt b k + cnt a k * -1)).filter fun k => !hasI a k) = [] := by
    rw [List.filter_eq_nil_iff]
    intro k hk
    have h1 := (List.mem_filter.1 (List.mem_filter.1 hk).1).1
    rw [mem_keys] at h1
    simp [h1]
  rw [e5, List.filter_nil, List.append_nil]
  simp only [List.filter_filter]
  refine List.filter_congr fun k _ => ?_
  cases h1 : hasI a k
  · rw [cnt_none h1]
    simp only [Bool.not_false, Bool.true_and, Bool.and_true]
    rw [Bool.eq_iff_iff]
    simp only [Bool.and_eq_true, decide_eq_true_eq]
    omega
  · simp

def withinI (a b : List Itm) : Bool := a.all (fun x => decide (x.2 ≤ cnt b x.1)) && b.all (fun x => decide (cnt a x.1 ≤ x.2))
theorem within_iff {a b : List Itm} (ha : uniqI a = true) (hb : uniqI b = true) : withinI a b = true ↔ ∀ s, cnt a s ≤ cnt b s := by
  simp only [withinI, Bool.and_eq_true, List.all_eq_true, decide_eq_true_eq]
  constructor
  · rintro ⟨h1, h2⟩ s
    cases hs : hasI a s
    · cases hs' : hasI b s
      · rw [cnt_none hs, cnt_none hs']
        exact Int.le_refl _
      · obtain ⟨x, hx, rfl⟩ := hasI_mem.1 hs'
        have := h2 x hx
        rw [cnt_at_mem hb hx]
        exact this
    · obtain ⟨x, hx, rfl⟩ := hasI_mem.1 hs
      have := h1 x hx
      rw [cnt_at_mem ha hx]
      exact this
  · intro h
    exact ⟨fun x hx => by have := h x.1; rw [cnt_at_mem ha hx] at this; exact this, fun x hx => by have := h x.1; rw [cnt_at_mem hb hx] at this; exact this⟩
theorem within_eq {a b : List Itm} (ha : uniqI a = true) (hb : uniqI b = true) : decide ((posI (addAll a b (-1))).length = 0) = withinI a b := by
  rw [Bool.eq_iff_iff, within_iff ha hb, decide_eq_true_eq, List.length_eq_zero_iff, addAll_mk ha hb, pos_mk]
  unfold mkL
  rw [List.map_eq_nil_iff, List.filter_eq_nil_iff]
  simp only [List.mem_append, List.mem_filter, mem_keys, decide_eq_true_eq, Bool.not_eq_true']
  constructor
  · intro h s
    cases hs : hasI a s
    · cases hs' : hasI b s
      · rw [cnt_none hs, cnt_none hs']
        exact Int.le_refl _
      · have := h s (.inr ⟨hs', hs⟩)
        omega
    · have := h s (.inl hs)
      omega
  · intro h s _
    have := h s
    omega
theorem same_eq {a b : List Itm} (ha : uniqI a = true) (hb : uniqI b = true) : decide ((nzI (addAll a b (-1))).length = 0) = (withinI a b && withinI b a) := by
  rw [Bool.eq_iff_iff, Bool.and_eq_true, within_iff ha hb, within_iff hb ha, decide_eq_true_eq, List.length_eq_zero_iff, addAll_mk ha hb, nz_mk]
  unfold mkL
  rw [List.map_eq_nil_iff, List.filter_eq_nil_iff]
  simp only [List.mem_append, List.mem_filter, mem_keys, decide_eq_true_eq, Bool.not_eq_true', ne_eq, Decidable.not_not]
  constructor
  · intro h
    have h' : ∀ s, cnt a s = cnt b s := by
      intro s
      cases hs : hasI a s
      · cases hs' : hasI b s
        · rw [cnt_none hs, cnt_none hs']
        · have := h s (.inr ⟨hs', hs⟩)
          omega
      · have := h s (.inl hs)
        omega
    exact ⟨fun s => by rw [h' s]; exact Int.le_refl _, fun s => by rw [h' s]; exact Int.le_refl _⟩
  · rintro ⟨h1, h2⟩ s _
    have h1 := h1 s
    have h2 := h2 s
    omega
end Go.Proofs.Ytlclhdolcokipaa
/-
  The same counts in another order; what is positive.
-/
namespace Go.Proofs.Ytlclhdolcokipaa

theorem uniq_nodup : ∀ {l : List Itm}, uniqI l = true ↔ (keysL l).Nodup
  | [] => by simp [uniqI, keysL]
  | x :: r => by
    have ih := uniq_nodup (l := r)
    have hk : keysL (x :: r) = x.1 :: keysL r := rfl
    rw [hk, List.nodup_cons, ← ih, mem_keys]
    simp only [uniqI, Bool.and_eq_true, Bool.not_eq_true', Bool.not_eq_true]
theorem mem_of_cnt {l : List Itm} (h : uniqI l = true) (x : Itm) : x ∈ l ↔ hasI l x.1 = true ∧ cnt l x.1 = x.2 := by
  constructor
  · intro hx
    exact ⟨hasI_mem.2 ⟨x, hx, rfl⟩, cnt_at_mem h hx⟩
  · rintro ⟨h1, h2⟩
    obtain ⟨y, hy, e⟩ := hasI_mem.1 h1
    have := cnt_at_mem h hy
    rw [e, h2] at this
    have e2 : y = x := Prod.ext e this.symm
    rw [← e2]
    exact hy
theorem has_of_pos {l : List Itm} {s : ByteArray} (h : cnt l s ≠ 0) : hasI l s = true := by
  cases hh : hasI l s
  · exact absurd (cnt_none hh) h
  · rfl
theorem nodup_items {l : List Itm} (h : uniqI l = true) : l.Nodup := List.Pairwise.of_map (fun x : Itm => x.1) (fun a b hne he => hne (by rw [he])) (uniq_nodup.1 h)
theorem perm_of_cnt {l m : List Itm} (ul : uniqI l = true) (um : uniqI m = true) (pl : ∀ x ∈ l, x.2 ≠ 0) (pm : ∀ x ∈ m, x.2 ≠ 0) (h : ∀ s, cnt l s = cnt m s) : l.Perm m := by
  refine (List.perm_ext_iff_of_nodup (nodup_items ul) (nodup_items um)).2 fun x => ?_
  rw [mem_of_cnt ul, mem_of_cnt um, h]
  constructor
  · rintro ⟨h1, h2⟩
    refine ⟨has_of_pos ?_, h2⟩
    rw [h2]
    exact pl x ((mem_of_cnt ul x).2 ⟨h1, by rw [h]; exact h2⟩)
  · rintro ⟨h1, h2⟩
    refine ⟨has_of_pos ?_, h2⟩
    rw [h, h2]
    exact pm x ((mem_of_cnt um x).2 ⟨h1, h2⟩)
theorem valid_perm {l m : List Itm} (h : l.Perm m) : validI l = validI m := by
  rw [Bool.eq_iff_iff, validI_iff, validI_iff, uniq_nodup, uniq_nodup, h.length_eq]
  have e : (keysL l).Nodup ↔ (keysL m).Nodup := (h.map _).nodup_iff
  rw [e]
  simp only [h.mem_iff]
theorem cnt_pos {l : List Itm} (h : uniqI l = true) (s : ByteArray) : cnt (posI l) s = max 0 (cnt l s) := by
  have hu : uniqI (posI l) = true := uniq_filter h
  cases hh : hasI (posI l) s
  · rw [cnt_none hh]
    cases hl : hasI l s
    · rw [cnt_none hl]; rfl
    · obtain ⟨x, hx, rfl⟩ := hasI_mem.1 hl
      rw [cnt_at_mem h hx]
      by_cases hp : 0 < x.2
      · have hm : x ∈ posI l := List.mem_filter.2 ⟨hx, decide_eq_true hp⟩
        have := hasI_mem.2 ⟨x, hm, rfl⟩
        rw [this] at hh
        cases hh
      · omega
  · obtain ⟨x, hx, rfl⟩ := hasI_mem.1 hh
    rw [cnt_at_mem hu hx]
    have hx' := List.mem_filter.1 hx
    rw [cnt_at_mem h hx'.1]
    have : 0 < x.2 := by simpa using hx'.2
    omega
theorem cnt_sum {a b : List Itm} (ha : validI a = true) (hb : uniqI b = true) (m : Int) (s : ByteArray) : cnt (sumL a b m) s = cnt a s + cnt b s * m := by
  rw [sumL_valid ha, cnt_addAll b m a hb]
theorem uniq_sum {a b : List Itm} (ha : validI a = true) (m : Int) : uniqI (sumL a b m) = true := by
  rw [sumL_valid ha]
  exact uniq_addAll b m a (valid_uniq ha)
theorem pos_pos {l : List Itm} : ∀ x ∈ posI l, 0 < x.2 := fun x hx => by simpa using (List.mem_filter.1 hx).2
theorem pos_ne {l : List Itm} : ∀ x ∈ posI l, x.2 ≠ 0 := fun x hx => by have := pos_pos x hx; omega
theorem pos_self {l : List Itm} (h : ∀ x ∈ l, 0 < x.2) : posI l = l := List.filter_eq_self.2 fun x hx => by simpa using h x hx
theorem same_of {a b : List Itm} (ha : validI a = true) (hb : validI b = true) (h : ∀ s, cnt a s = cnt b s) : decide ((nzI (sumL a b (-1))).length = 0) = true := by
  rw [sumL_valid ha, same_eq (valid_uniq ha) (valid_uniq hb), Bool.and_eq_true, within_iff (valid_uniq ha) (valid_uniq hb), within_iff (valid_uniq hb) (valid_uniq ha)]
  exact ⟨fun s => by rw [h s]; exact Int.le_refl _, fun s => by rw [h s]; exact Int.le_refl _⟩
theorem cnt_nonneg' {l : List Itm} (h : ∀ x ∈ l, 0 < x.2) (s : ByteArray) : 0 ≤ cnt l s := by
  induction l with
  | nil => simp [cnt]
  | cons x r ih =>
    unfold cnt
    split
    · have := h x (by simp); omega
    · exact ih (fun y hy => h y (by simp [hy]))

/-! ### AddCounts -/
theorem add_turn {a b : List Itm} (ha : validI a = true) (hb : validI b = true) : (posI (sumL a b 1)).Perm (posI (sumL b a 1)) := by
  refine perm_of_cnt (uniq_filter (uniq_sum ha 1)) (uniq_filter (uniq_sum hb 1)) pos_ne pos_ne fun s => ?_
  rw [cnt_pos (uniq_sum ha 1), cnt_pos (uniq_sum hb 1), cnt_sum ha (valid_uniq hb), cnt_sum hb (valid_uniq ha)]
  congr 1
  omega
theorem cnt_perm {l m : List Itm} (ul : uniqI l = true) (um : uniqI m = true) (h : l.Perm m) (s : ByteArray) : cnt l s = cnt m s := by
  cases hs : hasI l s
  · rw [cnt_none hs]
    cases hm : hasI m s
    · rw [cnt_none hm]
    · obtain ⟨x, hx, rfl⟩ := hasI_mem.1 hm
      have := hasI_mem.2 ⟨x, h.mem_iff.2 hx, rfl⟩
      rw [hs] at this
      cases this
  · obtain ⟨x, hx, rfl⟩ := hasI_mem.1 hs
    rw [cnt_at_mem ul hx, cnt_at_mem um (h.mem_iff.1 hx)]
end Go.Proofs.Ytlclhdolcokipaa
