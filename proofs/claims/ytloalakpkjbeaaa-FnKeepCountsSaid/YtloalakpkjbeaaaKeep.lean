/-
  What stays as it was; rows of the call's own; what is valid.
-/
import Derived.Test.YtloalakpkjbeaaaImplV
import Derived.Test.YtloalakpkjbeaaaSums
import Derived.Maps.AppendAt
namespace Go.Proofs.Ytloalakpkjbeaaa
open Go.RowKit

theorem zeroN (w : World) : (zeroValue 3).run Try.prog w = .ok (.int .i64 0) w := by kernel_rfl
theorem Try.infoS : (Try.prog.info? 9).map (fun i => (i.zero, i.size, i.bytes)) = some (some (.string ⟨#[]⟩), 1, 16) := by kernel_rfl
/-- Of the blocks in K nothing has turned. -/
structure Keeps (K : Nat → Prop) (w w' : World) : Prop where
  os : w'.os = w.os
  tape : w'.tape = w.tape
  output : w'.output = w.output
  size : w.heap.size ≤ w'.heap.size
  block : ∀ k, K k → w'.heap[k]? = w.heap[k]?
section
variable {K : Nat → Prop} {w w' w'' : World}
theorem Keeps.refl (K : Nat → Prop) (w : World) : Keeps K w w := ⟨rfl, rfl, rfl, Nat.le_refl _, fun _ _ => rfl⟩
theorem Keeps.trans (h : Keeps K w w') (h' : Keeps K w' w'') : Keeps K w w'' :=
  ⟨h'.os.trans h.os, h'.tape.trans h.tape, h'.output.trans h.output, Nat.le_trans h.size h'.size, fun k hk => (h'.block k hk).trans (h.block k hk)⟩
theorem Keeps.drew (h : Keeps K w w') : Keeps K w w'.drew := ⟨h.os, h.tape, h.output, h.size, h.block⟩
theorem Keeps.alloc (h : Keeps K w w') (hK : ∀ k, K k → k < w.heap.size) (o : Obj) : Keeps K w (w'.alloc o) :=
  h.trans ⟨rfl, rfl, rfl, by simp, fun k hk => Below.heap_alloc _ _ _ (Nat.lt_of_lt_of_le (hK k hk) h.size)⟩
theorem Keeps.setCell (h : Keeps K w w') {a : Addr} (ha : ¬ K a.block) (u : Value) : Keeps K w (w'.setCell a u) :=
  h.trans ⟨rfl, rfl, rfl, by simp, fun k hk => Below.heap_setCell _ _ _ _ (fun e => ha (e ▸ hk))⟩
theorem Keeps.grown {row : Option Nat} (h : Keeps K w w') (hg : w'.grownBy w'' row) (hK : ∀ k, K k → k < w.heap.size) (hr : ∀ k, row = some k → ¬ K k) : Keeps K w w'' :=
  h.trans ⟨hg.os, hg.tape, hg.output, hg.size, fun k hk => hg.block k (Nat.lt_of_lt_of_le (hK k hk) h.size) (fun e => hr k e.symm hk)⟩
theorem Keeps.of_below {B : Nat} (h : Below B w w') (hK : ∀ k, K k → k < B) : Keeps K w w' := ⟨h.os, h.tape, h.output, h.size, fun k hk => h.block k (hK k hk)⟩
theorem Keeps.below {B : Nat} (h : Keeps K w w') (hK : ∀ k, k < B → K k) : Below B w w' := ⟨h.os, h.tape, h.output, h.size, fun k hk => h.block k (hK k hk)⟩
theorem Keeps.mono {K' : Nat → Prop} (h : Keeps K w w') (hK : ∀ k, K' k → K k) : Keeps K' w w' := ⟨h.os, h.tape, h.output, h.size, fun k hk => h.block k (hK k hk)⟩
theorem Keeps.cell (h : Keeps K w w') {a : Addr} (ha : K a.block) : w'.cell? a = w.cell? a := World.cell?_of_block (h.block _ ha)
theorem Keeps.own {B E S n : Nat} {v : Value} {xs : List Value} (h : Keeps K w w') (ho : w.ownsRow B E S v n xs) (hv : ∀ g, v.ownBlock = some g → K g) : w'.ownsRow B E S v n xs := by
  refine ⟨ho.1, ?_⟩
  rcases ho.2 with h2 | ⟨g, cap, cur, rfl, hg, hh, r⟩
  · exact .inl h2
  · exact .inr ⟨g, cap, cur, rfl, hg, (h.block g (hv g rfl)).trans hh, r⟩
/-- A slice all of whose cells lie in K. -/
def InK (K : Nat → Prop) (v : Value) : Prop := ∀ a n c, v = .slice (some a) n c → 0 < n → K a.block
theorem Items.inK {v : Value} {xs : List Itm} (h : Items w v xs) : InK (· < w.heap.size) v := by
  obtain ⟨ao, cap, rfl, hl, hc, hok, hcell⟩ := h
  intro a n c e hn
  simp only [Value.slice.injEq] at e
  obtain ⟨rfl, rfl, rfl⟩ := e
  obtain ⟨b, o, ha, hs, _⟩ := hcell 0 hn
  simp only [Option.some.injEq] at ha
  subst ha
  exact hs
theorem InK.mono {K K' : Nat → Prop} {v : Value} (h : InK K v) (hK : ∀ k, K k → K' k) : InK K' v := fun a n c e hn => hK _ (h a n c e hn)
theorem InK.nil (K : Nat → Prop) : InK K (.slice none 0 0) := fun a n c e => by cases e
theorem Items.nil (w : World) : Items w (.slice none 0 0) [] := ⟨none, 0, rfl, Nat.le_refl _, by omega, fun x hx => by simp at hx, fun k hk => by simp at hk⟩
theorem Items.keeps {v : Value} {xs : List Itm} (h : Items w v xs) (hk : Keeps K w w') (hv : InK K v) : Items w' v xs := by
  obtain ⟨ao, cap, rfl, hl, hc, hok, hcell⟩ := h
  refine ⟨ao, cap, rfl, hl, hc, hok, fun k hlt => ?_⟩
  obtain ⟨b, o, rfl, hs, h1, h2⟩ := hcell k hlt
  have hb : K b := hv _ _ _ rfl (by omega)
  exact ⟨b, o, rfl, Nat.lt_of_lt_of_le hs hk.size, (hk.cell (a := ⟨b, _, none⟩) hb).trans h1, (hk.cell (a := ⟨b, _, none⟩) hb).trans h2⟩
end

theorem own_shape {w : World} {B E S n : Nat} {v : Value} {xs : List Value} (h : w.ownsRow B E S v n xs) (hn : 0 < n) :
    ∃ g cap, v = .slice (some ⟨g, 0, none⟩) n cap ∧ n ≤ cap ∧ B ≤ g := by
  rcases h.2 with ⟨_, h'⟩ | ⟨g, cap, cur, rfl, hb, hg, hnc, hcm, hcs, htake⟩
  · omega
  · exact ⟨g, cap, rfl, hnc, hb⟩
theorem own_slice {w : World} {B E S n : Nat} {v : Value} {xs : List Value} (h : w.ownsRow B E S v n xs) : ∃ ao cap, v = .slice ao n cap ∧ n ≤ cap ∧ cap ≤ 9223372036854775807 := by
  rcases h.2 with ⟨rfl, rfl⟩ | ⟨g, cap, cur, rfl, hb, hg, hnc, hcm, hcs, htake⟩
  · exact ⟨none, 0, rfl, Nat.le_refl _, by omega⟩
  · exact ⟨_, cap, rfl, hnc, by unfold maxLen at hcm; exact hcm⟩
/-- A row of keys is no tally's block. -/
theorem own_ne {w : World} {B E T S n t : Nat} {v : Value} {xs : List Value} {cs : Array Value} (h : w.ownsRow B E S v n xs) (ht : w.heap[t]? = some (.cells cs T (0, 0))) (hE : E ≠ T) : v.ownBlock ≠ some t := by
  rcases h.2 with ⟨rfl, _⟩ | ⟨g, cap, cur, rfl, hb, hg, r⟩
  · simp [Value.ownBlock]
  · simp only [Value.ownBlock, ne_eq, Option.some.injEq]
    rintro rfl
    rw [hg] at ht
    simp only [Option.some.injEq, Obj.cells.injEq] at ht
    exact hE ht.2.1
theorem grow_block {w w1 : World} {o : Obj} {t : Nat} {c : Obj} {row : Option Nat} (h : w.heap[t]? = some c) (hg : (w.alloc o).grownBy w1 row) (hne : row ≠ some t) : w1.heap[t]? = some c := by
  have hlt := lt_of_block h
  rw [hg.block t (by simp; omega) (Ne.symm hne), Below.heap_alloc _ _ _ hlt, h]
section
variable {w : World} {t : Nat} {v u : Value} {T : TypeId}
theorem two_cell0 (h : w.heap[t]? = some (.cells #[v, u] T (0, 0))) : w.cell? ⟨t, 0, none⟩ = some v := by simp [World.cell?, h]
theorem two_cell1 (h : w.heap[t]? = some (.cells #[v, u] T (0, 0))) : w.cell? ⟨t, 1, none⟩ = some u := by simp [World.cell?, h]
theorem two_free (h : w.heap[t]? = some (.cells #[v, u] T (0, 0))) (j : Nat) : w.frozen? ⟨t, j, none⟩ = false := by simp [World.frozen?, h]
theorem two_set0 (h : w.heap[t]? = some (.cells #[v, u] T (0, 0))) (v' : Value) : (w.setCell ⟨t, 0, none⟩ v').heap[t]? = some (.cells #[v', u] T (0, 0)) := by
  have hlt := lt_of_block h
  have h' : w.heap[t] = .cells #[v, u] T (0, 0) := by simpa [Array.getElem?_eq_getElem hlt] using h
  show (w.heap.modify t _)[t]? = _
  rw [Array.getElem?_eq_getElem (by simpa using hlt), Array.getElem_modify_self, h']
  rfl
end

theorem cells_two_new (w : World) (a b : Value) (E : TypeId) : ∀ (j : Nat) (u : Value), [a, b][j]? = some u → (w.alloc (.cells #[a, b] E)).cell? ((⟨w.heap.size, 0, none⟩ : Addr).add j) = some u := by
  intro j u hu
  match j, hu with
  | 0, hu => simp at hu; subst hu; simp [Addr.add]
  | 1, hu => simp at hu; subst hu; simp [Addr.add]
  | j + 2, hu => simp at hu
theorem own_cell {w : World} {B E n m cap k : Nat} {ao : Option Addr} {xs : List Value} {u : Value} (h : w.ownsRow B E 1 (.slice ao m cap) n xs) (hk : k < n) (hu : xs[k]? = some u) : ∃ g, ao = some ⟨g, 0, none⟩ ∧ g < w.heap.size ∧ w.cell? ⟨g, k, none⟩ = some u := by
  rcases h.2 with ⟨h', h0⟩ | ⟨g, cap', cur, h', hb, hg, hnc, hcm, hcs, htake⟩
  · omega
  · simp only [Value.slice.injEq] at h'
    obtain ⟨rfl, rfl, rfl⟩ := h'
    refine ⟨g, rfl, (Array.getElem?_eq_some_iff.1 hg).1, ?_⟩
    rw [cell_of_row w g k cur E (0, 0) hg]
    rw [← htake, List.getElem?_take, if_pos (by omega)] at hu
    simpa using hu
theorem okI_filter {l : List Itm} (h : okI l) (q : Itm → Bool) : okI (l.filter q) := fun x hx => h x (List.mem_filter.1 hx).1
theorem Items.ok {w : World} {v : Value} {xs : List Itm} (h : Items w v xs) : okI xs := by obtain ⟨_, _, _, _, _, h, _⟩ := h; exact h
theorem OwnI.base {E : Nat} {w : World} {B B' : Nat} {v : Value} {xs : List Itm} (h : OwnI E w B v xs) (hB : B' ≤ B) : OwnI E w B' v xs := by
  refine ⟨⟨h.1.1, ?_⟩, h.2⟩
  rcases h.1.2 with h2 | ⟨g, cap, cur, e, hg, r⟩
  · exact .inl h2
  · exact .inr ⟨g, cap, cur, e, Nat.le_trans hB hg, r⟩

/-- Items, or none where they are not valid. -/
def chkI (l : List Itm) : List Itm := if validI l = true then l else []
/-- A new list. -/
def NewI (l : List Itm) (w : World) (e : Ending) (w' : World) : Prop :=
  ∃ v, e = .returned v ∧ OwnI 39 w' w.heap.size v l ∧ Below w.heap.size w w'
/-- A new list and whether it is one. -/
def NewI2 (l : List Itm) (ok : Bool) (w : World) (e : Ending) (w' : World) : Prop :=
  ∃ v, e = .returned (.tuple #[v, .bool ok]) ∧ OwnI 39 w' w.heap.size v l ∧ Below w.heap.size w w'
theorem OwnI_nil (E : Nat) (w : World) (B : Nat) : OwnI E w B (.slice none 0 0) [] := ⟨World.ownsRow_nil _ _ _ _, fun x hx => by simp at hx⟩
theorem valid_num {l : List Itm} (h : validI l = true) : ∀ x ∈ l, -9999 ≤ x.2 ∧ x.2 ≤ 9999 := fun x hx => numB_iff.1 (((validI_iff l).1 h).1 x hx).2
theorem valid_len {l : List Itm} (h : validI l = true) : l.length ≤ 8 := ((validI_iff l).1 h).2.2
theorem valid_uniq {l : List Itm} (h : validI l = true) : uniqI l = true := ((validI_iff l).1 h).2.1
theorem Vi_v {v : Value} {xs : List Itm} {b : Bool} (w : World) (h : Items w v xs) (hb : validI xs = b) : Calls Try.prog 16 #[v] w fun e w' => e = .returned (.bool b) ∧ Below w.heap.size w w' :=
  (ValidItems_any v xs w h).mono fun _ _ ⟨he, hw⟩ => ⟨hb ▸ he, hw⟩
theorem bothValid_v {va vb : Value} {a b : List Itm} {r : Bool} (w : World) (ha : Items w va a) (hb : Items w vb b) (hr : (validI a && validI b) = r) :
    Calls Try.prog 67 #[va, vb] w fun e w' => e = .returned (.bool r) ∧ Below w.heap.size w w' := by
  go_enter Try.func67, Try.ntmps67
  cases hva : validI a
  · have H := Lib.hid hva
    clear hva
    rw [H.out, Bool.false_and] at hr
    subst hr
    go_wp2_with (go_at_call 16; refine (Vi_v _ ha H.out).mono ?_; rintro e w1 ⟨rfl, hb1⟩)
    go_ret
    exact ⟨rfl, hb1⟩
  · have H := Lib.hid hva
    clear hva
    rw [H.out, Bool.true_and] at hr
    have HR := Lib.hid hr
    clear hr
    go_wp2_with fail
    refine (Vi_v _ ha H.out).mono ?_
    rintro e w1 ⟨rfl, hb1⟩
    go_wp2_with fail
    refine (Vi_v _ (hb.mono hb1 (Nat.le_refl _)) HR.out).mono ?_
    rintro e w2 ⟨rfl, hb2⟩
    go_wp2
    go_ret
    exact ⟨rfl, hb1.trans (hb2.mono hb1.size)⟩
theorem checked_any {B : Nat} {v : Value} {l : List Itm} (w : World) (h : OwnI 39 w B v l) :
    Calls Try.prog 68 #[v] w fun e w' => ∃ v', e = .returned (.tuple #[v', .bool (validI l)]) ∧ OwnI 39 w' B v' (chkI l) ∧ Below w.heap.size w w' := by
  go_enter Try.func68, Try.ntmps68
  cases hv : validI l
  all_goals
    have H := Lib.hid hv
    clear hv
    go_wp2_with fail
    refine (Vi_v _ h.items H.out).mono ?_
    rintro e w1 ⟨rfl, hb1⟩
    go_wp2
    go_ret2
  · exact ⟨_, rfl, by unfold chkI; rw [H.out]; exact OwnI_nil _ _ _, hb1⟩
  · exact ⟨_, rfl, by unfold chkI; rw [H.out]; exact h.below hb1 (Nat.le_refl _), hb1⟩
/-- Both valid: what follows is asked of small lists. -/
theorem both_yes {a b : List Itm} (h : (validI a && validI b) = true) : validI a = true ∧ validI b = true := by simpa using h
theorem chk_le (l : List Itm) : (chkI l).length ≤ 10000000 := by
  unfold chkI
  cases h : validI l
  · simp
  · have := valid_len h
    simp
    omega
theorem if_chk_le (b : Bool) (l : List Itm) : (if b = true then chkI l else []).length ≤ 10000000 := by
  cases b
  · simp
  · simp only [if_true]; exact chk_le l
theorem two_set1 {w : World} {t : Nat} {v u : Value} {T : TypeId} (h : w.heap[t]? = some (.cells #[v, u] T (0, 0))) (u' : Value) : (w.setCell ⟨t, 1, none⟩ u').heap[t]? = some (.cells #[v, u'] T (0, 0)) := by
  have hlt := lt_of_block h
  have h' : w.heap[t] = .cells #[v, u] T (0, 0) := by simpa [Array.getElem?_eq_getElem hlt] using h
  show (w.heap.modify t _)[t]? = _
  rw [Array.getElem?_eq_getElem (by simpa using hlt), Array.getElem_modify_self, h']
  rfl
theorem size_alloc_le {n : Nat} {w : World} (h : n ≤ w.heap.size) (o : Go.Obj) : n ≤ (w.alloc o).heap.size := by simp; omega
end Go.Proofs.Ytloalakpkjbeaaa
