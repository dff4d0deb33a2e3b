/-
  What a statement has made and still reads: rows of its own, no two of them one; carried from call to call.
-/
import Derived.Test.YtbiflkekhabpoaaMark
import Derived.Test.YtbiflkekhabpoaaImpl
namespace Go.Proofs.Ytbiflkekhabpoaa
open Go.RowKit

/-- A row: its value, its element's type and size, its length, its cells, and what is known of the cells. -/
structure Obj where
  v : Value
  E : Nat
  S : Nat
  n : Nat
  xs : List Value
  ok : Prop
def Obj.holds (o : Obj) (w : World) (B : Nat) : Prop := w.ownsRow B o.E o.S o.v o.n o.xs ∧ o.ok
def itemsO (v : Value) (xs : List Itm) : Obj := ⟨v, 54, 2, xs.length, cellsI xs, okI xs⟩
def Apart (o p : Obj) : Prop := ∀ g, o.v.ownBlock = some g → p.v.ownBlock ≠ some g
/-- W: the world in which the statement began. -/
structure Objs (W w : World) (L : List Obj) : Prop where
  below : Below W.heap.size W w
  own : ∀ (i : Nat) (o : Obj), L[i]? = some o → o.holds w W.heap.size
  apart : ∀ (i j : Nat) (o p : Obj), i ≠ j → L[i]? = some o → L[j]? = some p → Apart o p

theorem own_range {w : World} {B E S n : Nat} {v : Value} {xs : List Value} (h : w.ownsRow B E S v n xs) {g : Nat} (hg : v.ownBlock = some g) : B ≤ g ∧ g < w.heap.size := by
  rcases h.2 with ⟨rfl, _⟩ | ⟨g', cap, cur, rfl, hb, hh, r⟩
  · cases hg
  · injection hg with hg
    subst hg
    exact ⟨hb, (Array.getElem?_eq_some_iff.1 hh).1⟩

theorem ownsRow_base {w : World} {B B' E S n : Nat} {v : Value} {xs : List Value} (h : w.ownsRow B E S v n xs) (hB : B' ≤ B) : w.ownsRow B' E S v n xs := by
  refine ⟨h.1, ?_⟩
  rcases h.2 with h2 | ⟨g, cap, cur, e, hg, r⟩
  · exact .inl h2
  · exact .inr ⟨g, cap, cur, e, Nat.le_trans hB hg, r⟩

theorem Objs.nil (W : World) : Objs W W [] := ⟨Below.refl _ _, fun i o h => by simp at h, fun i j o p _ h => by simp at h⟩
theorem Objs.quiet {W w w' : World} {L : List Obj} (H : Objs W w L) (hb : Below w.heap.size w w') : Objs W w' L :=
  ⟨H.below.trans (hb.mono H.below.size), fun i o h => ⟨ownsRow_below (H.own i o h).1 hb (Nat.le_refl _), (H.own i o h).2⟩, H.apart⟩
theorem Objs.new {W w w' : World} {L : List Obj} {o : Obj} (H : Objs W w L) (ho : o.holds w' w.heap.size) (hb : Below w.heap.size w w') : Objs W w' (o :: L) := by
  have Q := H.quiet hb
  refine ⟨Q.below, ?_, ?_⟩
  · intro i p h
    cases i with
    | zero =>
      simp at h
      subst h
      exact ⟨ownsRow_base ho.1 H.below.size, ho.2⟩
    | succ i => exact Q.own i p (by simpa using h)
  · intro i j p q hij hp hq
    cases i with
    | zero =>
      simp at hp
      subst hp
      cases j with
      | zero => omega
      | succ j =>
        intro g hg hg'
        have h1 := (own_range ho.1 hg).1
        have h2 := (own_range (H.own j q (by simpa using hq)).1 hg').2
        omega
    | succ i =>
      cases j with
      | zero =>
        simp at hq
        subst hq
        intro g hg hg'
        have h1 := (own_range ho.1 hg').1
        have h2 := (own_range (H.own i p (by simpa using hp)).1 hg).2
        omega
      | succ j => exact Q.apart i j p q (by omega) (by simpa using hp) (by simpa using hq)

theorem Objs.newI {W w w' : World} {L : List Obj} {v : Value} {xs : List Itm} (H : Objs W w L) (ho : OwnI 54 w' w.heap.size v xs) (hb : Below w.heap.size w w') : Objs W w' (itemsO v xs :: L) := H.new (o := itemsO v xs) ho hb
theorem Objs.ownI {W w : World} {L : List Obj} (H : Objs W w L) (i : Nat) {v : Value} {xs : List Itm} (h : L[i]? = some (itemsO v xs)) : OwnI 54 w W.heap.size v xs := H.own i _ h
theorem Objs.items {W w : World} {L : List Obj} (H : Objs W w L) (i : Nat) {v : Value} {xs : List Itm} (h : L[i]? = some (itemsO v xs)) : Items w v xs := (H.ownI i h).items
theorem Objs.arg {W w : World} {L : List Obj} (H : Objs W w L) {v : Value} {xs : List Itm} (h : Items W v xs) : Items w v xs := h.mono H.below (Nat.le_refl _)

/-- A row written: the others stand. -/
theorem Objs.set {W w w' : World} {L : List Obj} (H : Objs W w L) (i : Nat) {o o' : Obj} (h : L[i]? = some o) (hv : o'.v = o.v) (ho : o'.holds w' W.heap.size) (hb : ButRow o.v w w') : Objs W w' (L.set i o') := by
  have hlt : i < L.length := (List.getElem?_eq_some_iff.1 h).1
  have hr := fun g (hg : o.v.ownBlock = some g) => own_range (H.own i o h).1 hg
  have old : ∀ j p, (L.set i o')[j]? = some p → (j = i ∧ p = o') ∨ (j ≠ i ∧ L[j]? = some p) := by
    intro j p hp
    rw [List.getElem?_set] at hp
    by_cases hj : i = j
    · subst hj
      simp [hlt] at hp
      exact .inl ⟨rfl, hp.symm⟩
    · rw [if_neg hj] at hp
      exact .inr ⟨fun e => hj e.symm, hp⟩
  refine ⟨H.below.trans (hb.toBelow (fun g hg => (hr g hg).1) H.below.size), ?_, ?_⟩
  · intro j p hp
    rcases old j p hp with ⟨rfl, rfl⟩ | ⟨hne, hp⟩
    · exact ho
    · exact ⟨hb.own (H.own j p hp).1 (fun g hg => H.apart j i p o hne hp h g hg), (H.own j p hp).2⟩
  · intro j k p q hjk hp hq g hg
    rcases old j p hp with ⟨e1, e2⟩ | ⟨hne, hp'⟩
    · rcases old k q hq with ⟨e3, e4⟩ | ⟨hne', hq'⟩
      · omega
      · rw [e2, hv] at hg
        exact H.apart i k o q (fun e => hne' e.symm) h hq' g hg
    · rcases old k q hq with ⟨e3, e4⟩ | ⟨hne', hq'⟩
      · rw [e4, hv]
        exact H.apart j i p o hne hp' h g hg
      · exact H.apart j k p q hjk hp' hq' g hg

def MarkedO (W : World) (L : List Obj) (i : Nat) (v : Value) (k n : Nat) (e : Ending) (w' : World) : Prop :=
  ∃ m : Nat, e = .returned (.int .i64 (m : Int)) ∧ ¬ ((m : Int) < 0) ∧ Hid (m = k + 2 * n) ∧ Objs W w' (L.set i (itemsO v (marksI k n)))
theorem mark_obj {W w : World} {L : List Obj} (H : Objs W w L) (i k : Nat) {v : Value} {xs : List Itm} (h : L[i]? = some (itemsO v xs)) (hk : 0 < k) (hk2 : k + 2 * xs.length ≤ 100000000) :
    Calls Try.prog 38 #[v, .int .i64 k] w (MarkedO W L i v k xs.length) := by
  refine (markItemS_any W.heap.size v xs k w (H.ownI i h) hk hk2).mono ?_
  rintro e w' ⟨rfl, ho, hb⟩
  exact ⟨_, rfl, by omega, rfl, H.set i h rfl ho hb⟩
theorem held_obj {W w : World} {L : List Obj} (H : Objs W w L) (i : Nat) {k n m : Nat} {v : Value} (h : L[i]? = some (itemsO v (marksI k n))) (hk : 0 < k) (hk2 : k + 2 * n ≤ 100000000) (hm : Hid (m = k + 2 * n)) :
    Calls Try.prog 39 #[v, .int .i64 k] w fun e w' => e = .returned (.int .i64 (m : Int)) ∧ Objs W w' L := by
  refine (heldItemS_any v n k w (H.items i h) hk hk2).mono ?_
  rintro e w' ⟨rfl, hb⟩
  rw [hm.out]
  exact ⟨rfl, H.quiet hb⟩
theorem eq_obj {W w : World} {L : List Obj} (H : Objs W w L) (i j : Nat) {v u : Value} {xs : List Itm} (h : L[i]? = some (itemsO v xs)) (h' : L[j]? = some (itemsO u xs)) :
    Calls Try.prog 29 #[v, u] w fun e w' => e = .returned (.bool true) ∧ Objs W w' L := by
  refine (eqItemS_any v u xs xs w (H.items i h) (H.items j h')).mono ?_
  rintro e w' ⟨rfl, hb⟩
  exact ⟨by rw [decide_eq_true rfl], H.quiet hb⟩
theorem to_obj {W w : World} {L : List Obj} (H : Objs W w L) {v : Value} {xs : List Itm} (h : Items W v xs) (hn : xs.length ≤ 1048576) :
    Calls Try.prog 27 #[v] w fun e w' => ∃ v', e = .returned v' ∧ Objs W w' (itemsO v' xs :: L) := by
  refine (toItemS_any v xs w (H.arg h) hn).mono ?_
  rintro e w' ⟨v', rfl, ho, hb⟩
  exact ⟨v', rfl, H.newI ho hb⟩
theorem sz_obj {W w : World} {L : List Obj} (H : Objs W w L) {v : Value} {xs : List Itm} {left : Int} (h : Items W v xs) (h0 : 0 ≤ left) (hu : left ≤ 1048576) :
    Calls Try.prog 25 #[v, .int .i64 left] w fun e w' => ∃ r : Int, e = .returned (.int .i64 r) ∧ r ≤ 1048576 ∧ (¬ r < 0 → xs.length ≤ 1048576 ∧ ∀ x ∈ xs, x.1.size ≤ 1048576) ∧ Objs W w' L := by
  refine (szItemS_any v xs left w (H.arg h) h0 hu).mono ?_
  rintro e w' ⟨r, rfl, h1, h2, h3, hb⟩
  refine ⟨r, rfl, by omega, fun hr => ?_, H.quiet hb⟩
  have h4 := h3 (by omega)
  exact ⟨by omega, fun x hx => by have := h4.2 x hx; omega⟩
end Go.Proofs.Ytbiflkekhabpoaa
