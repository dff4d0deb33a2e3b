/-
  What a statement has made and still reads: rows of its own, no two of them one; carried from call to call.
-/
import Derived.Test.YtloalakpkjbeaaaMark
import Derived.Test.YtloalakpkjbeaaaKeep
import Derived.LoopN
namespace Go.Proofs.Ytloalakpkjbeaaa
open Go.RowKit

/-- A row: its value, its element's type and size, its length, its cells, and what is known of the cells. -/
structure Obj where
  v : Value
  E : Nat
  S : Nat
  n : Nat
  xs : List Value
  ok : Prop
/-- A row of none is any slice of none: nothing of it can be read or written. -/
def Obj.holds (o : Obj) (w : World) (B : Nat) : Prop :=
  ((0 < o.n → w.ownsRow B o.E o.S o.v o.n o.xs) ∧ (o.n = 0 → o.xs = [] ∧ ∃ ao c, o.v = .slice ao 0 c ∧ c ≤ 9223372036854775807)) ∧ o.ok
def itemsO (v : Value) (xs : List Itm) : Obj := ⟨v, 39, 2, xs.length, cellsI xs, okI xs⟩
def Apart (o p : Obj) : Prop := 0 < o.n → 0 < p.n → ∀ g, o.v.ownBlock = some g → p.v.ownBlock ≠ some g
/-- W: the world in which the statement began. -/
structure Objs (W w : World) (L : List Obj) : Prop where
  below : Below W.heap.size W w
  own : ∀ (i : Nat) (o : Obj), L[i]? = some o → o.holds w W.heap.size
  apart : ∀ (i j : Nat) (o p : Obj), i ≠ j → L[i]? = some o → L[j]? = some p → Apart o p

theorem own_range {w : World} {B E S n : Nat} {v : Value} {xs : List Value} (h : w.ownsRow B E S v n xs) {g : Nat} (hg : v.ownBlock = some g) : B ≤ g ∧ g < w.heap.size := by
  rcases h.2 with ⟨rfl, _⟩ | ⟨g', cap, cur, rfl, hb, hh, r⟩
  · cases hg
  · injection hg with hg
    subst hg
    exact ⟨hb, (Array.getElem?_eq_some_iff.1 hh).1⟩

theorem ownsRow_base {w : World} {B B' E S n : Nat} {v : Value} {xs : List Value} (h : w.ownsRow B E S v n xs) (hB : B' ≤ B) : w.ownsRow B' E S v n xs := by
  refine ⟨h.1, ?_⟩
  rcases h.2 with h2 | ⟨g, cap, cur, e, hg, r⟩
  · exact .inl h2
  · exact .inr ⟨g, cap, cur, e, Nat.le_trans hB hg, r⟩

theorem Obj.holds_of {o : Obj} {w : World} {B : Nat} (h : w.ownsRow B o.E o.S o.v o.n o.xs) (hx : o.n = 0 → o.xs = []) (hok : o.ok) : o.holds w B := by
  refine ⟨⟨fun _ => h, fun h0 => ⟨hx h0, ?_⟩⟩, hok⟩
  obtain ⟨ao, cap, e, _, hc⟩ := own_slice h
  exact ⟨ao, cap, by rw [e, h0], hc⟩
theorem Obj.holds_below {o : Obj} {w w' : World} {B : Nat} (h : o.holds w B) (hb : Below w.heap.size w w') : o.holds w' B := ⟨⟨fun h0 => ownsRow_below (h.1.1 h0) hb (Nat.le_refl _), h.1.2⟩, h.2⟩
theorem Obj.holds_base {o : Obj} {w : World} {B B' : Nat} (h : o.holds w B) (hB : B' ≤ B) : o.holds w B' := ⟨⟨fun h0 => ownsRow_base (h.1.1 h0) hB, h.1.2⟩, h.2⟩
theorem Objs.nil (W : World) : Objs W W [] := ⟨Below.refl _ _, fun i o h => by simp at h, fun i j o p _ h => by simp at h⟩
theorem Objs.quiet {W w w' : World} {L : List Obj} (H : Objs W w L) (hb : Below w.heap.size w w') : Objs W w' L :=
  ⟨H.below.trans (hb.mono H.below.size), fun i o h => Obj.holds_below (H.own i o h) hb, H.apart⟩
theorem Objs.new {W w w' : World} {L : List Obj} {o : Obj} (H : Objs W w L) (ho : o.holds w' w.heap.size) (hb : Below w.heap.size w w') : Objs W w' (o :: L) := by
  have Q := H.quiet hb
  refine ⟨Q.below, ?_, ?_⟩
  · intro i p h
    cases i with
    | zero =>
      simp at h
      subst h
      exact Obj.holds_base ho H.below.size
    | succ i => exact Q.own i p (by simpa using h)
  · intro i j p q hij hp hq
    cases i with
    | zero =>
      simp at hp
      subst hp
      cases j with
      | zero => omega
      | succ j =>
        intro n1 n2 g hg hg'
        have h1 := (own_range (ho.1.1 n1) hg).1
        have h2 := (own_range ((H.own j q (by simpa using hq)).1.1 n2) hg').2
        omega
    | succ i =>
      cases j with
      | zero =>
        simp at hq
        subst hq
        intro n1 n2 g hg hg'
        have h1 := (own_range (ho.1.1 n2) hg').1
        have h2 := (own_range ((H.own i p (by simpa using hp)).1.1 n1) hg).2
        omega
      | succ j => exact Q.apart i j p q (by omega) (by simpa using hp) (by simpa using hq)

/-- A list of one's own, or none at all. -/
def OwnZ (E : Nat) (w : World) (B : Nat) (v : Value) (xs : List Itm) : Prop := OwnI E w B v xs ∨ xs = [] ∧ ∃ ao c, v = .slice ao 0 c ∧ c ≤ 9223372036854775807
theorem OwnI.z {E : Nat} {w : World} {B : Nat} {v : Value} {xs : List Itm} (h : OwnI E w B v xs) : OwnZ E w B v xs := .inl h
theorem Items_none {w : World} {ao : Option Addr} {c : Nat} (hc : c ≤ 9223372036854775807) : Items w (.slice ao 0 c) [] := ⟨ao, c, rfl, Nat.zero_le _, hc, fun x hx => by simp at hx, fun k hk => by simp at hk⟩
theorem OwnZ.items {E : Nat} {w : World} {B : Nat} {v : Value} {xs : List Itm} (h : OwnZ E w B v xs) : Items w v xs := by
  rcases h with h | ⟨rfl, ao, c, rfl, hc⟩
  · exact h.items
  · exact Items_none hc
theorem holdsI {w : World} {B : Nat} {v : Value} {xs : List Itm} (h : OwnZ 39 w B v xs) : (itemsO v xs).holds w B := by
  rcases h with h | ⟨rfl, ao, c, rfl, hc⟩
  · exact Obj.holds_of h.1 (fun h0 => by
      have : xs = [] := List.eq_nil_of_length_eq_zero h0
      subst this
      rfl) h.2
  · exact ⟨⟨fun h0 => absurd h0 (by simp [itemsO]), fun _ => ⟨rfl, ao, c, rfl, hc⟩⟩, fun x hx => by simp at hx⟩
theorem holdsI_iff {w : World} {B : Nat} {v : Value} {xs : List Itm} (h : (itemsO v xs).holds w B) : OwnZ 39 w B v xs := by
  cases xs with
  | nil => exact .inr ⟨rfl, (h.1.2 rfl).2⟩
  | cons x r => exact .inl ⟨h.1.1 (by simp [itemsO]), h.2⟩
theorem Objs.newZ {W w w' : World} {L : List Obj} {v : Value} {xs : List Itm} (H : Objs W w L) (ho : OwnZ 39 w' w.heap.size v xs) (hb : Below w.heap.size w w') : Objs W w' (itemsO v xs :: L) := H.new (holdsI ho) hb
theorem Objs.newI {W w w' : World} {L : List Obj} {v : Value} {xs : List Itm} (H : Objs W w L) (ho : OwnI 39 w' w.heap.size v xs) (hb : Below w.heap.size w w') : Objs W w' (itemsO v xs :: L) := H.newZ ho.z hb
theorem Objs.ownZ {W w : World} {L : List Obj} (H : Objs W w L) (i : Nat) {v : Value} {xs : List Itm} (h : L[i]? = some (itemsO v xs)) : OwnZ 39 w W.heap.size v xs := holdsI_iff (H.own i _ h)
theorem Objs.items {W w : World} {L : List Obj} (H : Objs W w L) (i : Nat) {v : Value} {xs : List Itm} (h : L[i]? = some (itemsO v xs)) : Items w v xs := (H.ownZ i h).items
theorem Objs.arg {W w : World} {L : List Obj} (H : Objs W w L) {v : Value} {xs : List Itm} (h : Items W v xs) : Items w v xs := h.mono H.below (Nat.le_refl _)

/-- A row written: the others stand. -/
theorem Objs.set {W w w' : World} {L : List Obj} (H : Objs W w L) (i : Nat) {o o' : Obj} (h : L[i]? = some o) (hn : 0 < o.n) (hn' : o'.n = o.n) (hv : o'.v = o.v) (ho : o'.holds w' W.heap.size) (hb : ButRow o.v w w') : Objs W w' (L.set i o') := by
  have hlt : i < L.length := (List.getElem?_eq_some_iff.1 h).1
  have hr := fun g (hg : o.v.ownBlock = some g) => own_range ((H.own i o h).1.1 hn) hg
  have old : ∀ j p, (L.set i o')[j]? = some p → (j = i ∧ p = o') ∨ (j ≠ i ∧ L[j]? = some p) := by
    intro j p hp
    rw [List.getElem?_set] at hp
    by_cases hj : i = j
    · subst hj
      simp [hlt] at hp
      exact .inl ⟨rfl, hp.symm⟩
    · rw [if_neg hj] at hp
      exact .inr ⟨fun e => hj e.symm, hp⟩
  refine ⟨H.below.trans (hb.toBelow (fun g hg => (hr g hg).1) H.below.size), ?_, ?_⟩
  · intro j p hp
    rcases old j p hp with ⟨rfl, rfl⟩ | ⟨hne, hp⟩
    · exact ho
    · exact ⟨⟨fun h0 => hb.own ((H.own j p hp).1.1 h0) (fun g hg => H.apart j i p o hne hp h h0 hn g hg), (H.own j p hp).1.2⟩, (H.own j p hp).2⟩
  · intro j k p q hjk hp hq n1 n2 g hg
    rcases old j p hp with ⟨e1, e2⟩ | ⟨hne, hp'⟩
    · rcases old k q hq with ⟨e3, e4⟩ | ⟨hne', hq'⟩
      · omega
      · rw [e2, hv] at hg
        exact H.apart i k o q (fun e => hne' e.symm) h hq' hn n2 g hg
    · rcases old k q hq with ⟨e3, e4⟩ | ⟨hne', hq'⟩
      · rw [e4, hv]
        exact H.apart j i p o hne hp' h n1 hn g hg
      · exact H.apart j k p q hjk hp' hq' n1 n2 g hg

theorem set_self {α : Type} {L : List α} {i : Nat} {x : α} (h : L[i]? = some x) : L.set i x = L := by
  obtain ⟨hlt, e⟩ := List.getElem?_eq_some_iff.1 h
  rw [← e]
  simp
def MarkedO (W : World) (L : List Obj) (i : Nat) (v : Value) (k n : Nat) (e : Ending) (w' : World) : Prop :=
  ∃ m : Nat, e = .returned (.int .i64 (m : Int)) ∧ ¬ ((m : Int) < 0) ∧ Hid (m = k + 2 * n) ∧ Objs W w' (L.set i (itemsO v (marksI k n)))
end Go.Proofs.Ytloalakpkjbeaaa
