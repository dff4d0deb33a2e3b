/-
  What a statement has made and still reads: each thing in blocks of its own, carried from call to call.
-/
import Derived.Test.YtloalakpkjbeaaaObjs
namespace Go.Proofs.Ytloalakpkjbeaaa
open Go.RowKit

def In (lo hi k : Nat) : Prop := lo ≤ k ∧ k < hi
/-- A thing: the blocks that it may lie in, and what is known of it as long as these stay. -/
structure Thing where
  lo : Nat
  hi : Nat
  P : World → Prop
  keep : ∀ w w' : World, Keeps (In lo hi) w w' → P w → P w'
/-- W: the world in which the statement began. -/
structure Things (W w : World) (L : List Thing) : Prop where
  below : Below W.heap.size W w
  has : ∀ (i : Nat) (t : Thing), L[i]? = some t → W.heap.size ≤ t.lo ∧ t.hi ≤ w.heap.size ∧ t.P w
  apart : ∀ (i j : Nat) (t u : Thing), i ≠ j → L[i]? = some t → L[j]? = some u → t.hi ≤ u.lo ∨ u.hi ≤ t.lo

theorem Things.nil (W : World) : Things W W [] := ⟨Below.refl _ _, fun i t h => by simp at h, fun i j t u _ h => by simp at h⟩
theorem Things.quiet {W w w' : World} {L : List Thing} (H : Things W w L) (hb : Below w.heap.size w w') : Things W w' L :=
  ⟨H.below.trans (hb.mono H.below.size), fun i t h => by
    obtain ⟨h1, h2, h3⟩ := H.has i t h
    exact ⟨h1, Nat.le_trans h2 hb.size, t.keep w w' (Keeps.of_below hb (fun k hk => Nat.lt_of_lt_of_le hk.2 h2)) h3⟩, H.apart⟩
theorem Things.new {W w w' : World} {L : List Thing} (H : Things W w L) {t : Thing} (hlo : w.heap.size ≤ t.lo) (hhi : t.hi ≤ w'.heap.size) (hP : t.P w') (hb : Below w.heap.size w w') : Things W w' (t :: L) := by
  have Q := H.quiet hb
  refine ⟨Q.below, ?_, ?_⟩
  · intro i u h
    cases i with
    | zero =>
      simp at h
      subst h
      exact ⟨Nat.le_trans H.below.size hlo, hhi, hP⟩
    | succ i => exact Q.has i u (by simpa using h)
  · intro i j p q hij hp hq
    cases i with
    | zero =>
      simp at hp
      subst hp
      cases j with
      | zero => omega
      | succ j =>
        have := (H.has j q (by simpa using hq)).2.1
        exact .inr (Nat.le_trans this hlo)
    | succ i =>
      cases j with
      | zero =>
        simp at hq
        subst hq
        have := (H.has i p (by simpa using hp)).2.1
        exact .inl (Nat.le_trans this hlo)
      | succ j => exact Q.apart i j p q (by omega) (by simpa using hp) (by simpa using hq)
/-- What is written into one thing leaves the others. -/
theorem Things.set {W w w' : World} {L : List Thing} (H : Things W w L) (i : Nat) {t t' : Thing} (h : L[i]? = some t) (hlo : t'.lo = t.lo) (hhi : t'.hi = t.hi) (hP : t'.P w') (hb : Keeps (fun k => k < w.heap.size ∧ ¬ In t.lo t.hi k) w w') : Things W w' (L.set i t') := by
  have hlt : i < L.length := (List.getElem?_eq_some_iff.1 h).1
  have old : ∀ j p, (L.set i t')[j]? = some p → (j = i ∧ p = t') ∨ (j ≠ i ∧ L[j]? = some p) := by
    intro j p hp
    rw [List.getElem?_set] at hp
    by_cases hj : i = j
    · subst hj
      simp [hlt] at hp
      exact .inl ⟨rfl, hp.symm⟩
    · rw [if_neg hj] at hp
      exact .inr ⟨fun e => hj e.symm, hp⟩
  obtain ⟨g1, g2, g3⟩ := H.has i t h
  refine ⟨H.below.trans (hb.below (fun k hk => ⟨Nat.lt_of_lt_of_le hk H.below.size, fun hin => by have := hin.1; omega⟩)), ?_, ?_⟩
  · intro j p hp
    rcases old j p hp with ⟨rfl, rfl⟩ | ⟨hne, hp⟩
    · exact ⟨by rw [hlo]; exact g1, by rw [hhi]; exact Nat.le_trans g2 hb.size, hP⟩
    · obtain ⟨k1, k2, k3⟩ := H.has j p hp
      refine ⟨k1, Nat.le_trans k2 hb.size, p.keep w w' (hb.mono fun k hk => ⟨Nat.lt_of_lt_of_le hk.2 k2, fun hin => ?_⟩) k3⟩
      have := H.apart j i p t hne hp h
      have h1 := hk.1
      have h2 := hk.2
      have h3 := hin.1
      have h4 := hin.2
      omega
  · intro j k p q hjk hp hq
    rcases old j p hp with ⟨e1, e2⟩ | ⟨hne, hp'⟩
    · rcases old k q hq with ⟨e3, e4⟩ | ⟨hne', hq'⟩
      · omega
      · rw [e2, hlo, hhi]
        exact H.apart i k t q (fun e => hne' e.symm) h hq'
    · rcases old k q hq with ⟨e3, e4⟩ | ⟨hne', hq'⟩
      · rw [e4, hlo, hhi]
        exact H.apart j i p t hne hp' h
      · exact H.apart j k p q hjk hp' hq'
theorem Things.lt {W w : World} {L : List Thing} (H : Things W w L) : W.heap.size ≤ w.heap.size := H.below.size

/-! ### a struct in a variable -/
def boxT (b T : Nat) (cs : List Value) : Thing := ⟨b, b + 1, fun w => w.heap[b]? = some (.cells cs.toArray T (0, 0)), fun w w' hk h => by rw [hk.block b ⟨Nat.le_refl _, Nat.lt_succ_self _⟩]; exact h⟩
theorem Things.boxed {W w : World} {L : List Thing} (H : Things W w L) (T : Nat) (cs : List Value) : Things W (w.alloc (.cells cs.toArray T)) (boxT w.heap.size T cs :: L) :=
  H.new (Nat.le_refl _) (by simp [boxT]) (by show (w.alloc _).heap[w.heap.size]? = _; rw [heap_alloc_new]) ((Below.refl _ _).alloc (Nat.le_refl _) _)
theorem Things.boxcell {W w : World} {L : List Thing} (H : Things W w L) (i : Nat) {b T : Nat} {cs : List Value} (h : L[i]? = some (boxT b T cs)) (j : Nat) {u : Value} (hj : cs[j]? = some u) : w.cell? ⟨b, j, none⟩ = some u := by
  have h2 : w.heap[b]? = some (.cells cs.toArray T (0, 0)) := (H.has i _ h).2.2
  simp [World.cell?, h2, hj]
theorem Things.boxfree {W w : World} {L : List Thing} (H : Things W w L) (i : Nat) {b T : Nat} {cs : List Value} (h : L[i]? = some (boxT b T cs)) (j : Nat) : w.frozen? ⟨b, j, none⟩ = false := by
  have h2 : w.heap[b]? = some (.cells cs.toArray T (0, 0)) := (H.has i _ h).2.2
  simp [World.frozen?, h2]
theorem Things.box1 {W w : World} {L : List Thing} (H : Things W w L) (i : Nat) {b T : Nat} {u0 : Value} (h : L[i]? = some (boxT b T [u0])) : w.cell? ⟨b, 0, none⟩ = some u0 := H.boxcell i h 0 rfl
theorem Things.box2 {W w : World} {L : List Thing} (H : Things W w L) (i : Nat) {b T : Nat} {u0 u1 : Value} (h : L[i]? = some (boxT b T [u0, u1])) : w.cell? ⟨b, 0, none⟩ = some u0 ∧ w.cell? ⟨b, 1, none⟩ = some u1 :=
  ⟨H.boxcell i h 0 rfl, H.boxcell i h 1 rfl⟩
theorem Things.box4 {W w : World} {L : List Thing} (H : Things W w L) (i : Nat) {b T : Nat} {u0 u1 u2 u3 : Value} (h : L[i]? = some (boxT b T [u0, u1, u2, u3])) : w.cell? ⟨b, 0, none⟩ = some u0 ∧ w.cell? ⟨b, 1, none⟩ = some u1 ∧ w.cell? ⟨b, 2, none⟩ = some u2 ∧ w.cell? ⟨b, 3, none⟩ = some u3 :=
  ⟨H.boxcell i h 0 rfl, H.boxcell i h 1 rfl, H.boxcell i h 2 rfl, H.boxcell i h 3 rfl⟩

/-! ### lists of items -/
/-- A list of one's own whose row lies below hi, or none at all. -/
def RowZ (lo hi : Nat) (w : World) (v : Value) (xs : List Itm) : Prop := OwnZ 39 w lo v xs ∧ (xs ≠ [] → ∀ g, v.ownBlock = some g → g < hi)
theorem OwnZ.cases {E B : Nat} {w : World} {v : Value} {xs : List Itm} (h : OwnZ E w B v xs) : (xs ≠ [] ∧ OwnI E w B v xs) ∨ (xs = [] ∧ ∃ ao c, v = .slice ao 0 c ∧ c ≤ 9223372036854775807) := by
  rcases h with h | h
  · cases xs with
    | nil =>
      obtain ⟨ao, cap, e, _, hc⟩ := own_slice h.1
      exact .inr ⟨rfl, ao, cap, e, hc⟩
    | cons x r => exact .inl ⟨by simp, h⟩
  · exact .inr h
theorem RowZ.keeps {lo hi : Nat} {w w' : World} {v : Value} {xs : List Itm} (h : RowZ lo hi w v xs) (hk : Keeps (In lo hi) w w') : RowZ lo hi w' v xs := by
  refine ⟨?_, h.2⟩
  rcases h.1.cases with ⟨hne, ho⟩ | h0
  · exact .inl ⟨hk.own ho.1 (fun g hg => ⟨(own_range ho.1 hg).1, h.2 hne g hg⟩), ho.2⟩
  · exact .inr h0
theorem RowZ.items {lo hi : Nat} {w : World} {v : Value} {xs : List Itm} (h : RowZ lo hi w v xs) : Items w v xs := h.1.items
theorem RowZ.of {B : Nat} {w : World} {v : Value} {xs : List Itm} (h : OwnI 39 w B v xs) : RowZ B w.heap.size w v xs := ⟨h.z, fun _ _ hg => (own_range h.1 hg).2⟩
theorem RowZ.ofZ {B : Nat} {w : World} {v : Value} {xs : List Itm} (h : OwnZ 39 w B v xs) : RowZ B w.heap.size w v xs := ⟨h, fun hne _ hg => by
  rcases h.cases with ⟨_, ho⟩ | ⟨h0, _⟩
  · exact (own_range ho.1 hg).2
  · exact absurd h0 hne⟩
theorem OwnZ.base {E : Nat} {w : World} {B B' : Nat} {v : Value} {xs : List Itm} (h : OwnZ E w B v xs) (hB : B' ≤ B) : OwnZ E w B' v xs := by
  rcases h with h | h
  · exact .inl (h.base hB)
  · exact .inr h
theorem RowZ.wide {lo hi lo' hi' : Nat} {w : World} {v : Value} {xs : List Itm} (h : RowZ lo hi w v xs) (hlo : lo' ≤ lo) (hhi : hi ≤ hi') : RowZ lo' hi' w v xs := ⟨h.1.base hlo, fun hne g hg => Nat.lt_of_lt_of_le (h.2 hne g hg) hhi⟩
def ownT (lo hi : Nat) (v : Value) (xs : List Itm) : Thing := ⟨lo, hi, fun w => RowZ lo hi w v xs, fun _ _ hk h => h.keeps hk⟩
/-- What only reads as these items. -/
def readT (lo hi : Nat) (v : Value) (xs : List Itm) : Thing := ⟨lo, hi, fun w => Items w v xs ∧ InK (In lo hi) v, fun _ _ hk h => ⟨h.1.keeps hk h.2, h.2⟩⟩
theorem Things.items {W w : World} {L : List Thing} (H : Things W w L) (i : Nat) {lo hi : Nat} {v : Value} {xs : List Itm} (h : L[i]? = some (ownT lo hi v xs)) : Items w v xs :=
  RowZ.items (show RowZ lo hi w v xs from (H.has i _ h).2.2)
theorem Things.ritems {W w : World} {L : List Thing} (H : Things W w L) (i : Nat) {lo hi : Nat} {v : Value} {xs : List Itm} (h : L[i]? = some (readT lo hi v xs)) : Items w v xs :=
  (show Items w v xs ∧ InK (In lo hi) v from (H.has i _ h).2.2).1
theorem Things.newZ {W w w' : World} {L : List Thing} {v : Value} {xs : List Itm} (H : Things W w L) (ho : OwnZ 39 w' w.heap.size v xs) (hb : Below w.heap.size w w') : Things W w' (ownT w.heap.size w'.heap.size v xs :: L) :=
  H.new (Nat.le_refl _) (Nat.le_refl _) (RowZ.ofZ ho) hb
theorem Things.newI {W w w' : World} {L : List Thing} {v : Value} {xs : List Itm} (H : Things W w L) (ho : OwnI 39 w' w.heap.size v xs) (hb : Below w.heap.size w w') : Things W w' (ownT w.heap.size w'.heap.size v xs :: L) := H.newZ ho.z hb
theorem Things.newR {W w w' : World} {L : List Thing} {v : Value} {xs : List Itm} (H : Things W w L) (hi : Items w' v xs) (hk : InK (In w.heap.size w'.heap.size) v) (hb : Below w.heap.size w w') : Things W w' (readT w.heap.size w'.heap.size v xs :: L) :=
  H.new (Nat.le_refl _) (Nat.le_refl _) ⟨hi, hk⟩ hb
theorem Things.arg {W w : World} {L : List Thing} (H : Things W w L) {v : Value} {xs : List Itm} (h : Items W v xs) : Items w v xs := h.mono H.below (Nat.le_refl _)

theorem ButRow.keeps {v : Value} {w w' : World} {K : Nat → Prop} (h : ButRow v w w') (hK : ∀ k, K k → k < w.heap.size ∧ v.ownBlock ≠ some k) : Keeps K w w' := ⟨h.os, h.tape, h.output, h.size, fun k hk => h.block k (hK k hk).1 (hK k hk).2⟩
def MarkedT' (W : World) (L : List Thing) (i : Nat) (t : Nat → Thing) (k q : Nat) (e : Ending) (w' : World) : Prop :=
  ∃ m : Nat, e = .returned (.int .i64 (m : Int)) ∧ ¬ ((m : Int) < 0) ∧ Hid (m = k + q) ∧ Things W w' (L.set i (t k))
end Go.Proofs.Ytloalakpkjbeaaa
