/-
  Objs, Str, Thing.
-/
import Derived.LoopN
import Derived.Test.YtoglgeinnocfjaaP5
import Derived.Test.YtoglgeinnocfjaaP6
/-
  What a statement has made and still reads: rows of its own, no two of them one; carried from call to call.
-/
namespace Go.Proofs.Ytoglgeinnocfjaa
open Go.RowKit

/-- A row: its value, its element's type and size, its length, its cells, and what is known of the cells. -/
structure Obj where
  v : Value
  E : Nat
  S : Nat
  n : Nat
  xs : List Value
  ok : Prop
/-- A row of none is any slice of none: nothing of it can be read or written. -/
def Obj.holds (o : Obj) (w : World) (B : Nat) : Prop :=
  ((0 < o.n → w.ownsRow B o.E o.S o.v o.n o.xs) ∧ (o.n = 0 → o.xs = [] ∧ ∃ ao c, o.v = .slice ao 0 c ∧ c ≤ 9223372036854775807)) ∧ o.ok
def itemsO (v : Value) (xs : List Itm) : Obj := ⟨v, 74, 2, xs.length, cellsI xs, okI xs⟩
def Apart (o p : Obj) : Prop := 0 < o.n → 0 < p.n → ∀ g, o.v.ownBlock = some g → p.v.ownBlock ≠ some g
/-- W: the world in which the statement began. -/
structure Objs (W w : World) (L : List Obj) : Prop where
  below : Below W.heap.size W w
  own : ∀ (i : Nat) (o : Obj), L[i]? = some o → o.holds w W.heap.size
  apart : ∀ (i j : Nat) (o p : Obj), i ≠ j → L[i]? = some o → L[j]? = some p → Apart o p

theorem own_range {w : World} {B E S n : Nat} {v : Value} {xs : List Value} (h : w.ownsRow B E S v n xs) {g : Nat} (hg : v.ownBlock = some g) : B ≤ g ∧ g < w.heap.size := by
  rcases h.2 with ⟨rfl, _⟩ | ⟨g', cap, cur, rfl, hb, hh, r⟩
  · cases hg
  · injection hg with hg
    subst hg
    exact ⟨hb, (Array.getElem?_eq_some_iff.1 hh).1⟩

theorem ownsRow_base {w : World} {B B' E S n : Nat} {v : Value} {xs : List Value} (h : w.ownsRow B E S v n xs) (hB : B' ≤ B) : w.ownsRow B' E S v n xs := by
  refine ⟨h.1, ?_⟩
  rcases h.2 with h2 | ⟨g, cap, cur, e, hg, r⟩
  · exact .inl h2
  · exact .inr ⟨g, cap, cur, e, Nat.le_trans hB hg, r⟩

theorem Obj.holds_of {o : Obj} {w : World} {B : Nat} (h : w.ownsRow B o.E o.S o.v o.n o.xs) (hx : o.n = 0 → o.xs = []) (hok : o.ok) : o.holds w B := by
  refine ⟨⟨fun _ => h, fun h0 => ⟨hx h0, ?_⟩⟩, hok⟩
  obtain ⟨ao, cap, e, _, hc⟩ := own_slice h
  exact ⟨ao, cap, by rw [e, h0], hc⟩
theorem Obj.holds_below {o : Obj} {w w' : World} {B : Nat} (h : o.holds w B) (hb : Below w.heap.size w w') : o.holds w' B := ⟨⟨fun h0 => ownsRow_below (h.1.1 h0) hb (Nat.le_refl _), h.1.2⟩, h.2⟩
theorem Obj.holds_base {o : Obj} {w : World} {B B' : Nat} (h : o.holds w B) (hB : B' ≤ B) : o.holds w B' := ⟨⟨fun h0 => ownsRow_base (h.1.1 h0) hB, h.1.2⟩, h.2⟩
theorem Objs.nil (W : World) : Objs W W [] := ⟨Below.refl _ _, fun i o h => by simp at h, fun i j o p _ h => by simp at h⟩
theorem Objs.quiet {W w w' : World} {L : List Obj} (H : Objs W w L) (hb : Below w.heap.size w w') : Objs W w' L :=
  ⟨H.below.trans (hb.mono H.below.size), fun i o h => Obj.holds_below (H.own i o h) hb, H.apart⟩
theorem Objs.new {W w w' : World} {L : List Obj} {o : Obj} (H : Objs W w L) (ho : o.holds w' w.heap.size) (hb : Below w.heap.size w w') : Objs W w' (o :: L) := by
  have Q := H.quiet hb
  refine ⟨Q.below, ?_, ?_⟩
  · intro i p h
    cases i with
    | zero =>
      simp at h
      subst h
      exact Obj.holds_base ho H.below.size
    | succ i => exact Q.own i p (by simpa using h)
  · intro i j p q hij hp hq
    cases i with
    | zero =>
      simp at hp
      subst hp
      cases j with
      | zero => omega
      | succ j =>
        intro n1 n2 g hg hg'
        have h1 := (own_range (ho.1.1 n1) hg).1
        have h2 := (own_range ((H.own j q (by simpa using hq)).1.1 n2) hg').2
        omega
    | succ i =>
      cases j with
      | zero =>
        simp at hq
        subst hq
        intro n1 n2 g hg hg'
        have h1 := (own_range (ho.1.1 n2) hg').1
        have h2 := (own_range ((H.own i p (by simpa using hp)).1.1 n1) hg).2
        omega
      | succ j => exact Q.apart i j p q (by omega) (by simpa using hp) (by simpa using hq)

/-- A list of one's own, or none at all. -/
def OwnZ (E : Nat) (w : World) (B : Nat) (v : Value) (xs : List Itm) : Prop := OwnI E w B v xs ∨ xs = [] ∧ ∃ ao c, v = .slice ao 0 c ∧ c ≤ 9223372036854775807
theorem OwnI.z {E : Nat} {w : World} {B : Nat} {v : Value} {xs : List Itm} (h : OwnI E w B v xs) : OwnZ E w B v xs := .inl h
theorem Items_none {w : World} {ao : Option Addr} {c : Nat} (hc : c ≤ 9223372036854775807) : Items w (.slice ao 0 c) [] := ⟨ao, c, rfl, Nat.zero_le _, hc, fun x hx => by simp at hx, fun k hk => by simp at hk⟩
theorem OwnZ.items {E : Nat} {w : World} {B : Nat} {v : Value} {xs : List Itm} (h : OwnZ E w B v xs) : Items w v xs := by
  rcases h with h | ⟨rfl, ao, c, rfl, hc⟩
  · exact h.items
  · exact Items_none hc
theorem holdsI {w : World} {B : Nat} {v : Value} {xs : List Itm} (h : OwnZ 74 w B v xs) : (itemsO v xs).holds w B := by
  rcases h with h | ⟨rfl, ao, c, rfl, hc⟩
  · exact Obj.holds_of h.1 (fun h0 => by
      have : xs = [] := List.eq_nil_of_length_eq_zero h0
      subst this
      rfl) h.2
  · exact ⟨⟨fun h0 => absurd h0 (by simp [itemsO]), fun _ => ⟨rfl, ao, c, rfl, hc⟩⟩, fun x hx => by simp at hx⟩
theorem holdsI_iff {w : World} {B : Nat} {v : Value} {xs : List Itm} (h : (itemsO v xs).holds w B) : OwnZ 74 w B v xs := by
  cases xs with
  | nil => exact .inr ⟨rfl, (h.1.2 rfl).2⟩
  | cons x r => exact .inl ⟨h.1.1 (by simp [itemsO]), h.2⟩
theorem Objs.newZ {W w w' : World} {L : List Obj} {v : Value} {xs : List Itm} (H : Objs W w L) (ho : OwnZ 74 w' w.heap.size v xs) (hb : Below w.heap.size w w') : Objs W w' (itemsO v xs :: L) := H.new (holdsI ho) hb
theorem Objs.newI {W w w' : World} {L : List Obj} {v : Value} {xs : List Itm} (H : Objs W w L) (ho : OwnI 74 w' w.heap.size v xs) (hb : Below w.heap.size w w') : Objs W w' (itemsO v xs :: L) := H.newZ ho.z hb
theorem Objs.ownZ {W w : World} {L : List Obj} (H : Objs W w L) (i : Nat) {v : Value} {xs : List Itm} (h : L[i]? = some (itemsO v xs)) : OwnZ 74 w W.heap.size v xs := holdsI_iff (H.own i _ h)
theorem Objs.items {W w : World} {L : List Obj} (H : Objs W w L) (i : Nat) {v : Value} {xs : List Itm} (h : L[i]? = some (itemsO v xs)) : Items w v xs := (H.ownZ i h).items
theorem Objs.arg {W w : World} {L : List Obj} (H : Objs W w L) {v : Value} {xs : List Itm} (h : Items W v xs) : Items w v xs := h.mono H.below (Nat.le_refl _)

/-- A row written: the others stand. -/
theorem Objs.set {W w w' : World} {L : List Obj} (H : Objs W w L) (i : Nat) {o o' : Obj} (h : L[i]? = some o) (hn : 0 < o.n) (hn' : o'.n = o.n) (hv : o'.v = o.v) (ho : o'.holds w' W.heap.size) (hb : ButRow o.v w w') : Objs W w' (L.set i o') := by
  have hlt : i < L.length := (List.getElem?_eq_some_iff.1 h).1
  have hr := fun g (hg : o.v.ownBlock = some g) => own_range ((H.own i o h).1.1 hn) hg
  have old : ∀ j p, (L.set i o')[j]? = some p → (j = i ∧ p = o') ∨ (j ≠ i ∧ L[j]? = some p) := by
    intro j p hp
    rw [List.getElem?_set] at hp
    by_cases hj : i = j
    · subst hj
      simp [hlt] at hp
      exact .inl ⟨rfl, hp.symm⟩
    · rw [if_neg hj] at hp
      exact .inr ⟨fun e => hj e.symm, hp⟩
  refine ⟨H.below.trans (hb.toBelow (fun g hg => (hr g hg).1) H.below.size), ?_, ?_⟩
  · intro j p hp
    rcases old j p hp with ⟨rfl, rfl⟩ | ⟨hne, hp⟩
    · exact ho
    · exact ⟨⟨fun h0 => hb.own ((H.own j p hp).1.1 h0) (fun g hg => H.apart j i p o hne hp h h0 hn g hg), (H.own j p hp).1.2⟩, (H.own j p hp).2⟩
  · intro j k p q hjk hp hq n1 n2 g hg
    rcases old j p hp with ⟨e1, e2⟩ | ⟨hne, hp'⟩
    · rcases old k q hq with ⟨e3, e4⟩ | ⟨hne', hq'⟩
      · omega
      · rw [e2, hv] at hg
        exact H.apart i k o q (fun e => hne' e.symm) h hq' hn n2 g hg
    · rcases old k q hq with ⟨e3, e4⟩ | ⟨hne', hq'⟩
      · rw [e4, hv]
        exact H.apart j i p o hne hp' h n1 hn g hg
      · exact H.apart j k p q hjk hp' hq' n1 n2 g hg

theorem set_self {α : Type} {L : List α} {i : Nat} {x : α} (h : L[i]? = some x) : L.set i x = L := by
  obtain ⟨hlt, e⟩ := List.getElem?_eq_some_iff.1 h
  rw [← e]
  simp
def MarkedO (W : World) (L : List Obj) (i : Nat) (v : Value) (k n : Nat) (e : Ending) (w' : World) : Prop :=
  ∃ m : Nat, e = .returned (.int .i64 (m : Int)) ∧ ¬ ((m : Int) < 0) ∧ Hid (m = k + 2 * n) ∧ Objs W w' (L.set i (itemsO v (marksI k n)))
end Go.Proofs.Ytoglgeinnocfjaa
/-
  The statements' own helpers over texts: how much they hold, a copy, equality, marks.
-/
namespace Go.Proofs.Ytoglgeinnocfjaa
open Go.RowKit

def okT (ts : List ByteArray) : Prop := ∀ t ∈ ts, t.size ≤ 9223372036854775807
def cellsT (ts : List ByteArray) : List Value := ts.map Value.string
/-- The slice v reads as the texts ts. -/
def Texts (w : World) (v : Value) (ts : List ByteArray) : Prop :=
  ∃ ao cap, v = .slice ao ts.length cap ∧ ts.length ≤ cap ∧ cap ≤ 9223372036854775807 ∧ okT ts ∧
    ∀ k (_ : k < ts.length), ∃ b o, ao = some ⟨b, o, none⟩ ∧ b < w.heap.size ∧ w.cell? ⟨b, o + k, none⟩ = some (.string ts[k])
def OwnT (w : World) (B : Nat) (v : Value) (ts : List ByteArray) : Prop := w.ownsRow B 9 1 v ts.length (cellsT ts) ∧ okT ts

theorem Texts.mono {w w' : World} {v : Value} {xs : List ByteArray} (h : Texts w v xs) {B : Nat} (hb : Below B w w') (hB : w.heap.size ≤ B) : Texts w' v xs := by
  obtain ⟨ao, cap, hv, hl, hc, hok, hk⟩ := h
  refine ⟨ao, cap, hv, hl, hc, hok, fun k hlt => ?_⟩
  obtain ⟨b, o, ha, hs, h1⟩ := hk k hlt
  exact ⟨b, o, ha, Nat.lt_of_lt_of_le hs hb.size, (hb.cell (p := ⟨b, _, none⟩) (Nat.lt_of_lt_of_le hs hB)).trans h1⟩
theorem cellsT_length (ts : List ByteArray) : (cellsT ts).length = ts.length := by simp [cellsT]
theorem cellsT_get {ts : List ByteArray} {k : Nat} (h : k < ts.length) : (cellsT ts)[k]? = some (.string ts[k]) := by simp [cellsT, h]
theorem OwnT.texts {w : World} {B : Nat} {v : Value} {xs : List ByteArray} (h : OwnT w B v xs) : Texts w v xs := by
  obtain ⟨hrow, hok⟩ := h
  have hrow' := hrow
  obtain ⟨_, h2⟩ := hrow
  rcases h2 with ⟨rfl, h0⟩ | ⟨g, cap, cur, rfl, hb, hg, hnc, hcm, hcs, htake⟩
  · exact ⟨none, 0, by rw [h0], by omega, by omega, hok, fun k hk => by omega⟩
  · refine ⟨_, cap, rfl, hnc, by unfold maxLen at hcm; exact hcm, hok, fun k hk => ⟨g, 0, rfl, (Array.getElem?_eq_some_iff.1 hg).1, ?_⟩⟩
    rw [Nat.zero_add]
    exact row_cell_at hrow' (cellsT_get hk)
theorem OwnT.below {w w' : World} {B : Nat} {v : Value} {xs : List ByteArray} (h : OwnT w B v xs) {C : Nat} (hb : Below C w w') (hC : w.heap.size ≤ C) : OwnT w' B v xs := ⟨ownsRow_below h.1 hb hC, h.2⟩
theorem OwnT.base {w : World} {B B' : Nat} {v : Value} {xs : List ByteArray} (h : OwnT w B v xs) (hB : B' ≤ B) : OwnT w B' v xs := ⟨ownsRow_base h.1 hB, h.2⟩
theorem Texts.nil (w : World) : Texts w (.slice none 0 0) [] := ⟨none, 0, rfl, Nat.le_refl _, by omega, fun x hx => by simp at hx, fun k hk => by simp at hk⟩
theorem OwnT_nil (w : World) (B : Nat) : OwnT w B (.slice none 0 0) [] := ⟨World.ownsRow_nil _ _ _ _, fun x hx => by simp at hx⟩

theorem below_drewN {B : Nat} {a w : World} (h : Below B a w) (n : Nat) : Below B a (w.drewN n) := ⟨h.os, h.tape, h.output, h.size, h.block⟩

theorem copyT_step {w : World} {B E g n : Nat} {xs : List ByteArray} {k : Nat} {zs : List Value} (hlt : k < xs.length) (hn : n = xs.length) (hz : zs.length = n - k)
    (hown : w.ownsRow B E 1 (.slice (some ⟨g, 0, none⟩) n n) n (cellsT (xs.take k) ++ zs)) :
    ∃ zs', zs'.length = n - (k + 1) ∧ (w.setCell ⟨g, k, none⟩ (.string xs[k])).ownsRow B E 1 (.slice (some ⟨g, 0, none⟩) n n) n (cellsT (xs.take (k + 1)) ++ zs') := by
  have h1 := (hown.stored k (.string xs[k])).1
  have hlen : (cellsT (xs.take k)).length = k := by rw [cellsT_length]; simp; omega
  match zs, hz with
  | [], hz => simp at hz; omega
  | z0 :: r, hz =>
    refine ⟨r, by simp at hz; omega, ?_⟩
    have e : (cellsT (xs.take k) ++ z0 :: r).set k (.string xs[k]) = cellsT (xs.take (k + 1)) ++ r := by
      rw [List.set_append_right _ _ (by omega), hlen, Nat.sub_self, List.take_succ_eq_append_getElem hlt]
      simp only [cellsT, List.map_append, List.append_assoc]
      rfl
    rw [e] at h1
    exact h1

def FreshT (xs : List ByteArray) (w : World) (e : Ending) (w' : World) : Prop :=
  ∃ v, e = .returned v ∧ OwnT w' w.heap.size v xs ∧ Below w.heap.size w w'

def eqFromT (k : Nat) (xs ys : List ByteArray) : Bool := decide (xs.drop k = ys.drop k)
theorem eqFromT_step {k : Nat} {xs ys : List ByteArray} (h1 : k < xs.length) (h2 : k < ys.length) : eqFromT k xs ys = (decide (xs[k] = ys[k]) && eqFromT (k + 1) xs ys) := by
  unfold eqFromT
  rw [List.drop_eq_getElem_cons h1, List.drop_eq_getElem_cons h2, Bool.eq_iff_iff, Bool.and_eq_true, decide_eq_true_eq, decide_eq_true_eq, decide_eq_true_eq, List.cons.injEq]

end Go.Proofs.Ytoglgeinnocfjaa
/-
  What a statement has made and still reads: each thing in blocks of its own, carried from call to call.
-/
namespace Go.Proofs.Ytoglgeinnocfjaa
open Go.RowKit

def In (lo hi k : Nat) : Prop := lo ≤ k ∧ k < hi
/-- A thing: the blocks that it may lie in, and what is known of it as long as these stay. -/
structure Thing where
  lo : Nat
  hi : Nat
  P : World → Prop
  keep : ∀ w w' : World, Keeps (In lo hi) w w' → P w → P w'
/-- W: the world in which the statement began. -/
structure Things (W w : World) (L : List Thing) : Prop where
  below : Below W.heap.size W w
  has : ∀ (i : Nat) (t : Thing), L[i]? = some t → W.heap.size ≤ t.lo ∧ t.hi ≤ w.heap.size ∧ t.P w
  apart : ∀ (i j : Nat) (t u : Thing), i ≠ j → L[i]? = some t → L[j]? = some u → t.hi ≤ u.lo ∨ u.hi ≤ t.lo

theorem Things.nil (W : World) : Things W W [] := ⟨Below.refl _ _, fun i t h => by simp at h, fun i j t u _ h => by simp at h⟩
theorem Things.quiet {W w w' : World} {L : List Thing} (H : Things W w L) (hb : Below w.heap.size w w') : Things W w' L :=
  ⟨H.below.trans (hb.mono H.below.size), fun i t h => by
    obtain ⟨h1, h2, h3⟩ := H.has i t h
    exact ⟨h1, Nat.le_trans h2 hb.size, t.keep w w' (Keeps.of_below hb (fun k hk => Nat.lt_of_lt_of_le hk.2 h2)) h3⟩, H.apart⟩
theorem Things.new {W w w' : World} {L : List Thing} (H : Things W w L) {t : Thing} (hlo : w.heap.size ≤ t.lo) (hhi : t.hi ≤ w'.heap.size) (hP : t.P w') (hb : Below w.heap.size w w') : Things W w' (t :: L) := by
  have Q := H.quiet hb
  refine ⟨Q.below, ?_, ?_⟩
  · intro i u h
    cases i with
    | zero =>
      simp at h
      subst h
      exact ⟨Nat.le_trans H.below.size hlo, hhi, hP⟩
    | succ i => exact Q.has i u (by simpa using h)
  · intro i j p q hij hp hq
    cases i with
    | zero =>
      simp at hp
      subst hp
      cases j with
      | zero => omega
      | succ j =>
        have := (H.has j q (by simpa using hq)).2.1
        exact .inr (Nat.le_trans this hlo)
    | succ i =>
      cases j with
      | zero =>
        simp at hq
        subst hq
        have := (H.has i p (by simpa using hp)).2.1
        exact .inl (Nat.le_trans this hlo)
      | succ j => exact Q.apart i j p q (by omega) (by simpa using hp) (by simpa using hq)
/-- What is written into one thing leaves the others. -/
theorem Things.set {W w w' : World} {L : List Thing} (H : Things W w L) (i : Nat) {t t' : Thing} (h : L[i]? = some t) (hlo : t'.lo = t.lo) (hhi : t'.hi = t.hi) (hP : t'.P w') (hb : Keeps (fun k => k < w.heap.size ∧ ¬ In t.lo t.hi k) w w') : Things W w' (L.set i t') := by
  have hlt : i < L.length := (List.getElem?_eq_some_iff.1 h).1
  have old : ∀ j p, (L.set i t')[j]? = some p → (j = i ∧ p = t') ∨ (j ≠ i ∧ L[j]? = some p) := by
    intro j p hp
    rw [List.getElem?_set] at hp
    by_cases hj : i = j
    · subst hj
      simp [hlt] at hp
      exact .inl ⟨rfl, hp.symm⟩
    · rw [if_neg hj] at hp
      exact .inr ⟨fun e => hj e.symm, hp⟩
  obtain ⟨g1, g2, g3⟩ := H.has i t h
  refine ⟨H.below.trans (hb.below (fun k hk => ⟨Nat.lt_of_lt_of_le hk H.below.size, fun hin => by have := hin.1; omega⟩)), ?_, ?_⟩
  · intro j p hp
    rcases old j p hp with ⟨rfl, rfl⟩ | ⟨hne, hp⟩
    · exact ⟨by rw [hlo]; exact g1, by rw [hhi]; exact Nat.le_trans g2 hb.size, hP⟩
    · obtain ⟨k1, k2, k3⟩ := H.has j p hp
      refine ⟨k1, Nat.le_trans k2 hb.size, p.keep w w' (hb.mono fun k hk => ⟨Nat.lt_of_lt_of_le hk.2 k2, fun hin => ?_⟩) k3⟩
      have := H.apart j i p t hne hp h
      have h1 := hk.1
      have h2 := hk.2
      have h3 := hin.1
      have h4 := hin.2
      omega
  · intro j k p q hjk hp hq
    rcases old j p hp with ⟨e1, e2⟩ | ⟨hne, hp'⟩
    · rcases old k q hq with ⟨e3, e4⟩ | ⟨hne', hq'⟩
      · omega
      · rw [e2, hlo, hhi]
        exact H.apart i k t q (fun e => hne' e.symm) h hq'
    · rcases old k q hq with ⟨e3, e4⟩ | ⟨hne', hq'⟩
      · rw [e4, hlo, hhi]
        exact H.apart j i p t hne hp' h
      · exact H.apart j k p q hjk hp' hq'
theorem Things.lt {W w : World} {L : List Thing} (H : Things W w L) : W.heap.size ≤ w.heap.size := H.below.size

/-! ### a struct in a variable -/
def boxT (b T : Nat) (cs : List Value) : Thing := ⟨b, b + 1, fun w => w.heap[b]? = some (.cells cs.toArray T (0, 0)), fun w w' hk h => by rw [hk.block b ⟨Nat.le_refl _, Nat.lt_succ_self _⟩]; exact h⟩
theorem Things.boxed {W w : World} {L : List Thing} (H : Things W w L) (T : Nat) (cs : List Value) : Things W (w.alloc (.cells cs.toArray T)) (boxT w.heap.size T cs :: L) :=
  H.new (Nat.le_refl _) (by simp [boxT]) (by show (w.alloc _).heap[w.heap.size]? = _; rw [heap_alloc_new]) ((Below.refl _ _).alloc (Nat.le_refl _) _)
theorem Things.boxcell {W w : World} {L : List Thing} (H : Things W w L) (i : Nat) {b T : Nat} {cs : List Value} (h : L[i]? = some (boxT b T cs)) (j : Nat) {u : Value} (hj : cs[j]? = some u) : w.cell? ⟨b, j, none⟩ = some u := by
  have h2 : w.heap[b]? = some (.cells cs.toArray T (0, 0)) := (H.has i _ h).2.2
  simp [World.cell?, h2, hj]
theorem Things.boxfree {W w : World} {L : List Thing} (H : Things W w L) (i : Nat) {b T : Nat} {cs : List Value} (h : L[i]? = some (boxT b T cs)) (j : Nat) : w.frozen? ⟨b, j, none⟩ = false := by
  have h2 : w.heap[b]? = some (.cells cs.toArray T (0, 0)) := (H.has i _ h).2.2
  simp [World.frozen?, h2]
theorem Things.box1 {W w : World} {L : List Thing} (H : Things W w L) (i : Nat) {b T : Nat} {u0 : Value} (h : L[i]? = some (boxT b T [u0])) : w.cell? ⟨b, 0, none⟩ = some u0 := H.boxcell i h 0 rfl
theorem Things.box2 {W w : World} {L : List Thing} (H : Things W w L) (i : Nat) {b T : Nat} {u0 u1 : Value} (h : L[i]? = some (boxT b T [u0, u1])) : w.cell? ⟨b, 0, none⟩ = some u0 ∧ w.cell? ⟨b, 1, none⟩ = some u1 :=
  ⟨H.boxcell i h 0 rfl, H.boxcell i h 1 rfl⟩
theorem Things.box4 {W w : World} {L : List Thing} (H : Things W w L) (i : Nat) {b T : Nat} {u0 u1 u2 u3 : Value} (h : L[i]? = some (boxT b T [u0, u1, u2, u3])) : w.cell? ⟨b, 0, none⟩ = some u0 ∧ w.cell? ⟨b, 1, none⟩ = some u1 ∧ w.cell? ⟨b, 2, none⟩ = some u2 ∧ w.cell? ⟨b, 3, none⟩ = some u3 :=
  ⟨H.boxcell i h 0 rfl, H.boxcell i h 1 rfl, H.boxcell i h 2 rfl, H.boxcell i h 3 rfl⟩

/-! ### lists of items -/
/-- A list of one's own whose row lies below hi, or none at all. -/
def RowZ (lo hi : Nat) (w : World) (v : Value) (xs : List Itm) : Prop := OwnZ 74 w lo v xs ∧ (xs ≠ [] → ∀ g, v.ownBlock = some g → g < hi)
theorem OwnZ.cases {E B : Nat} {w : World} {v : Value} {xs : List Itm} (h : OwnZ E w B v xs) : (xs ≠ [] ∧ OwnI E w B v xs) ∨ (xs = [] ∧ ∃ ao c, v = .slice ao 0 c ∧ c ≤ 9223372036854775807) := by
  rcases h with h | h
  · cases xs with
    | nil =>
      obtain ⟨ao, cap, e, _, hc⟩ := own_slice h.1
      exact .inr ⟨rfl, ao, cap, e, hc⟩
    | cons x r => exact .inl ⟨by simp, h⟩
  · exact .inr h
theorem RowZ.keeps {lo hi : Nat} {w w' : World} {v : Value} {xs : List Itm} (h : RowZ lo hi w v xs) (hk : Keeps (In lo hi) w w') : RowZ lo hi w' v xs := by
  refine ⟨?_, h.2⟩
  rcases h.1.cases with ⟨hne, ho⟩ | h0
  · exact .inl ⟨hk.own ho.1 (fun g hg => ⟨(own_range ho.1 hg).1, h.2 hne g hg⟩), ho.2⟩
  · exact .inr h0
theorem RowZ.items {lo hi : Nat} {w : World} {v : Value} {xs : List Itm} (h : RowZ lo hi w v xs) : Items w v xs := h.1.items
theorem RowZ.of {B : Nat} {w : World} {v : Value} {xs : List Itm} (h : OwnI 74 w B v xs) : RowZ B w.heap.size w v xs := ⟨h.z, fun _ _ hg => (own_range h.1 hg).2⟩
theorem RowZ.ofZ {B : Nat} {w : World} {v : Value} {xs : List Itm} (h : OwnZ 74 w B v xs) : RowZ B w.heap.size w v xs := ⟨h, fun hne _ hg => by
  rcases h.cases with ⟨_, ho⟩ | ⟨h0, _⟩
  · exact (own_range ho.1 hg).2
  · exact absurd h0 hne⟩
theorem OwnZ.base {E : Nat} {w : World} {B B' : Nat} {v : Value} {xs : List Itm} (h : OwnZ E w B v xs) (hB : B' ≤ B) : OwnZ E w B' v xs := by
  rcases h with h | h
  · exact .inl (h.base hB)
  · exact .inr h
theorem RowZ.wide {lo hi lo' hi' : Nat} {w : World} {v : Value} {xs : List Itm} (h : RowZ lo hi w v xs) (hlo : lo' ≤ lo) (hhi : hi ≤ hi') : RowZ lo' hi' w v xs := ⟨h.1.base hlo, fun hne g hg => Nat.lt_of_lt_of_le (h.2 hne g hg) hhi⟩
def ownT (lo hi : Nat) (v : Value) (xs : List Itm) : Thing := ⟨lo, hi, fun w => RowZ lo hi w v xs, fun _ _ hk h => h.keeps hk⟩
/-- What only reads as these items. -/
def readT (lo hi : Nat) (v : Value) (xs : List Itm) : Thing := ⟨lo, hi, fun w => Items w v xs ∧ InK (In lo hi) v, fun _ _ hk h => ⟨h.1.keeps hk h.2, h.2⟩⟩
theorem Things.items {W w : World} {L : List Thing} (H : Things W w L) (i : Nat) {lo hi : Nat} {v : Value} {xs : List Itm} (h : L[i]? = some (ownT lo hi v xs)) : Items w v xs :=
  RowZ.items (show RowZ lo hi w v xs from (H.has i _ h).2.2)
theorem Things.ritems {W w : World} {L : List Thing} (H : Things W w L) (i : Nat) {lo hi : Nat} {v : Value} {xs : List Itm} (h : L[i]? = some (readT lo hi v xs)) : Items w v xs :=
  (show Items w v xs ∧ InK (In lo hi) v from (H.has i _ h).2.2).1
theorem Things.newZ {W w w' : World} {L : List Thing} {v : Value} {xs : List Itm} (H : Things W w L) (ho : OwnZ 74 w' w.heap.size v xs) (hb : Below w.heap.size w w') : Things W w' (ownT w.heap.size w'.heap.size v xs :: L) :=
  H.new (Nat.le_refl _) (Nat.le_refl _) (RowZ.ofZ ho) hb
theorem Things.newI {W w w' : World} {L : List Thing} {v : Value} {xs : List Itm} (H : Things W w L) (ho : OwnI 74 w' w.heap.size v xs) (hb : Below w.heap.size w w') : Things W w' (ownT w.heap.size w'.heap.size v xs :: L) := H.newZ ho.z hb
theorem Things.newR {W w w' : World} {L : List Thing} {v : Value} {xs : List Itm} (H : Things W w L) (hi : Items w' v xs) (hk : InK (In w.heap.size w'.heap.size) v) (hb : Below w.heap.size w w') : Things W w' (readT w.heap.size w'.heap.size v xs :: L) :=
  H.new (Nat.le_refl _) (Nat.le_refl _) ⟨hi, hk⟩ hb
theorem Things.arg {W w : World} {L : List Thing} (H : Things W w L) {v : Value} {xs : List Itm} (h : Items W v xs) : Items w v xs := h.mono H.below (Nat.le_refl _)

theorem ButRow.keeps {v : Value} {w w' : World} {K : Nat → Prop} (h : ButRow v w w') (hK : ∀ k, K k → k < w.heap.size ∧ v.ownBlock ≠ some k) : Keeps K w w' := ⟨h.os, h.tape, h.output, h.size, fun k hk => h.block k (hK k hk).1 (hK k hk).2⟩
def MarkedT' (W : World) (L : List Thing) (i : Nat) (t : Nat → Thing) (k q : Nat) (e : Ending) (w' : World) : Prop :=
  ∃ m : Nat, e = .returned (.int .i64 (m : Int)) ∧ ¬ ((m : Int) < 0) ∧ Hid (m = k + q) ∧ Things W w' (L.set i (t k))
end Go.Proofs.Ytoglgeinnocfjaa
