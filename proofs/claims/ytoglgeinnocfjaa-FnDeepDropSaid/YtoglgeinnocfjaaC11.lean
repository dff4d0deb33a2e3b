/-
  Str2, New, Box, ChnO, VCache, ChnV, ThingT, FreshQ, KyL.
-/
import Derived.Deep.RegionHeld3
import Derived.Deep.Slices
import Derived.Test.YtoglgeinnocfjaaC0
import Derived.Test.YtoglgeinnocfjaaC4
import Derived.Test.YtoglgeinnocfjaaC5
import Derived.Test.YtoglgeinnocfjaaC7
import Derived.Test.YtoglgeinnocfjaaC10
/-
  Marks in lists of texts; texts among what a statement has made; an argument that is a slice of texts.
-/
namespace Go.Proofs.Ytoglgeinnocfjaa
open Go.RowKit
open Go.ChangeShapes Go.WideShapes Go.ChangeAt Go.Deep

def marksT (k : Nat) : Nat → List ByteArray
  | 0 => []
  | n + 1 => marksT k n ++ [markS (k + n)]
theorem marksT_length (k n : Nat) : (marksT k n).length = n := by
  induction n with
  | zero => rfl
  | succ n ih => simp [marksT, ih]
theorem marksT_get (k : Nat) : ∀ (n i : Nat) (h : i < (marksT k n).length), (marksT k n)[i] = markS (k + i) := by
  intro n
  induction n with
  | zero => intro i h; simp [marksT] at h
  | succ n ih =>
    intro i h
    rw [marksT_length] at h
    by_cases hi : i < n
    · have := ih i (by rw [marksT_length]; exact hi)
      simp only [marksT]
      rw [List.getElem_append_left (by rw [marksT_length]; exact hi)]
      exact this
    · obtain rfl : i = n := by omega
      simp only [marksT]
      rw [List.getElem_append_right (by rw [marksT_length]; exact Nat.le_refl _)]
      simp [marksT_length]
theorem marksT_ok (k n : Nat) (h : k + n ≤ 100000000) : okT (marksT k n) := by
  intro x hx
  obtain ⟨i, hi, rfl⟩ := List.mem_iff_getElem.1 hx
  rw [marksT_get]
  rw [marksT_length] at hi
  have := markS_size (k + i)
  omega

theorem markT_row {w w' : World} {B E g n cap : Nat} {xs : List ByteArray} {k i q : Nat} {C : Nat} (hlt : i < xs.length) (hq : q = k + i) (hC : w.heap.size ≤ C)
    (hown : w.ownsRow B E 1 (.slice (some ⟨g, 0, none⟩) n cap) n (cellsT (marksT k i ++ xs.drop i))) (hb : Below C w w') :
    (w'.setCell ⟨g, i, none⟩ (.string (markS q))).ownsRow B E 1 (.slice (some ⟨g, 0, none⟩) n cap) n (cellsT (marksT k (i + 1) ++ xs.drop (i + 1))) := by
  have h0 := ownsRow_below hown hb hC
  have h1 := (h0.stored i (.string (markS q))).1
  have hlen : (cellsT (marksT k i)).length = i := by rw [cellsT_length, marksT_length]
  have e : (cellsT (marksT k i ++ xs.drop i)).set i (.string (markS q)) = cellsT (marksT k (i + 1) ++ xs.drop (i + 1)) := by
    subst hq
    rw [List.drop_eq_getElem_cons hlt]
    simp only [cellsT, List.map_append, marksT, List.append_assoc, List.map_cons] at hlen ⊢
    rw [List.set_append_right _ _ (by omega), hlen, Nat.sub_self]
    rfl
  rw [e] at h1
  exact h1

/-! ### objects -/
def textsO (v : Value) (xs : List ByteArray) : Obj := ⟨v, 9, 1, xs.length, cellsT xs, okT xs⟩
theorem holdsT {w : World} {B : Nat} {v : Value} {xs : List ByteArray} (h : OwnT w B v xs) : (textsO v xs).holds w B := Obj.holds_of h.1 (fun h0 => by
  have : xs = [] := List.eq_nil_of_length_eq_zero h0
  subst this
  rfl) h.2
theorem Texts_none {w : World} {ao : Option Addr} {c : Nat} (hc : c ≤ 9223372036854775807) : Texts w (.slice ao 0 c) [] := ⟨ao, c, rfl, Nat.zero_le _, hc, fun x hx => by simp at hx, fun k hk => by simp at hk⟩
theorem Objs.newT {W w w' : World} {L : List Obj} {v : Value} {xs : List ByteArray} (H : Objs W w L) (ho : OwnT w' w.heap.size v xs) (hb : Below w.heap.size w w') : Objs W w' (textsO v xs :: L) := H.new (holdsT ho) hb
theorem Objs.ownT {W w : World} {L : List Obj} (H : Objs W w L) (i : Nat) {v : Value} {x : ByteArray} {xs : List ByteArray} (h : L[i]? = some (textsO v (x :: xs))) : OwnT w W.heap.size v (x :: xs) :=
  ⟨(H.own i _ h).1.1 (by simp [textsO]), (H.own i _ h).2⟩
theorem Objs.texts {W w : World} {L : List Obj} (H : Objs W w L) (i : Nat) {v : Value} {xs : List ByteArray} (h : L[i]? = some (textsO v xs)) : Texts w v xs := by
  cases xs with
  | nil =>
    obtain ⟨_, ao, c, e, hc⟩ := (H.own i _ h).1.2 rfl
    have e' : v = .slice ao 0 c := e
    rw [e']
    exact Texts_none hc
  | cons x r => exact (H.ownT i h).texts
theorem Objs.argT {W w : World} {L : List Obj} (H : Objs W w L) {v : Value} {xs : List ByteArray} (h : Texts W v xs) : Texts w v xs := h.mono H.below (Nat.le_refl _)
def MarkedT (W : World) (L : List Obj) (i : Nat) (v : Value) (k n : Nat) (e : Ending) (w' : World) : Prop :=
  ∃ m : Nat, e = .returned (.int .i64 (m : Int)) ∧ ¬ ((m : Int) < 0) ∧ Hid (m = k + n) ∧ Objs W w' (L.set i (textsO v (marksT k n)))
theorem cellsT_snoc (L : List ByteArray) (s : ByteArray) : cellsT (L ++ [s]) = cellsT L ++ [.string s] := by simp [cellsT]
end Go.Proofs.Ytoglgeinnocfjaa
/-
  What an operation returns: something new, or nothing that lies in memory.
-/
namespace Go.Proofs.Ytoglgeinnocfjaa
open Go.RowKit

def NewL (f : Value → Value) (l : List Itm) (w : World) (e : Ending) (w' : World) : Prop :=
  ∃ v, e = .returned (f v) ∧ OwnI 74 w' w.heap.size v l ∧ Below w.heap.size w w'
def NewT (f : Value → Value) (l : List ByteArray) (w : World) (e : Ending) (w' : World) : Prop :=
  ∃ v, e = .returned (f v) ∧ OwnT w' w.heap.size v l ∧ Below w.heap.size w w'
def RetQ (v : Value) (w : World) (e : Ending) (w' : World) : Prop := e = .returned v ∧ Below w.heap.size w w'

theorem bcell {W w1 : World} (hb : Below W.heap.size W w1) : (∀ b o, b < W.heap.size → w1.cell? ⟨b, o, none⟩ = W.cell? ⟨b, o, none⟩) ∧ (∀ b o, b < W.heap.size → w1.frozen? ⟨b, o, none⟩ = W.frozen? ⟨b, o, none⟩) :=
  ⟨fun b o h => hb.cell (p := ⟨b, o, none⟩) h, fun b o h => hb.frozen (p := ⟨b, o, none⟩) h⟩

/-! ### how long it is -/
theorem del_le (l : List Itm) (k : ByteArray) : (delI l k).length ≤ l.length := by
  have := delI_length (l := l) k
  split at this <;> omega
theorem if_len {b : Bool} {l : List Itm} (h : b = true → l.length ≤ 100) : (if b = true then l else []).length ≤ 10000000 := by
  cases b
  · simp
  · have := h rfl
    simp only [if_true]
    omega
theorem okG_len {l : List Itm} {k : ByteArray} (h : okG l k = true) : l.length ≤ 8 := by
  unfold okG at h
  rw [Bool.and_eq_true] at h
  exact valid_len h.1
theorem drp_le (l : List Itm) (k : ByteArray) : (drpL l k).length ≤ 10000000 := if_len fun h => by have := okG_len h; have := del_le l k; omega
theorem mov_le (l : List Itm) (k : ByteArray) (b : Bool) : (movL l k b).length ≤ 10000000 := if_len fun h => by
  have h1 := okG_len h
  have h2 := del_le l k
  unfold movI
  split <;> simp <;> omega
theorem ren_le (l : List Itm) (k t : ByteArray) : (renL l k t).length ≤ 10000000 := if_len fun h => by
  unfold okR at h
  rw [Bool.and_eq_true] at h
  have := valid_len h.2
  omega
theorem over_le (a b : List Itm) : (overL a b).length ≤ 10000000 := if_len fun h => by
  unfold okO at h
  rw [Bool.and_eq_true] at h
  have := valid_len h.2
  omega
theorem tur_le (l : List Itm) : (turL l).length ≤ 10000000 := if_len fun h => by
  have := valid_len h
  simp
  omega
theorem put_le (l : List Itm) (k : ByteArray) (n : Int) : (putL l k n).length ≤ 10000000 := if_len fun h => by
  unfold okP at h
  rw [Bool.and_eq_true] at h
  have := valid_len h.2
  omega
theorem def_le (l : List Itm) (k : ByteArray) (n : Int) : (defL l k n).length ≤ 10000000 := put_le _ _ _
end Go.Proofs.Ytoglgeinnocfjaa
/-
  A struct that lies in a variable, as one of the statement's objects.
-/
namespace Go.Proofs.Ytoglgeinnocfjaa
open Go.RowKit

def boxO (b T : Nat) (cs : List Value) : Obj := ⟨.slice (some ⟨b, 0, none⟩) 1 1, T, cs.length, 1, cs, True⟩
theorem Objs.boxed {W w : World} {L : List Obj} (H : Objs W w L) (T : Nat) (cs : List Value) : Objs W (w.alloc (.cells cs.toArray T)) (boxO w.heap.size T cs :: L) := by
  refine H.new ⟨⟨fun _ => ?_, fun h0 => by simp [boxO] at h0⟩, trivial⟩ ((Below.refl _ _).alloc (Nat.le_refl _) _)
  have := World.ownsRow_lit (base := w.heap.size) (e := T) (size := cs.length) w cs.toArray 1 (Nat.le_refl _) (by unfold maxLen; omega) (by simp)
  simpa [boxO] using this
theorem Objs.boxcell {W w : World} {L : List Obj} (H : Objs W w L) (i : Nat) {b T : Nat} {cs : List Value} (h : L[i]? = some (boxO b T cs)) (j : Nat) {u : Value} (hj : cs[j]? = some u) : w.cell? ⟨b, j, none⟩ = some u := by
  have ho := (H.own i _ h).1.1 (by simp [boxO])
  exact row_cell_at (S := cs.length) (B := W.heap.size) (E := T) (n := 1) (c := 1) (m := 1) (xs := cs) ho hj
theorem Objs.box2 {W w : World} {L : List Obj} (H : Objs W w L) (i : Nat) {b T : Nat} {u0 u1 : Value} (h : L[i]? = some (boxO b T [u0, u1])) : w.cell? ⟨b, 0, none⟩ = some u0 ∧ w.cell? ⟨b, 1, none⟩ = some u1 :=
  ⟨H.boxcell i h 0 rfl, H.boxcell i h 1 rfl⟩
theorem Objs.box4 {W w : World} {L : List Obj} (H : Objs W w L) (i : Nat) {b T : Nat} {u0 u1 u2 u3 : Value} (h : L[i]? = some (boxO b T [u0, u1, u2, u3])) : w.cell? ⟨b, 0, none⟩ = some u0 ∧ w.cell? ⟨b, 1, none⟩ = some u1 ∧ w.cell? ⟨b, 2, none⟩ = some u2 ∧ w.cell? ⟨b, 3, none⟩ = some u3 :=
  ⟨H.boxcell i h 0 rfl, H.boxcell i h 1 rfl, H.boxcell i h 2 rfl, H.boxcell i h 3 rfl⟩

theorem OwnI.past {E B : Nat} {w w' : World} {v : Value} {xs : List Itm} (h : OwnI E w B v xs) (hk : Keeps (fun k => B ≤ k) w w') : OwnI E w' B v xs := ⟨hk.own h.1 (fun _ hg => (own_range h.1 hg).1), h.2⟩
theorem Keeps.past {B : Nat} {w w' : World} (h : Keeps (fun k => B ≤ k) w w') {a : Addr} (ha : a.block < B) (u : Value) : Keeps (fun k => B ≤ k) w (w'.setCell a u) := h.setCell (by omega) u

/-- A result whose row may be a part of a row of its own. -/
def NewW (f : Value → Value) (l : List Itm) (w : World) (e : Ending) (w' : World) : Prop :=
  ∃ v V ys, e = .returned (f v) ∧ OwnI 74 w' w.heap.size V ys ∧ Hid (∀ w, Items w V ys → Items w v l) ∧ Below w.heap.size w w'
theorem NewL.weak {f : Value → Value} {l : List Itm} {w w' : World} {e : Ending} (h : NewL f l w e w') : NewW f l w e w' := by
  obtain ⟨v, rfl, ho, hb⟩ := h
  exact ⟨v, v, l, rfl, ho, Lib.hid fun _ h => h, hb⟩
/-- A block of four cells. -/
def Four (w : World) (b T : Nat) (u0 u1 u2 u3 : Value) : Prop := w.heap[b]? = some (.cells #[u0, u1, u2, u3] T (0, 0))
theorem Four.cells {w : World} {b T : Nat} {u0 u1 u2 u3 : Value} (h : Four w b T u0 u1 u2 u3) : w.cell? ⟨b, 0, none⟩ = some u0 ∧ w.cell? ⟨b, 1, none⟩ = some u1 ∧ w.cell? ⟨b, 2, none⟩ = some u2 ∧ w.cell? ⟨b, 3, none⟩ = some u3 := by
  unfold Four at h
  simp [World.cell?, h]
theorem Four.free {w : World} {b T : Nat} {u0 u1 u2 u3 : Value} (h : Four w b T u0 u1 u2 u3) : w.frozen? ⟨b, 0, none⟩ = false ∧ w.frozen? ⟨b, 1, none⟩ = false ∧ w.frozen? ⟨b, 2, none⟩ = false ∧ w.frozen? ⟨b, 3, none⟩ = false := by
  unfold Four at h
  simp [World.frozen?, h]
theorem Four.lt {w : World} {b T : Nat} {u0 u1 u2 u3 : Value} (h : Four w b T u0 u1 u2 u3) : b < w.heap.size := by
  unfold Four at h
  exact (Array.getElem?_eq_some_iff.1 h).1
theorem Four.below {w w' : World} {b T B : Nat} {u0 u1 u2 u3 : Value} (h : Four w b T u0 u1 u2 u3) (hb : Below B w w') (hB : b < B) : Four w' b T u0 u1 u2 u3 := by
  unfold Four at h ⊢
  rw [hb.block b hB, h]
theorem Four.keeps {K : Nat → Prop} {w w' : World} {b T : Nat} {u0 u1 u2 u3 : Value} (h : Four w b T u0 u1 u2 u3) (hk : Keeps K w w') (hB : K b) : Four w' b T u0 u1 u2 u3 := by
  unfold Four at h ⊢
  rw [hk.block b hB, h]
theorem Four.new (w : World) (T : Nat) (u0 u1 u2 u3 : Value) : Four (w.alloc (.cells #[u0, u1, u2, u3] T)) w.heap.size T u0 u1 u2 u3 := by
  unfold Four
  rw [heap_alloc_new]
end Go.Proofs.Ytoglgeinnocfjaa
/-
  The statements' own helpers over chains.
-/
namespace Go.Proofs.Ytoglgeinnocfjaa
open Go.RowKit

/-- A block of one cell. -/
def One (w : World) (b T : Nat) (u : Value) : Prop := w.heap[b]? = some (.cells #[u] T (0, 0))
theorem One.cell {w : World} {b T : Nat} {u : Value} (h : One w b T u) : w.cell? ⟨b, 0, none⟩ = some u := by
  unfold One at h
  simp [World.cell?, h]
theorem One.free {w : World} {b T : Nat} {u : Value} (h : One w b T u) : w.frozen? ⟨b, 0, none⟩ = false := by
  unfold One at h
  simp [World.frozen?, h]
theorem One.lt {w : World} {b T : Nat} {u : Value} (h : One w b T u) : b < w.heap.size := by
  unfold One at h
  exact (Array.getElem?_eq_some_iff.1 h).1
theorem One.below {w w' : World} {b T B : Nat} {u : Value} (h : One w b T u) (hb : Below B w w') (hB : b < B) : One w' b T u := by
  unfold One at h ⊢
  rw [hb.block b hB, h]
theorem One.keeps {K : Nat → Prop} {w w' : World} {b T : Nat} {u : Value} (h : One w b T u) (hk : Keeps K w w') (hB : K b) : One w' b T u := by
  unfold One at h ⊢
  rw [hk.block b hB, h]
theorem One.set {w : World} {b T : Nat} {u : Value} (h : One w b T u) (v : Value) : One (w.setCell ⟨b, 0, none⟩ v) b T v := by
  unfold One at h ⊢
  rw [heap_setCell_same w b 0 _ _ _ h]
  rfl
theorem One.new (w : World) (T : Nat) (u : Value) : One (w.alloc (.cells #[u] T)) w.heap.size T u := by
  unfold One
  rw [heap_alloc_new]
theorem Keeps.boxset {lo hi : Nat} {w w' : World} (h : Keeps (In lo hi) w w') {a : Addr} (ha : a.block < lo) (u : Value) : Keeps (In lo hi) w (w'.setCell a u) := h.setCell (fun hin => by have := hin.1; omega) u

/-! ### what an operation returns -/
def NewM (f : Value → Value) (ls : List (List Itm)) (w : World) (e : Ending) (w' : World) : Prop :=
  ∃ v, e = .returned (f v) ∧ OwnM w.heap.size w'.heap.size w' v ls ∧ Below w.heap.size w w'
def NewMR (f : Value → Value) (ls : List (List Itm)) (w : World) (e : Ending) (w' : World) : Prop :=
  ∃ v, e = .returned (f v) ∧ MapsK (In w.heap.size w'.heap.size) w' v ls ∧ Below w.heap.size w w'
theorem NewM.weak {f : Value → Value} {ls : List (List Itm)} {w w' : World} {e : Ending} (h : NewM f ls w e w') : NewMR f ls w e w' := by
  obtain ⟨v, rfl, ho, hb⟩ := h
  exact ⟨v, rfl, ho.mapsK, hb⟩
end Go.Proofs.Ytoglgeinnocfjaa
/-
  Whether a cache is valid, by the model and by the program.
-/
namespace Go.Proofs.Ytoglgeinnocfjaa
open Go.RowKit

def rgB (n lo hi : Int) : Bool := decide (lo ≤ n) && decide (n ≤ hi)
def vcB (xs : List Itm) (m g s : Int) : Bool := validI xs && rgB m 1 8 && decide ((xs.length : Int) ≤ m) && rgB g 0 9999 && rgB s 0 9999
def cacheV (v : Value) (m g s : Int) : Value := .agg #[v, .int .i64 m, .int .i64 g, .int .i64 s]

theorem rg_v {n lo hi : Int} {b : Bool} (w : World) (h : rgB n lo hi = b) : Calls Try.prog 92 #[.int .i64 n, .int .i64 lo, .int .i64 hi] w fun e w' => e = .returned (.bool b) ∧ w = w' :=
  (inRange_v w h).mono fun _ _ ⟨he, hw⟩ => ⟨he, hw.symm⟩
theorem vc_a {xs : List Itm} {m g s : Int} (H : Hid (validI xs = false)) : false = vcB xs m g s := by unfold vcB; rw [H.out]; rfl
theorem vc_b {xs : List Itm} {m g s : Int} (H : Hid (rgB m 1 8 = false)) : false = vcB xs m g s := by unfold vcB; rw [H.out]; simp
theorem vc_c {xs : List Itm} {m g s : Int} (H : ¬ ((xs.length : Int) ≤ m)) : false = vcB xs m g s := by unfold vcB; rw [decide_eq_false H]; simp
theorem vc_d {xs : List Itm} {m g s : Int} (H : Hid (rgB g 0 9999 = false)) : false = vcB xs m g s := by unfold vcB; rw [H.out]; simp
theorem vc_e {xs : List Itm} {m g s : Int} {b : Bool} (h1 : Hid (validI xs = true)) (h2 : Hid (rgB m 1 8 = true)) (h3 : (xs.length : Int) ≤ m) (h4 : Hid (rgB g 0 9999 = true)) (h5 : Hid (rgB s 0 9999 = b)) : b = vcB xs m g s := by
  unfold vcB
  rw [h1.out, h2.out, h4.out, h5.out, decide_eq_true h3]
  cases b <;> rfl

end Go.Proofs.Ytoglgeinnocfjaa
/-
  Whether a chain is valid, by the model and by the program.
-/
namespace Go.Proofs.Ytoglgeinnocfjaa
open Go.RowKit

def validC (ls : List (List Itm)) : Bool := ls.all validI && rgB ls.length 1 4
theorem validC_bad {ls : List (List Itm)} {k : Nat} (h : k < ls.length) (hb : validI ls[k] = false) : false = validC ls := by
  unfold validC
  have : ls.all validI = false := by
    rw [← Bool.not_eq_true, List.all_eq_true]
    intro ha
    have := ha _ (List.getElem_mem h)
    rw [hb] at this
    cases this
  rw [this]
  rfl
theorem all_step {ls : List (List Itm)} {k : Nat} (h : k < ls.length) (H : Hid ((ls.take k).all validI = true)) (hb : Hid (validI ls[k] = true)) : Hid ((ls.take (k + 1)).all validI = true) := by
  unfold Hid
  rw [List.take_succ_eq_append_getElem h, List.all_append, H.out]
  simp [hb.out]
theorem validC_iff {ls : List (List Itm)} : validC ls = true ↔ (∀ l ∈ ls, validI l = true) ∧ 1 ≤ ls.length ∧ ls.length ≤ 4 := by
  unfold validC rgB
  rw [Bool.and_eq_true, Bool.and_eq_true, List.all_eq_true, decide_eq_true_eq, decide_eq_true_eq]
  constructor
  · rintro ⟨a, b, c⟩; exact ⟨a, by omega, by omega⟩
  · rintro ⟨a, b, c⟩; exact ⟨a, by omega, by omega⟩

set_option maxHeartbeats 800000 in
set_option maxRecDepth 100000 in
theorem svC_v {v : Value} {ls : List (List Itm)} {b : Bool} (w : World) (h : Maps w v ls) (hb : validC ls = b) :
    Calls Try.prog 95 #[.agg #[v]] w fun e w' => e = .returned (.bool b) ∧ Below w.heap.size w w' := by
  subst hb
  have hM := Lib.hid h
  obtain ⟨ao, cap, rfl, hlc, hcm⟩ := h.slice
  clear h
  go_enter Try.func95, Try.ntmps95
  have HA : Hid (Below w.heap.size w (w.alloc (.cells #[.slice ao ls.length cap] 51))) := (Below.refl _ _).alloc (Nat.le_refl _) _
  have HF := Lib.hid (One.new w 51 (.slice ao ls.length cap))
  go_wp2_with fail
  go_loopw [3] (fun i wr => ∃ k : Nat, k ≤ ls.length ∧ i = .int .i64 k ∧ Hid ((ls.take k).all validI = true) ∧ Hid (Below w.heap.size w wr) ∧ Hid (One wr w.heap.size 51 (.slice ao ls.length cap))) (fun i _ => ls.length - (intOf i).toNat)
  case atStart => exact ⟨0, Nat.zero_le _, rfl, rfl, HA.out, HF.out⟩
  case round =>
    obtain ⟨k, hk, rfl, HG, HB, HO⟩ := hrel
    have c0 := HO.out.cell
    by_cases hlt : k < ls.length
    · obtain ⟨b, o, cap', u, e, hb, h1, hI⟩ := hM.out.at hlt
      simp only [Value.slice.injEq] at e
      obtain ⟨rfl, _, rfl⟩ := e
      have c1 := (HB.out.cell (p := ⟨b, _, none⟩) hb).trans h1
      have HI := Lib.hid (hI.mono HB.out (Nat.le_refl _))
      clear h1 hI
      cases hv : validI ls[k]
      all_goals
        have HV := Lib.hid hv
        clear hv
        go_wp2_with fail
        refine (sVi_v _ HI.out HV.out).mono ?_
        rintro e w1 ⟨rfl, hb1⟩
        have HB1 := Lib.hid (HB.out.trans (hb1.mono HB.out.size))
        have HO1 := Lib.hid (HO.out.below hb1 HO.out.lt)
        clear c0 c1 hb1
      · go_wp2
        go_ret
        exact ⟨ret_bool (validC_bad hlt HV.out), HB1.out⟩
      · have HG1 := all_step hlt HG HV
        go_wp2
        go_roundw
        case rel => exact ⟨k + 1, by omega, by go_num, HG1, HB1, HO1⟩
        case measure => simp [intOf]; omega
    · obtain rfl : k = ls.length := by omega
      have hg := HG.out
      rw [List.take_length] at hg
      have HGG := Lib.hid hg
      clear hg
      cases hr : rgB ls.length 1 4
      all_goals
        have HR := Lib.hid hr
        clear hr
        go_wp2_with fail
        refine (rg_v _ HR.out).mono ?_
        rintro e w1 ⟨rfl, rfl⟩
        clear c0
        go_wp2
        go_ret
        exact ⟨ret_bool (by unfold validC; rw [HGG.out, HR.out]; rfl), HB.out⟩

set_option maxHeartbeats 800000 in
set_option maxRecDepth 100000 in
theorem vC_v {v : Value} {ls : List (List Itm)} {b : Bool} (w : World) (h : Maps w v ls) (hb : validC ls = b) :
    Calls Try.prog 42 #[.agg #[v]] w fun e w' => e = .returned (.bool b) ∧ Below w.heap.size w w' := by
  subst hb
  have hM := Lib.hid h
  obtain ⟨ao, cap, rfl, hlc, hcm⟩ := h.slice
  clear h
  go_enter Try.func42, Try.ntmps42
  have HA : Hid (Below w.heap.size w (w.alloc (.cells #[.slice ao ls.length cap] 51))) := (Below.refl _ _).alloc (Nat.le_refl _) _
  have c0 := (One.new w 51 (.slice ao ls.length cap)).cell
  by_cases h1 : ls.length < 1
  · have hz1 : ((ls.length : Nat) : Int) < 1 := by omega
    go_wp2
    go_ret
    exact ⟨ret_bool (by unfold validC rgB; rw [show decide ((1 : Int) ≤ (ls.length : Int)) = false by simp; omega]; simp), HA.out⟩
  by_cases h4 : 4 < ls.length
  · have hz1 : ¬ ((ls.length : Nat) : Int) < 1 := by omega
    have hz4 : (4 : Int) < ((ls.length : Nat) : Int) := by omega
    go_wp2
    go_ret
    exact ⟨ret_bool (by unfold validC rgB; rw [show decide ((ls.length : Int) ≤ 4) = false by simp; omega]; simp), HA.out⟩
  have hz1 : ¬ ((ls.length : Nat) : Int) < 1 := by omega
  have hz4 : ¬ (4 : Int) < ((ls.length : Nat) : Int) := by omega
  go_wp2_with fail
  go_loopw [18] (fun i wr => ∃ k : Nat, k ≤ ls.length ∧ i = .int .i64 k ∧ Hid ((ls.take k).all validI = true) ∧ Hid (Below w.heap.size w wr)) (fun i _ => ls.length - (intOf i).toNat)
  case atStart => exact ⟨0, Nat.zero_le _, rfl, rfl, HA.out⟩
  case round =>
    obtain ⟨k, hk, rfl, HG, HB⟩ := hrel
    clear c0
    by_cases hlt : k < ls.length
    · obtain ⟨b, o, cap', u, e, hb, h1, hI⟩ := hM.out.at hlt
      simp only [Value.slice.injEq] at e
      obtain ⟨rfl, _, rfl⟩ := e
      have c1 := (HB.out.cell (p := ⟨b, _, none⟩) hb).trans h1
      have HI := Lib.hid (hI.mono HB.out (Nat.le_refl _))
      clear h1 hI
      cases hv : validI ls[k]
      all_goals
        have HV := Lib.hid hv
        clear hv
        go_wp2_with fail
        refine (Vi_v _ HI.out HV.out).mono ?_
        rintro e w1 ⟨rfl, hb1⟩
        have HB1 := Lib.hid (HB.out.trans (hb1.mono HB.out.size))
        clear c1 hb1
      · go_wp2
        go_ret
        exact ⟨ret_bool (validC_bad hlt HV.out), HB1.out⟩
      · have HG1 := all_step hlt HG HV
        go_wp2
        go_roundw
        case rel => exact ⟨k + 1, by omega, by go_num, HG1, HB1⟩
        case measure => simp [intOf]; omega
    · obtain rfl : k = ls.length := by omega
      have hg := HG.out
      rw [List.take_length] at hg
      go_wp2
      go_ret
      refine ⟨ret_bool ?_, HB.out⟩
      unfold validC rgB
      rw [hg, show decide ((1 : Int) ≤ (ls.length : Int)) = true by simp; omega, show decide ((ls.length : Int) ≤ 4) = true by simp; omega]
      rfl
theorem sVC_any (v : Value) (ls : List (List Itm)) (w : World) (h : Maps w v ls) : Calls Try.prog 43 #[.agg #[v]] w (RetQ (.bool (validC ls)) w) := by
  go_enter Try.func43, Try.ntmps43
  have HA : Hid (Below w.heap.size w (w.alloc (.cells #[v] 51))) := (Below.refl _ _).alloc (Nat.le_refl _) _
  go_wp2_with fail
  refine (svC_v _ (h.mono HA.out (Nat.le_refl _)) rfl).mono ?_
  rintro e w1 ⟨rfl, hb1⟩
  go_wp2
  go_ret
  exact ⟨rfl, HA.out.trans (hb1.mono (by simp))⟩
theorem VC_any (v : Value) (ls : List (List Itm)) (w : World) (h : Maps w v ls) : Calls Try.prog 42 #[.agg #[v]] w (RetQ (.bool (validC ls)) w) := vC_v w h rfl
end Go.Proofs.Ytoglgeinnocfjaa
/-
  Lists of texts among what a statement carries.
-/
namespace Go.Proofs.Ytoglgeinnocfjaa
open Go.RowKit

def RowT (lo hi : Nat) (w : World) (v : Value) (xs : List ByteArray) : Prop :=
  (xs ≠ [] ∧ OwnT w lo v xs ∧ ∀ g, v.ownBlock = some g → g < hi) ∨ (xs = [] ∧ ∃ ao c, v = .slice ao 0 c ∧ c ≤ 9223372036854775807)
theorem RowT.keeps {lo hi : Nat} {w w' : World} {v : Value} {xs : List ByteArray} (h : RowT lo hi w v xs) (hk : Keeps (In lo hi) w w') : RowT lo hi w' v xs := by
  rcases h with ⟨hne, ho, hg⟩ | h0
  · exact .inl ⟨hne, ⟨hk.own ho.1 (fun g e => ⟨(own_range ho.1 e).1, hg g e⟩), ho.2⟩, hg⟩
  · exact .inr h0
theorem RowT.texts {lo hi : Nat} {w : World} {v : Value} {xs : List ByteArray} (h : RowT lo hi w v xs) : Texts w v xs := by
  rcases h with ⟨_, ho, _⟩ | ⟨rfl, ao, c, rfl, hc⟩
  · exact ho.texts
  · exact Texts_none hc
theorem RowT.of {B : Nat} {w : World} {v : Value} {xs : List ByteArray} (h : OwnT w B v xs) : RowT B w.heap.size w v xs := by
  cases xs with
  | nil =>
    obtain ⟨ao, cap, e, _, hc⟩ := own_slice h.1
    exact .inr ⟨rfl, ao, cap, e, hc⟩
  | cons x r => exact .inl ⟨by simp, h, fun g e => (own_range h.1 e).2⟩
def textT (lo hi : Nat) (v : Value) (xs : List ByteArray) : Thing := ⟨lo, hi, fun w => RowT lo hi w v xs, fun _ _ hk h => h.keeps hk⟩
theorem Things.texts {W w : World} {L : List Thing} (H : Things W w L) (i : Nat) {lo hi : Nat} {v : Value} {xs : List ByteArray} (h : L[i]? = some (textT lo hi v xs)) : Texts w v xs :=
  RowT.texts (show RowT lo hi w v xs from (H.has i _ h).2.2)
theorem Things.newT {W w w' : World} {L : List Thing} {v : Value} {xs : List ByteArray} (H : Things W w L) (ho : OwnT w' w.heap.size v xs) (hb : Below w.heap.size w w') : Things W w' (textT w.heap.size w'.heap.size v xs :: L) :=
  H.new (Nat.le_refl _) (Nat.le_refl _) (RowT.of ho) hb
end Go.Proofs.Ytoglgeinnocfjaa
/-
  Contracts met in the class of fresh worlds.
-/
namespace Go.Proofs.Ytoglgeinnocfjaa
open Go.RowKit

theorem fresh_Q {f : Nat} {us : Array Value} {v : Value} {w : World} {p : Fresh w} (h : Calls Try.prog f us p.at' (RetQ v p.at')) :
    Calls Try.prog f us p.at' fun e w'' => e = .returned v ∧ ∃ p' : Fresh w, w'' = p'.at' := fresh_of h
end Go.Proofs.Ytoglgeinnocfjaa
/-
  The keys of items, as a statement takes them.
-/
namespace Go.Proofs.Ytoglgeinnocfjaa
open Go.RowKit

theorem kyl_step {l : List Itm} {k : Nat} (h : k < l.length) : keysL (l.take (k + 1)) = keysL (l.take k) ++ [l[k].1] := by
  unfold keysL
  rw [List.take_succ_eq_append_getElem h, List.map_append]
  rfl
theorem kyl_len (l : List Itm) : (keysL l).length = l.length := by unfold keysL; simp
theorem kyl_ok {l : List Itm} (h : okI l) : okT (keysL l) := fun t ht => by
  obtain ⟨x, hx, rfl⟩ := List.mem_map.1 ht
  exact (h x hx).1

end Go.Proofs.Ytoglgeinnocfjaa
