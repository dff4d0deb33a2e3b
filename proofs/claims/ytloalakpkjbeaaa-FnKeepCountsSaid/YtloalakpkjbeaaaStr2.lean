/-
  Marks in lists of texts; texts among what a statement has made; an argument that is a slice of texts.
-/
import Derived.Test.YtloalakpkjbeaaaStr
import Derived.Test.YtloalakpkjbeaaaOpen
import Derived.Deep.RegionHeld3
import Derived.Deep.Slices
namespace Go.Proofs.Ytloalakpkjbeaaa
open Go.RowKit
open Go.ChangeShapes Go.WideShapes Go.ChangeAt Go.Deep

def marksT (k : Nat) : Nat → List ByteArray
  | 0 => []
  | n + 1 => marksT k n ++ [markS (k + n)]
theorem marksT_length (k n : Nat) : (marksT k n).length = n := by
  induction n with
  | zero => rfl
  | succ n ih => simp [marksT, ih]
theorem marksT_get (k : Nat) : ∀ (n i : Nat) (h : i < (marksT k n).length), (marksT k n)[i] = markS (k + i) := by
  intro n
  induction n with
  | zero => intro i h; simp [marksT] at h
  | succ n ih =>
    intro i h
    rw [marksT_length] at h
    by_cases hi : i < n
    · have := ih i (by rw [marksT_length]; exact hi)
      simp only [marksT]
      rw [List.getElem_append_left (by rw [marksT_length]; exact hi)]
      exact this
    · obtain rfl : i = n := by omega
      simp only [marksT]
      rw [List.getElem_append_right (by rw [marksT_length]; exact Nat.le_refl _)]
      simp [marksT_length]
theorem marksT_ok (k n : Nat) (h : k + n ≤ 100000000) : okT (marksT k n) := by
  intro x hx
  obtain ⟨i, hi, rfl⟩ := List.mem_iff_getElem.1 hx
  rw [marksT_get]
  rw [marksT_length] at hi
  have := markS_size (k + i)
  omega

theorem markT_row {w w' : World} {B E g n cap : Nat} {xs : List ByteArray} {k i q : Nat} {C : Nat} (hlt : i < xs.length) (hq : q = k + i) (hC : w.heap.size ≤ C)
    (hown : w.ownsRow B E 1 (.slice (some ⟨g, 0, none⟩) n cap) n (cellsT (marksT k i ++ xs.drop i))) (hb : Below C w w') :
    (w'.setCell ⟨g, i, none⟩ (.string (markS q))).ownsRow B E 1 (.slice (some ⟨g, 0, none⟩) n cap) n (cellsT (marksT k (i + 1) ++ xs.drop (i + 1))) := by
  have h0 := ownsRow_below hown hb hC
  have h1 := (h0.stored i (.string (markS q))).1
  have hlen : (cellsT (marksT k i)).length = i := by rw [cellsT_length, marksT_length]
  have e : (cellsT (marksT k i ++ xs.drop i)).set i (.string (markS q)) = cellsT (marksT k (i + 1) ++ xs.drop (i + 1)) := by
    subst hq
    rw [List.drop_eq_getElem_cons hlt]
    simp only [cellsT, List.map_append, marksT, List.append_assoc, List.map_cons] at hlen ⊢
    rw [List.set_append_right _ _ (by omega), hlen, Nat.sub_self]
    rfl
  rw [e] at h1
  exact h1

/-! ### objects -/
def textsO (v : Value) (xs : List ByteArray) : Obj := ⟨v, 9, 1, xs.length, cellsT xs, okT xs⟩
theorem holdsT {w : World} {B : Nat} {v : Value} {xs : List ByteArray} (h : OwnT w B v xs) : (textsO v xs).holds w B := Obj.holds_of h.1 (fun h0 => by
  have : xs = [] := List.eq_nil_of_length_eq_zero h0
  subst this
  rfl) h.2
theorem Texts_none {w : World} {ao : Option Addr} {c : Nat} (hc : c ≤ 9223372036854775807) : Texts w (.slice ao 0 c) [] := ⟨ao, c, rfl, Nat.zero_le _, hc, fun x hx => by simp at hx, fun k hk => by simp at hk⟩
theorem Objs.newT {W w w' : World} {L : List Obj} {v : Value} {xs : List ByteArray} (H : Objs W w L) (ho : OwnT w' w.heap.size v xs) (hb : Below w.heap.size w w') : Objs W w' (textsO v xs :: L) := H.new (holdsT ho) hb
theorem Objs.ownT {W w : World} {L : List Obj} (H : Objs W w L) (i : Nat) {v : Value} {x : ByteArray} {xs : List ByteArray} (h : L[i]? = some (textsO v (x :: xs))) : OwnT w W.heap.size v (x :: xs) :=
  ⟨(H.own i _ h).1.1 (by simp [textsO]), (H.own i _ h).2⟩
theorem Objs.texts {W w : World} {L : List Obj} (H : Objs W w L) (i : Nat) {v : Value} {xs : List ByteArray} (h : L[i]? = some (textsO v xs)) : Texts w v xs := by
  cases xs with
  | nil =>
    obtain ⟨_, ao, c, e, hc⟩ := (H.own i _ h).1.2 rfl
    have e' : v = .slice ao 0 c := e
    rw [e']
    exact Texts_none hc
  | cons x r => exact (H.ownT i h).texts
theorem Objs.argT {W w : World} {L : List Obj} (H : Objs W w L) {v : Value} {xs : List ByteArray} (h : Texts W v xs) : Texts w v xs := h.mono H.below (Nat.le_refl _)
def MarkedT (W : World) (L : List Obj) (i : Nat) (v : Value) (k n : Nat) (e : Ending) (w' : World) : Prop :=
  ∃ m : Nat, e = .returned (.int .i64 (m : Int)) ∧ ¬ ((m : Int) < 0) ∧ Hid (m = k + n) ∧ Objs W w' (L.set i (textsO v (marksT k n)))
theorem cellsT_snoc (L : List ByteArray) (s : ByteArray) : cellsT (L ++ [s]) = cellsT L ++ [.string s] := by simp [cellsT]
end Go.Proofs.Ytloalakpkjbeaaa
