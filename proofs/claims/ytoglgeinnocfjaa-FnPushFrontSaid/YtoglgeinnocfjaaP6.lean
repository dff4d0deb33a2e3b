/-
  Mark.
-/
import Derived.Deep.RegionHeld3
import Derived.Test.YtoglgeinnocfjaaP4
/-
  The statements' marks: a text for each number, written into a list and looked for there.
-/
namespace Go.Proofs.Ytoglgeinnocfjaa
open Go.RowKit

def markL : Nat → Nat → List UInt8 → List UInt8
  | 0, _, acc => acc
  | f + 1, k, acc => if k = 0 then acc else markL f (k / 10) (UInt8.ofNat (48 + k % 10) :: acc)

/-- The text of a number's mark. -/
def markS (k : Nat) : ByteArray := ⟨(109 :: markL k k []).toArray⟩

theorem mark_step {f k k0 : Nat} {s : ByteArray} (hz : 0 < k) (hf : k ≤ f) (h : Hid (∃ acc : List UInt8, s = ⟨acc.toArray⟩ ∧ markL f k acc = markL k0 k0 [])) :
    Hid (∃ acc : List UInt8, strOfNums [48 + (k : Int) % 10] ++ s = ⟨acc.toArray⟩ ∧ markL (f - 1) (k / 10) acc = markL k0 k0 []) := by
  obtain ⟨acc, rfl, he⟩ := h.out
  obtain ⟨f, rfl⟩ : ∃ f', f = f' + 1 := ⟨f - 1, by omega⟩
  refine ⟨UInt8.ofNat (48 + k % 10) :: acc, ?_, ?_⟩
  · have e : (48 + (k : Int) % 10).toNat = 48 + k % 10 := by omega
    apply ByteArray.ext
    rw [ByteArray.data_append]
    simp [strOfNums, e]
  · rw [← he]
    conv => rhs; unfold markL
    rw [if_neg (by omega)]
    rfl
theorem mark_end (f : Nat) (acc : List UInt8) : markL f 0 acc = acc := by cases f <;> rfl

theorem own_shape0 {w : World} {B E S n : Nat} {v : Value} {xs : List Value} (h : w.ownsRow B E S v n xs) (hn : 0 < n) :
    ∃ g cap, v = .slice (some ⟨g, 0, none⟩) n cap ∧ n ≤ cap ∧ B ≤ g := by
  rcases h.2 with ⟨_, h'⟩ | ⟨g, cap, cur, rfl, hb, hg, hnc, hcm, hcs, htake⟩
  · omega
  · exact ⟨g, cap, rfl, hnc, hb⟩

theorem own_slice' {w : World} {B E S n : Nat} {v : Value} {xs : List Value} (h : w.ownsRow B E S v n xs) : ∃ ao cap, v = .slice ao n cap ∧ n ≤ cap ∧ cap ≤ 9223372036854775807 := by
  rcases h.2 with ⟨rfl, rfl⟩ | ⟨g, cap, cur, rfl, hb, hg, hnc, hcm, hcs, htake⟩
  · exact ⟨none, 0, rfl, Nat.le_refl _, by omega⟩
  · exact ⟨_, cap, rfl, hnc, by unfold maxLen at hcm; exact hcm⟩

theorem one_byte (w : World) (n : Int) : (convert 22 9 (.slice (some ⟨w.heap.size, 0, none⟩) 1 1)).run Try.prog (w.alloc (.cells #[.int .u8 n] 5)) = .ok (.string (strOfNums [n])) (w.alloc (.cells #[.int .u8 n] 5)) := by
  refine run_convert_bytes_arg (P := Try.prog) _ 22 5 Try.underlying22 Try.underlying5 w.heap.size 0 1 1 [n] rfl ?_ 9 Try.underlying9
  intro i hi
  obtain rfl : i = 0 := by omega
  simp

/-! ### marks written -/
/-- The items that a marking from k on writes. -/
def marksI (k : Nat) : Nat → List Itm
  | 0 => []
  | n + 1 => marksI k n ++ [(markS (k + 2 * n), ((k + 2 * n + 1 : Nat) : Int))]
theorem marksI_length (k n : Nat) : (marksI k n).length = n := by
  induction n with
  | zero => rfl
  | succ n ih => simp [marksI, ih]
theorem marksI_get (k : Nat) : ∀ (n i : Nat) (h : i < (marksI k n).length), (marksI k n)[i] = (markS (k + 2 * i), ((k + 2 * i + 1 : Nat) : Int)) := by
  intro n
  induction n with
  | zero => intro i h; simp [marksI] at h
  | succ n ih =>
    intro i h
    rw [marksI_length] at h
    by_cases hi : i < n
    · have := ih i (by rw [marksI_length]; exact hi)
      simp only [marksI]
      rw [List.getElem_append_left (by rw [marksI_length]; exact hi)]
      exact this
    · obtain rfl : i = n := by omega
      simp only [marksI]
      rw [List.getElem_append_right (by rw [marksI_length]; exact Nat.le_refl _)]
      simp [marksI_length]

theorem markL_len : ∀ (f k : Nat) (acc : List UInt8), (markL f k acc).length ≤ acc.length + f
  | 0, _, acc => by simp [markL]
  | f + 1, k, acc => by
    unfold markL
    split
    · omega
    · have := markL_len f (k / 10) (UInt8.ofNat (48 + k % 10) :: acc)
      simp only [List.length_cons] at this
      omega
theorem markS_size (k : Nat) : (markS k).size ≤ k + 1 := by
  have := markL_len k k []
  simp only [List.length_nil] at this
  show (109 :: markL k k []).toArray.size ≤ k + 1
  simp only [List.size_toArray, List.length_cons]
  omega

theorem marks_ok (k n : Nat) (h : k + 2 * n ≤ 100000000) : okI (marksI k n) := by
  intro x hx
  obtain ⟨i, hi, rfl⟩ := List.mem_iff_getElem.1 hx
  rw [marksI_get]
  rw [marksI_length] at hi
  have := markS_size (k + 2 * i)
  exact ⟨by show (markS (k + 2 * i)).size ≤ _; omega, by show _ ≤ ((k + 2 * i + 1 : Nat) : Int); omega, by show ((k + 2 * i + 1 : Nat) : Int) ≤ _; omega⟩

theorem cellsI_append (a b : List Itm) : cellsI (a ++ b) = cellsI a ++ cellsI b := by simp [cellsI]

/-- One item marked. -/
theorem cellsI_mid (a : List Itm) (x : Itm) (r : List Itm) : cellsI (a ++ x :: r) = cellsI a ++ (.string x.1 :: .int .i64 x.2 :: cellsI r) := by simp [cellsI]

theorem mark_row {w w' : World} {B E g n cap : Nat} {xs : List Itm} {k i q : Nat} {C : Nat} (hlt : i < xs.length) (hq : q = k + 2 * i) (hC : w.heap.size ≤ C)
    (hown : w.ownsRow B E 2 (.slice (some ⟨g, 0, none⟩) n cap) n (cellsI (marksI k i ++ xs.drop i))) (hb : Below C w w') :
    ((w'.setCell ⟨g, i * 2, none⟩ (.string (markS q))).setCell ⟨g, i * 2 + 1, none⟩ (.int .i64 ((q : Int) + 1))).ownsRow B E 2 (.slice (some ⟨g, 0, none⟩) n cap) n (cellsI (marksI k (i + 1) ++ xs.drop (i + 1))) := by
  have h0 := ownsRow_below hown hb hC
  have h1 := (h0.stored (i * 2) (.string (markS q))).1
  have h2 := (h1.stored (i * 2 + 1) (.int .i64 ((q : Int) + 1))).1
  have hlen : (cellsI (marksI k i)).length = i * 2 := by rw [cellsI_length, marksI_length]
  have e : ((cellsI (marksI k i ++ xs.drop i)).set (i * 2) (.string (markS q))).set (i * 2 + 1) (.int .i64 ((q : Int) + 1)) = cellsI (marksI k (i + 1) ++ xs.drop (i + 1)) := by
    have em : marksI k (i + 1) ++ xs.drop (i + 1) = marksI k i ++ (markS q, (q : Int) + 1) :: xs.drop (i + 1) := by
      subst hq
      simp only [marksI, List.append_assoc, List.singleton_append]
      rfl
    rw [em, List.drop_eq_getElem_cons hlt, cellsI_mid, cellsI_mid, List.set_append_right _ _ (by omega), List.set_append_right _ _ (by omega), hlen, Nat.sub_self, show i * 2 + 1 - i * 2 = 1 from by omega]
    rfl
  rw [e] at h2
  exact h2

/-- Of what was there nothing has turned but the row of v. -/
structure ButRow (v : Value) (w w' : World) : Prop where
  os : w'.os = w.os
  tape : w'.tape = w.tape
  output : w'.output = w.output
  size : w.heap.size ≤ w'.heap.size
  block : ∀ j, j < w.heap.size → v.ownBlock ≠ some j → w'.heap[j]? = w.heap[j]?
theorem ButRow.refl (v : Value) (w : World) : ButRow v w w := ⟨rfl, rfl, rfl, Nat.le_refl _, fun _ _ _ => rfl⟩
theorem ButRow.below {v : Value} {w w' w'' : World} (h : ButRow v w w') (hb : Below w'.heap.size w' w'') : ButRow v w w'' :=
  ⟨hb.os.trans h.os, hb.tape.trans h.tape, hb.output.trans h.output, Nat.le_trans h.size hb.size, fun j hj hv => (hb.block j (Nat.lt_of_lt_of_le hj h.size)).trans (h.block j hj hv)⟩
theorem ButRow.setCell {v : Value} {w w' : World} {g o : Nat} (h : ButRow v w w') (hg : v.ownBlock = some g) (u : Value) : ButRow v w (w'.setCell ⟨g, o, none⟩ u) :=
  ⟨h.os, h.tape, h.output, by have := h.size; simpa using this, fun j hj hv => (Below.heap_setCell _ _ _ _ (fun e => hv (by rw [hg, e]))).trans (h.block j hj hv)⟩
theorem ButRow.own {v u : Value} {w w' : World} {B E S n : Nat} {xs : List Value} (h : ButRow v w w') (ho : w.ownsRow B E S u n xs) (hne : ∀ g, u.ownBlock = some g → v.ownBlock ≠ some g) : w'.ownsRow B E S u n xs := by
  refine ⟨ho.1, ?_⟩
  rcases ho.2 with h2 | ⟨g, cap, cur, rfl, hg, hh, r⟩
  · exact .inl h2
  · exact .inr ⟨g, cap, cur, rfl, hg, (h.block g (Array.getElem?_eq_some_iff.1 hh).1 (hne g rfl)).trans hh, r⟩
theorem ButRow.toBelow {v : Value} {w w' : World} {B : Nat} (h : ButRow v w w') (hv : ∀ g, v.ownBlock = some g → B ≤ g) (hB : B ≤ w.heap.size) : Below B w w' :=
  ⟨h.os, h.tape, h.output, h.size, fun k hk => h.block k (Nat.lt_of_lt_of_le hk hB) (fun e => by have := hv k e; omega)⟩

def MarkPost (E : Nat) (B : Nat) (v : Value) (k n : Nat) (w : World) (e : Ending) (w' : World) : Prop :=
  e = .returned (.int .i64 ((k + 2 * n : Nat) : Int)) ∧ OwnI E w' B v (marksI k n) ∧ ButRow v w w'

/-! ### marks looked for -/
theorem held_step {w w1 w2 : World} {b p : Nat} {s : Value} {n : Value} (h : w1.cell? ⟨b, p, none⟩ = some s ∧ w1.cell? ⟨b, p + 1, none⟩ = some n ∧ Below w.heap.size w w1) (hb : b < w.heap.size) (_ : b < w.heap.size) (hb2 : Below w1.heap.size w1 w2) :
    w2.cell? ⟨b, p, none⟩ = some s ∧ w2.cell? ⟨b, p + 1, none⟩ = some n ∧ Below w.heap.size w w2 := by
  obtain ⟨h1, h2, h3⟩ := h
  exact ⟨(hb2.cell (Nat.lt_of_lt_of_le hb h3.size)).trans h1, (hb2.cell (Nat.lt_of_lt_of_le hb h3.size)).trans h2, h3.trans (hb2.mono h3.size)⟩
end Go.Proofs.Ytoglgeinnocfjaa
