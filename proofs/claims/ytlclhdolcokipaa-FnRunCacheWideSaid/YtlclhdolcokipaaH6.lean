/-
  Mark.
-/
import Derived.Deep.RegionHeld3
import Derived.Test.YtlclhdolcokipaaH4
/-
  The statements' marks: a text for each number, written into a list and looked for there.
-/
namespace Go.Proofs.Ytlclhdolcokipaa
open Go.RowKit

def markL : Nat → Nat → List UInt8 → List UInt8
  | 0, _, acc => acc
  | f + 1, k, acc => if k = 0 then acc else markL f (k / 10) (UInt8.ofNat (48 + k % 10) :: acc)

/-- The text of a number's mark. -/
def markS (k : Nat) : ByteArray := ⟨(109 :: markL k k []).toArray⟩

theorem mark_step {f k k0 : Nat} {s : ByteArray} (hz : 0 < k) (hf : k ≤ f) (h : Hid (∃ acc : List UInt8, s = ⟨acc.toArray⟩ ∧ markL f k acc = markL k0 k0 [])) :
    Hid (∃ acc : List UInt8, strOfNums [48 + (k : Int) % 10] ++ s = ⟨acc.toArray⟩ ∧ markL (f - 1) (k / 10) acc = markL k0 k0 []) := by
  obtain ⟨acc, rfl, he⟩ := h.out
  obtain ⟨f, rfl⟩ : ∃ f', f = f' + 1 := ⟨f - 1, by omega⟩
  refine ⟨UInt8.ofNat (48 + k % 10) :: acc, ?_, ?_⟩
  · have e : (48 + (k : Int) % 10).toNat = 48 + k % 10 := by omega
    apply ByteArray.ext
    rw [ByteArray.data_append]
    simp [strOfNums, e]
  · rw [← he]
    conv => rhs; unfold markL
    rw [if_neg (by omega)]
    rfl
theorem mark_end (f : Nat) (acc : List UInt8) : markL f 0 acc = acc := by cases f <;> rfl

theorem own_shape0 {w : World} {B E S n : Nat} {v : Value} {xs : List Value} (h : w.ownsRow B E S v n xs) (hn : 0 < n) :
    ∃ g cap, v = .slice (some ⟨g, 0, none⟩) n cap ∧ n ≤ cap ∧ B ≤ g := by
  rcases h.2 with ⟨_, h'⟩ | ⟨g, cap, cur, rfl, hb, hg, hnc, hcm, hcs, htake⟩
  · omega
  · exact ⟨g, cap, rfl, hnc, hb⟩

theorem own_slice' {w : World} {B E S n : Nat} {v : Value} {xs : List Value} (h : w.ownsRow B E S v n xs) : ∃ ao cap, v = .slice ao n cap ∧ n ≤ cap ∧ cap ≤ 9223372036854775807 := by
  rcases h.2 with ⟨rfl, rfl⟩ | ⟨g, cap, cur, rfl, hb, hg, hnc, hcm, hcs, htake⟩
  · exact ⟨none, 0, rfl, Nat.le_refl _, by omega⟩
  · exact ⟨_, cap, rfl, hnc, by unfold maxLen at hcm; exact hcm⟩

theorem one_byte (w : World) (n : Int) : (convert 22 9 (.slice (some ⟨w.heap.size, 0, none⟩) 1 1)).run Try.prog (w.alloc (.cells #[.int .u8 n] 5)) = .ok (.string (strOfNums [n])) (w.alloc (.cells #[.int .u8 n] 5)) := by
  refine run_convert_bytes_arg (P := Try.prog) _ 22 5 Try.underlying22 Try.underlying5 w.heap.size 0 1 1 [n] rfl ?_ 9 Try.underlying9
  intro i hi
  obtain rfl : i = 0 := by omega
  simp

set_option maxHeartbeats 800000 in
theorem markText_any (k0 : Nat) (w : World) (hk : 0 < k0) (hk2 : k0 ≤ 100000000) :
    Calls Try.prog 96 #[.int .i64 k0] w fun e w' => e = .returned (.string (markS k0)) ∧ Below w.heap.size w w' := by
  go_enter Try.func96, Try.ntmps96
  go_wp2
  go_loopw [0, 3] (fun j x wr => ∃ (f k : Nat) (s : ByteArray), k ≤ f ∧ k ≤ k0 ∧ j = .int .i64 k ∧ x = .string s ∧ s.size + k ≤ k0 ∧ Hid (∃ acc : List UInt8, s = ⟨acc.toArray⟩ ∧ markL f k acc = markL k0 k0 []) ∧ Below w.heap.size w wr) (fun j _ _ => (intOf j).toNat)
  case atStart => exact ⟨k0, k0, ⟨#[]⟩, Nat.le_refl _, Nat.le_refl _, rfl, rfl, by show 0 + k0 ≤ k0; omega, ⟨[], rfl, rfl⟩, Below.refl _ _⟩
  case round =>
    obtain ⟨f, k, s, hf, hkk, rfl, rfl, hla, HM, hbl⟩ := hrel
    by_cases hz : 0 < k
    · have hcv := one_byte wr (48 + (k : Int) % 10)
      have hsz : (strOfNums [48 + (k : Int) % 10]).size = 1 := by rw [strOfNums_size]; rfl
      go_wp2
      have HM' := mark_step hz hf HM
      go_roundw
      case rel => exact ⟨f - 1, k / 10, _, by omega, by omega, by go_num, rfl, by rw [ByteArray.size_append, hsz]; omega, HM', hbl.alloc hbl.size _⟩
      case measure => simp [intOf]; omega
    · obtain rfl : k = 0 := by omega
      go_wp2
      go_ret
      refine ⟨?_, hbl⟩
      obtain ⟨acc, rfl, he⟩ := HM.out
      rw [mark_end] at he
      subst he
      rfl

/-! ### marks written -/
/-- The items that a marking from k on writes. -/
def marksI (k : Nat) : Nat → List Itm
  | 0 => []
  | n + 1 => marksI k n ++ [(markS (k + 2 * n), ((k + 2 * n + 1 : Nat) : Int))]
theorem marksI_length (k n : Nat) : (marksI k n).length = n := by
  induction n with
  | zero => rfl
  | succ n ih => simp [marksI, ih]
theorem marksI_get (k : Nat) : ∀ (n i : Nat) (h : i < (marksI k n).length), (marksI k n)[i] = (markS (k + 2 * i), ((k + 2 * i + 1 : Nat) : Int)) := by
  intro n
  induction n with
  | zero => intro i h; simp [marksI] at h
  | succ n ih =>
    intro i h
    rw [marksI_length] at h
    by_cases hi : i < n
    · have := ih i (by rw [marksI_length]; exact hi)
      simp only [marksI]
      rw [List.getElem_append_left (by rw [marksI_length]; exact hi)]
      exact this
    · obtain rfl : i = n := by omega
      simp only [marksI]
      rw [List.getElem_append_right (by rw [marksI_length]; exact Nat.le_refl _)]
      simp [marksI_length]

theorem markL_len : ∀ (f k : Nat) (acc : List UInt8), (markL f k acc).length ≤ acc.length + f
  | 0, _, acc => by simp [markL]
  | f + 1, k, acc => by
    unfold markL
    split
    · omega
    · have := markL_len f (k / 10) (UInt8.ofNat (48 + k % 10) :: acc)
      simp only [List.length_cons] at this
      omega
theorem markS_size (k : Nat) : (markS k).size ≤ k + 1 := by
  have := markL_len k k []
  simp only [List.length_nil] at this
  show (109 :: markL k k []).toArray.size ≤ k + 1
  simp only [List.size_toArray, List.length_cons]
  omega

theorem marks_ok (k n : Nat) (h : k + 2 * n ≤ 100000000) : okI (marksI k n) := by
  intro x hx
  obtain ⟨i, hi, rfl⟩ := List.mem_iff_getElem.1 hx
  rw [marksI_get]
  rw [marksI_length] at hi
  have := markS_size (k + 2 * i)
  exact ⟨by show (markS (k + 2 * i)).size ≤ _; omega, by show _ ≤ ((k + 2 * i + 1 : Nat) : Int); omega, by show ((k + 2 * i + 1 : Nat) : Int) ≤ _; omega⟩

theorem cellsI_append (a b : List Itm) : cellsI (a ++ b) = cellsI a ++ cellsI b := by simp [cellsI]

/-- One item marked. -/
theorem cellsI_mid (a : List Itm) (x : Itm) (r : List Itm) : cellsI (a ++ x :: r) = cellsI a ++ (.string x.1 :: .int .i64 x.2 :: cellsI r) := by simp [cellsI]

theorem mark_row {w w' : World} {B E g n cap : Nat} {xs : List Itm} {k i q : Nat} {C : Nat} (hlt : i < xs.length) (hq : q = k + 2 * i) (hC : w.heap.size ≤ C)
    (hown : w.ownsRow B E 2 (.slice (some ⟨g, 0, none⟩) n cap) n (cellsI (marksI k i ++ xs.drop i))) (hb : Below C w w') :
    ((w'.setCell ⟨g, i * 2, none⟩ (.string (markS q))).setCell ⟨g, i * 2 + 1, none⟩ (.int .i64 ((q : Int) + 1))).ownsRow B E 2 (.slice (some ⟨g, 0, none⟩) n cap) n (cellsI (marksI k (i + 1) ++ xs.drop (i + 1))) := by
  have h0 := ownsRow_below hown hb hC
  have h1 := (h0.stored (i * 2) (.string (markS q))).1
  have h2 := (h1.stored (i * 2 + 1) (.int .i64 ((q : Int) + 1))).1
  have hlen : (cellsI (marksI k i)).length = i * 2 := by rw [cellsI_length, marksI_length]
  have e : ((cellsI (marksI k i ++ xs.drop i)).set (i * 2) (.string (markS q))).set (i * 2 + 1) (.int .i64 ((q : Int) + 1)) = cellsI (marksI k (i + 1) ++ xs.drop (i + 1)) := by
    have em : marksI k (i + 1) ++ xs.drop (i + 1) = marksI k i ++ (markS q, (q : Int) + 1) :: xs.drop (i + 1) := by
      subst hq
      simp only [marksI, List.append_assoc, List.singleton_append]
      rfl
    rw [em, List.drop_eq_getElem_cons hlt, cellsI_mid, cellsI_mid, List.set_append_right _ _ (by omega), List.set_append_right _ _ (by omega), hlen, Nat.sub_self, show i * 2 + 1 - i * 2 = 1 from by omega]
    rfl
  rw [e] at h2
  exact h2

/-- Of what was there nothing has turned but the row of v. -/
structure ButRow (v : Value) (w w' : World) : Prop where
  os : w'.os = w.os
  tape : w'.tape = w.tape
  output : w'.output = w.output
  size : w.heap.size ≤ w'.heap.size
  block : ∀ j, j < w.heap.size → v.ownBlock ≠ some j → w'.heap[j]? = w.heap[j]?
theorem ButRow.refl (v : Value) (w : World) : ButRow v w w := ⟨rfl, rfl, rfl, Nat.le_refl _, fun _ _ _ => rfl⟩
theorem ButRow.below {v : Value} {w w' w'' : World} (h : ButRow v w w') (hb : Below w'.heap.size w' w'') : ButRow v w w'' :=
  ⟨hb.os.trans h.os, hb.tape.trans h.tape, hb.output.trans h.output, Nat.le_trans h.size hb.size, fun j hj hv => (hb.block j (Nat.lt_of_lt_of_le hj h.size)).trans (h.block j hj hv)⟩
theorem ButRow.setCell {v : Value} {w w' : World} {g o : Nat} (h : ButRow v w w') (hg : v.ownBlock = some g) (u : Value) : ButRow v w (w'.setCell ⟨g, o, none⟩ u) :=
  ⟨h.os, h.tape, h.output, by have := h.size; simpa using this, fun j hj hv => (Below.heap_setCell _ _ _ _ (fun e => hv (by rw [hg, e]))).trans (h.block j hj hv)⟩
theorem ButRow.own {v u : Value} {w w' : World} {B E S n : Nat} {xs : List Value} (h : ButRow v w w') (ho : w.ownsRow B E S u n xs) (hne : ∀ g, u.ownBlock = some g → v.ownBlock ≠ some g) : w'.ownsRow B E S u n xs := by
  refine ⟨ho.1, ?_⟩
  rcases ho.2 with h2 | ⟨g, cap, cur, rfl, hg, hh, r⟩
  · exact .inl h2
  · exact .inr ⟨g, cap, cur, rfl, hg, (h.block g (Array.getElem?_eq_some_iff.1 hh).1 (hne g rfl)).trans hh, r⟩
theorem ButRow.toBelow {v : Value} {w w' : World} {B : Nat} (h : ButRow v w w') (hv : ∀ g, v.ownBlock = some g → B ≤ g) (hB : B ≤ w.heap.size) : Below B w w' :=
  ⟨h.os, h.tape, h.output, h.size, fun k hk => h.block k (Nat.lt_of_lt_of_le hk hB) (fun e => by have := hv k e; omega)⟩

def MarkPost (E : Nat) (B : Nat) (v : Value) (k n : Nat) (w : World) (e : Ending) (w' : World) : Prop :=
  e = .returned (.int .i64 ((k + 2 * n : Nat) : Int)) ∧ OwnI E w' B v (marksI k n) ∧ ButRow v w w'

set_option maxHeartbeats 1600000 in
theorem markItemS_any (B : Nat) (v : Value) (xs : List Itm) (k0 : Nat) (w : World) (h : OwnI 43 w B v xs) (hk : 0 < k0) (hk2 : k0 + 2 * xs.length ≤ 100000000) :
    Calls Try.prog 43 #[v, .int .i64 k0] w (MarkPost 43 B v k0 xs.length w) := by
  have hok := Lib.hid h.2
  have hown := h.1
  obtain ⟨ao, cap, rfl, hlc, hcm⟩ := own_slice' hown
  go_enter Try.func43, Try.ntmps43
  go_wp2
  go_loopw [1, 5] (fun c i wr => ∃ k q : Nat, k ≤ xs.length ∧ i = .int .i64 k ∧ c = .int .i64 q ∧ Hid (q = k0 + 2 * k) ∧ wr.ownsRow B 43 2 (.slice ao xs.length cap) xs.length (cellsI (marksI k0 k ++ xs.drop k)) ∧
      ButRow (.slice ao xs.length cap) w wr) (fun _ i _ => xs.length - (intOf i).toNat)
  case atStart => exact ⟨0, k0, Nat.zero_le _, rfl, rfl, rfl, hown, ButRow.refl _ _⟩
  case round =>
    obtain ⟨k, q, hk', rfl, rfl, HQ, hrow, hfr⟩ := hrel
    by_cases hlt : k < xs.length
    · obtain ⟨g, cap', e, hgc, hgB⟩ := own_shape0 hrow (by omega)
      simp only [Value.slice.injEq] at e
      obtain ⟨rfl, _, rfl⟩ := e
      have hq0 : 0 < q := by have := HQ.out; omega
      have hq1 : q ≤ 100000000 := by have := HQ.out; omega
      have HF := Lib.hid hfr
      have HR := Lib.hid hrow
      clear hfr hrow hown
      go_wp2_with (go_at_call 96; refine (markText_any q _ hq0 hq1).mono ?_; rintro e w2 ⟨rfl, hb2⟩; have hr2 := ownsRow_below HR.out hb2 (Nat.le_refl _); obtain ⟨u1, c1⟩ := row_cell hr2 (j := k * 2) (by omega); obtain ⟨u2, c2⟩ := row_cell hr2 (j := k * 2 + 1) (by omega); have f1 := hr2.frozenAt (k * 2); have f2 := hr2.frozenAt (k * 2 + 1); clear hr2)
      have hr3 := mark_row hlt HQ.out (Nat.le_refl _) HR.out hb2
      have hf3 := (((HF.out.below hb2).setCell (o := k * 2) (g := g) (by rfl) (.string (markS q))).setCell (o := k * 2 + 1) (g := g) (by rfl) (.int .i64 ((q : Int) + 1)))
      clear c1 c2 f1 f2
      go_roundw
      case rel => exact ⟨k + 1, q + 2, by omega, by go_num, by go_num, by have := HQ.out; unfold Hid; omega, hr3, hf3⟩
      case measure => simp [intOf]; omega
    · obtain rfl : k = xs.length := by omega
      go_wp2
      go_ret
      rw [List.drop_length, List.append_nil] at hrow
      refine ⟨ret_int (by have := HQ.out; omega), ⟨by rw [marksI_length]; exact hrow, marks_ok k0 xs.length hk2⟩, hfr⟩

/-! ### marks looked for -/
theorem held_step {w w1 w2 : World} {b p : Nat} {s : Value} {n : Value} (h : w1.cell? ⟨b, p, none⟩ = some s ∧ w1.cell? ⟨b, p + 1, none⟩ = some n ∧ Below w.heap.size w w1) (hb : b < w.heap.size) (_ : b < w.heap.size) (hb2 : Below w1.heap.size w1 w2) :
    w2.cell? ⟨b, p, none⟩ = some s ∧ w2.cell? ⟨b, p + 1, none⟩ = some n ∧ Below w.heap.size w w2 := by
  obtain ⟨h1, h2, h3⟩ := h
  exact ⟨(hb2.cell (Nat.lt_of_lt_of_le hb h3.size)).trans h1, (hb2.cell (Nat.lt_of_lt_of_le hb h3.size)).trans h2, h3.trans (hb2.mono h3.size)⟩
set_option maxHeartbeats 1600000 in
theorem heldItemS_any (v : Value) (n k0 : Nat) (w : World) (h : Items w v (marksI k0 n)) (hk : 0 < k0) (hk2 : k0 + 2 * n ≤ 100000000) :
    Calls Try.prog 44 #[v, .int .i64 k0] w fun e w' => e = .returned (.int .i64 ((k0 + 2 * n : Nat) : Int)) ∧ Below w.heap.size w w' := by
  obtain ⟨ao, cap, rfl, hlc, hcm, hok, hcell⟩ := h
  have hcell' : ∀ k, k < n → ∃ b o, ao = some ⟨b, o, none⟩ ∧ b < w.heap.size ∧ w.cell? ⟨b, o + k * 2, none⟩ = some (.string (markS (k0 + 2 * k))) ∧ w.cell? ⟨b, o + k * 2 + 1, none⟩ = some (.int .i64 ((k0 + 2 * k + 1 : Nat) : Int)) := by
    intro k hkn
    obtain ⟨b, o, h1, h2, h3, h4⟩ := hcell k (by rw [marksI_length]; exact hkn)
    rw [marksI_get] at h3 h4
    exact ⟨b, o, h1, h2, h3, h4⟩
  rw [marksI_length] at hlc ⊢
  clear hcell hok
  go_enter Try.func44, Try.ntmps44
  go_wp2
  go_loopw [1, 5] (fun c i wr => ∃ k q : Nat, k ≤ n ∧ i = .int .i64 k ∧ c = .int .i64 q ∧ Hid (q = k0 + 2 * k) ∧ Below w.heap.size w wr) (fun _ i _ => n - (intOf i).toNat)
  case atStart => exact ⟨0, k0, Nat.zero_le _, rfl, rfl, rfl, Below.refl _ _⟩
  case round =>
    obtain ⟨k, q, hk', rfl, rfl, HQ, hbl⟩ := hrel
    by_cases hlt : k < n
    · obtain ⟨b, o, rfl, hb, h1, h2⟩ := hcell' k hlt
      have c1 := (hbl.cell (p := ⟨b, _, none⟩) hb).trans h1
      have c2 := (hbl.cell (p := ⟨b, _, none⟩) hb).trans h2
      have hq0 : 0 < q := by have := HQ.out; omega
      have hq1 : q ≤ 100000000 := by have := HQ.out; omega
      rw [← HQ.out] at c1 c2
      clear h1 h2
      go_wp2_with fail
      go_region_held3 (fun w' : World => w'.cell? ⟨b, o + k * 2, none⟩ = some (.string (markS q)) ∧ w'.cell? ⟨b, o + k * 2 + 1, none⟩ = some (.int .i64 ((q + 1 : Nat) : Int)) ∧ Below w.heap.size w w') (first | exact ⟨c1, c2, hbl.drew⟩ | assumption | exact hS2) (first | (go_at_call 96; refine (markText_any q _ hq0 hq1).mono ?_; rintro e w2 ⟨rfl, hb2⟩; have hS2 := held_step (by assumption) hb hb hb2))
      go_split_ands
      go_wp2
      go_roundw
      case rel => exact ⟨k + 1, q + 2, by omega, by go_num, by go_num, by have := HQ.out; unfold Hid; omega, by assumption⟩
      case measure => simp [intOf]; omega
    · obtain rfl : k = n := by omega
      go_wp2
      go_ret
      exact ⟨ret_int (by have := HQ.out; omega), hbl⟩
end Go.Proofs.Ytlclhdolcokipaa
