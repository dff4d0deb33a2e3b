/-
  Marks in lists of texts; texts among what a statement has made; an argument that is a slice of texts.
-/
import Derived.Test.YtfocobgceelnoaaStr
import Derived.Test.YtfocobgceelnoaaOpen
import Derived.Deep.RegionHeld3
import Derived.Deep.Slices
namespace Go.Proofs.Ytfocobgceelnoaa
open Go.RowKit
open Go.ChangeShapes Go.WideShapes Go.ChangeAt Go.Deep

def marksT (k : Nat) : Nat → List ByteArray
  | 0 => []
  | n + 1 => marksT k n ++ [markS (k + n)]
theorem marksT_length (k n : Nat) : (marksT k n).length = n := by
  induction n with
  | zero => rfl
  | succ n ih => simp [marksT, ih]
theorem marksT_get (k : Nat) : ∀ (n i : Nat) (h : i < (marksT k n).length), (marksT k n)[i] = markS (k + i) := by
  intro n
  induction n with
  | zero => intro i h; simp [marksT] at h
  | succ n ih =>
    intro i h
    rw [marksT_length] at h
    by_cases hi : i < n
    · have := ih i (by rw [marksT_length]; exact hi)
      simp only [marksT]
      rw [List.getElem_append_left (by rw [marksT_length]; exact hi)]
      exact this
    · obtain rfl : i = n := by omega
      simp only [marksT]
      rw [List.getElem_append_right (by rw [marksT_length]; exact Nat.le_refl _)]
      simp [marksT_length]
theorem marksT_ok (k n : Nat) (h : k + n ≤ 100000000) : okT (marksT k n) := by
  intro x hx
  obtain ⟨i, hi, rfl⟩ := List.mem_iff_getElem.1 hx
  rw [marksT_get]
  rw [marksT_length] at hi
  have := markS_size (k + i)
  omega

theorem markT_row {w w' : World} {B E g n cap : Nat} {xs : List ByteArray} {k i q : Nat} {C : Nat} (hlt : i < xs.length) (hq : q = k + i) (hC : w.heap.size ≤ C)
    (hown : w.ownsRow B E 1 (.slice (some ⟨g, 0, none⟩) n cap) n (cellsT (marksT k i ++ xs.drop i))) (hb : Below C w w') :
    (w'.setCell ⟨g, i, none⟩ (.string (markS q))).ownsRow B E 1 (.slice (some ⟨g, 0, none⟩) n cap) n (cellsT (marksT k (i + 1) ++ xs.drop (i + 1))) := by
  have h0 := ownsRow_below hown hb hC
  have h1 := (h0.stored i (.string (markS q))).1
  have hlen : (cellsT (marksT k i)).length = i := by rw [cellsT_length, marksT_length]
  have e : (cellsT (marksT k i ++ xs.drop i)).set i (.string (markS q)) = cellsT (marksT k (i + 1) ++ xs.drop (i + 1)) := by
    subst hq
    rw [List.drop_eq_getElem_cons hlt]
    simp only [cellsT, List.map_append, marksT, List.append_assoc, List.map_cons] at hlen ⊢
    rw [List.set_append_right _ _ (by omega), hlen, Nat.sub_self]
    rfl
  rw [e] at h1
  exact h1

set_option maxHeartbeats 1600000 in
set_option maxRecDepth 100000 in
theorem markStringS_any (B : Nat) (v : Value) (xs : List ByteArray) (k0 : Nat) (w : World) (h : OwnT w B v xs) (hk : 0 < k0) (hk2 : k0 + xs.length ≤ 100000000) :
    Calls Try.prog 34 #[v, .int .i64 k0] w fun e w' => e = .returned (.int .i64 ((k0 + xs.length : Nat) : Int)) ∧ OwnT w' B v (marksT k0 xs.length) ∧ ButRow v w w' := by
  have hok := Lib.hid h.2
  have hown := h.1
  obtain ⟨ao, cap, rfl, hlc, hcm⟩ := own_slice' hown
  go_enter Try.func34, Try.ntmps34
  go_wp2
  go_loopw [1, 5] (fun c i wr => ∃ k q : Nat, k ≤ xs.length ∧ i = .int .i64 k ∧ c = .int .i64 q ∧ Hid (q = k0 + k) ∧ wr.ownsRow B 9 1 (.slice ao xs.length cap) xs.length (cellsT (marksT k0 k ++ xs.drop k)) ∧
      ButRow (.slice ao xs.length cap) w wr) (fun _ i _ => xs.length - (intOf i).toNat)
  case atStart => exact ⟨0, k0, Nat.zero_le _, rfl, rfl, rfl, hown, ButRow.refl _ _⟩
  case round =>
    obtain ⟨k, q, hk', rfl, rfl, HQ, hrow, hfr⟩ := hrel
    by_cases hlt : k < xs.length
    · obtain ⟨g, cap', e, hgc, hgB⟩ := own_shape0 hrow (by omega)
      simp only [Value.slice.injEq] at e
      obtain ⟨rfl, _, rfl⟩ := e
      have hq0 : 0 < q := by have := HQ.out; omega
      have hq1 : q ≤ 100000000 := by have := HQ.out; omega
      have HF := Lib.hid hfr
      have HR := Lib.hid hrow
      clear hfr hrow hown
      go_wp2_with (go_at_call 65; refine (markText_any q _ hq0 hq1).mono ?_; rintro e w2 ⟨rfl, hb2⟩; have hr2 := ownsRow_below HR.out hb2 (Nat.le_refl _); obtain ⟨u1, c1⟩ := row_cell hr2 (j := k) (by omega); have f1 := hr2.frozenAt k; clear hr2)
      have hr3 := markT_row hlt HQ.out (Nat.le_refl _) HR.out hb2
      have hf3 := (HF.out.below hb2).setCell (o := k) (g := g) (by rfl) (.string (markS q))
      clear c1 f1
      go_roundw
      case rel => exact ⟨k + 1, q + 1, by omega, by go_num, by go_num, by have := HQ.out; unfold Hid; omega, hr3, hf3⟩
      case measure => simp [intOf]; omega
    · obtain rfl : k = xs.length := by omega
      go_wp2
      go_ret
      rw [List.drop_length, List.append_nil] at hrow
      refine ⟨ret_int (by have := HQ.out; omega), ⟨by rw [marksT_length]; exact hrow, marksT_ok k0 xs.length hk2⟩, hfr⟩

theorem heldT_step {w w1 w2 : World} {b p : Nat} {s : Value} (h : w1.cell? ⟨b, p, none⟩ = some s ∧ Below w.heap.size w w1) (hb : b < w.heap.size) (hb2 : Below w1.heap.size w1 w2) :
    w2.cell? ⟨b, p, none⟩ = some s ∧ Below w.heap.size w w2 := by
  obtain ⟨h1, h3⟩ := h
  exact ⟨(hb2.cell (Nat.lt_of_lt_of_le hb h3.size)).trans h1, h3.trans (hb2.mono h3.size)⟩
set_option maxHeartbeats 1600000 in
set_option maxRecDepth 100000 in
theorem heldStringS_any (v : Value) (n k0 : Nat) (w : World) (h : Texts w v (marksT k0 n)) (hk : 0 < k0) (hk2 : k0 + n ≤ 100000000) :
    Calls Try.prog 35 #[v, .int .i64 k0] w fun e w' => e = .returned (.int .i64 ((k0 + n : Nat) : Int)) ∧ Below w.heap.size w w' := by
  obtain ⟨ao, cap, rfl, hlc, hcm, hok, hcell⟩ := h
  have hcell' : ∀ k, k < n → ∃ b o, ao = some ⟨b, o, none⟩ ∧ b < w.heap.size ∧ w.cell? ⟨b, o + k, none⟩ = some (.string (markS (k0 + k))) := by
    intro k hkn
    obtain ⟨b, o, h1, h2, h3⟩ := hcell k (by rw [marksT_length]; exact hkn)
    rw [marksT_get] at h3
    exact ⟨b, o, h1, h2, h3⟩
  rw [marksT_length] at hlc ⊢
  clear hcell hok
  go_enter Try.func35, Try.ntmps35
  go_wp2
  go_loopw [1, 5] (fun c i wr => ∃ k q : Nat, k ≤ n ∧ i = .int .i64 k ∧ c = .int .i64 q ∧ Hid (q = k0 + k) ∧ Below w.heap.size w wr) (fun _ i _ => n - (intOf i).toNat)
  case atStart => exact ⟨0, k0, Nat.zero_le _, rfl, rfl, rfl, Below.refl _ _⟩
  case round =>
    obtain ⟨k, q, hk', rfl, rfl, HQ, hbl⟩ := hrel
    by_cases hlt : k < n
    · obtain ⟨b, o, rfl, hb, h1⟩ := hcell' k hlt
      have c1 := (hbl.cell (p := ⟨b, _, none⟩) hb).trans h1
      have hq0 : 0 < q := by have := HQ.out; omega
      have hq1 : q ≤ 100000000 := by have := HQ.out; omega
      rw [← HQ.out] at c1
      clear h1
      go_wp2_with fail
      go_region_held3 (fun w' : World => w'.cell? ⟨b, o + k, none⟩ = some (.string (markS q)) ∧ Below w.heap.size w w') (first | exact ⟨c1, hbl.drew⟩ | assumption | exact hS2) (first | (go_at_call 65; refine (markText_any q _ hq0 hq1).mono ?_; rintro e w2 ⟨rfl, hb2⟩; have hS2 := heldT_step (by assumption) hb hb2))
      go_split_ands
      go_wp2
      go_roundw
      case rel => exact ⟨k + 1, q + 1, by omega, by go_num, by go_num, by have := HQ.out; unfold Hid; omega, by assumption⟩
      case measure => simp [intOf]; omega
    · obtain rfl : k = n := by omega
      go_wp2
      go_ret
      exact ⟨ret_int (by have := HQ.out; omega), hbl⟩
/-! ### objects -/
def textsO (v : Value) (xs : List ByteArray) : Obj := ⟨v, 9, 1, xs.length, cellsT xs, okT xs⟩
theorem holdsT {w : World} {B : Nat} {v : Value} {xs : List ByteArray} (h : OwnT w B v xs) : (textsO v xs).holds w B := Obj.holds_of h.1 (fun h0 => by
  have : xs = [] := List.eq_nil_of_length_eq_zero h0
  subst this
  rfl) h.2
theorem Texts_none {w : World} {ao : Option Addr} {c : Nat} (hc : c ≤ 9223372036854775807) : Texts w (.slice ao 0 c) [] := ⟨ao, c, rfl, Nat.zero_le _, hc, fun x hx => by simp at hx, fun k hk => by simp at hk⟩
theorem Objs.newT {W w w' : World} {L : List Obj} {v : Value} {xs : List ByteArray} (H : Objs W w L) (ho : OwnT w' w.heap.size v xs) (hb : Below w.heap.size w w') : Objs W w' (textsO v xs :: L) := H.new (holdsT ho) hb
theorem Objs.ownT {W w : World} {L : List Obj} (H : Objs W w L) (i : Nat) {v : Value} {x : ByteArray} {xs : List ByteArray} (h : L[i]? = some (textsO v (x :: xs))) : OwnT w W.heap.size v (x :: xs) :=
  ⟨(H.own i _ h).1.1 (by simp [textsO]), (H.own i _ h).2⟩
theorem Objs.texts {W w : World} {L : List Obj} (H : Objs W w L) (i : Nat) {v : Value} {xs : List ByteArray} (h : L[i]? = some (textsO v xs)) : Texts w v xs := by
  cases xs with
  | nil =>
    obtain ⟨_, ao, c, e, hc⟩ := (H.own i _ h).1.2 rfl
    have e' : v = .slice ao 0 c := e
    rw [e']
    exact Texts_none hc
  | cons x r => exact (H.ownT i h).texts
theorem markNoneT_any (ao : Option Addr) (c k : Nat) (w : World) : Calls Try.prog 34 #[.slice ao 0 c, .int .i64 k] w fun e w' => e = .returned (.int .i64 (k : Int)) ∧ w = w' := by
  go_enter Try.func34, Try.ntmps34
  go_wp2
  refine wp_loop_rounds 1 ?_
  rw [rounds_succ]
  go_wp2
  go_ret
  exact ⟨rfl, rfl⟩
theorem Objs.argT {W w : World} {L : List Obj} (H : Objs W w L) {v : Value} {xs : List ByteArray} (h : Texts W v xs) : Texts w v xs := h.mono H.below (Nat.le_refl _)
def MarkedT (W : World) (L : List Obj) (i : Nat) (v : Value) (k n : Nat) (e : Ending) (w' : World) : Prop :=
  ∃ m : Nat, e = .returned (.int .i64 (m : Int)) ∧ ¬ ((m : Int) < 0) ∧ Hid (m = k + n) ∧ Objs W w' (L.set i (textsO v (marksT k n)))
theorem markT_obj {W w : World} {L : List Obj} (H : Objs W w L) (i k : Nat) {v : Value} {xs : List ByteArray} (h : L[i]? = some (textsO v xs)) (hk : 0 < k) (hk2 : k + xs.length ≤ 100000000) :
    Calls Try.prog 34 #[v, .int .i64 k] w (MarkedT W L i v k xs.length) := by
  cases xs with
  | nil =>
    obtain ⟨_, ao, c, e, hc⟩ := (H.own i _ h).1.2 rfl
    have e' : v = .slice ao 0 c := e
    subst e'
    refine (markNoneT_any ao c k w).mono ?_
    rintro e w' ⟨rfl, rfl⟩
    refine ⟨k, rfl, by omega, rfl, ?_⟩
    rw [show L.set i (textsO _ (marksT k ([] : List ByteArray).length)) = L from set_self h]
    exact H
  | cons x r =>
    refine (markStringS_any W.heap.size v (x :: r) k w (H.ownT i h) hk hk2).mono ?_
    rintro e w' ⟨rfl, ho, hb⟩
    exact ⟨_, rfl, by omega, rfl, H.set i h (by simp [textsO]) (by simp [textsO, marksT_length]) rfl (holdsT ho) hb⟩
theorem heldT_obj {W w : World} {L : List Obj} (H : Objs W w L) (i : Nat) {k n m : Nat} {v : Value} (h : L[i]? = some (textsO v (marksT k n))) (hk : 0 < k) (hk2 : k + n ≤ 100000000) (hm : Hid (m = k + n)) :
    Calls Try.prog 35 #[v, .int .i64 k] w fun e w' => e = .returned (.int .i64 (m : Int)) ∧ Objs W w' L := by
  refine (heldStringS_any v n k w (H.texts i h) hk hk2).mono ?_
  rintro e w' ⟨rfl, hb⟩
  rw [hm.out]
  exact ⟨rfl, H.quiet hb⟩
theorem eqT_obj {W w : World} {L : List Obj} (H : Objs W w L) (i j : Nat) {v u : Value} {xs : List ByteArray} (h : L[i]? = some (textsO v xs)) (h' : L[j]? = some (textsO u xs)) :
    Calls Try.prog 33 #[v, u] w fun e w' => e = .returned (.bool true) ∧ Objs W w' L := by
  refine (eqStringS_any v u xs xs w (H.texts i h) (H.texts j h')).mono ?_
  rintro e w' ⟨rfl, hb⟩
  exact ⟨by rw [decide_eq_true rfl], H.quiet hb⟩
theorem cellsT_snoc (L : List ByteArray) (s : ByteArray) : cellsT (L ++ [s]) = cellsT L ++ [.string s] := by simp [cellsT]
end Go.Proofs.Ytfocobgceelnoaa
