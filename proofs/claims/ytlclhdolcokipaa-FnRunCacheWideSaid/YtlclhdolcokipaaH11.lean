/-
  Str2, New, Box, ThingT, VCache, FreshQ, KyL.
-/
import Derived.Deep.RegionHeld3
import Derived.Deep.Slices
import Derived.Test.YtlclhdolcokipaaH0
import Derived.Test.YtlclhdolcokipaaH4
import Derived.Test.YtlclhdolcokipaaH5
import Derived.Test.YtlclhdolcokipaaH7
import Derived.Test.YtlclhdolcokipaaH10
/-
  Marks in lists of texts; texts among what a statement has made; an argument that is a slice of texts.
-/
namespace Go.Proofs.Ytlclhdolcokipaa
open Go.RowKit
open Go.ChangeShapes Go.WideShapes Go.ChangeAt Go.Deep

def marksT (k : Nat) : Nat → List ByteArray
  | 0 => []
  | n + 1 => marksT k n ++ [markS (k + n)]
theorem marksT_length (k n : Nat) : (marksT k n).length = n := by
  induction n with
  | zero => rfl
  | succ n ih => simp [marksT, ih]
theorem marksT_get (k : Nat) : ∀ (n i : Nat) (h : i < (marksT k n).length), (marksT k n)[i] = markS (k + i) := by
  intro n
  induction n with
  | zero => intro i h; simp [marksT] at h
  | succ n ih =>
    intro i h
    rw [marksT_length] at h
    by_cases hi : i < n
    · have := ih i (by rw [marksT_length]; exact hi)
      simp only [marksT]
      rw [List.getElem_append_left (by rw [marksT_length]; exact hi)]
      exact this
    · obtain rfl : i = n := by omega
      simp only [marksT]
      rw [List.getElem_append_right (by rw [marksT_length]; exact Nat.le_refl _)]
      simp [marksT_length]
theorem marksT_ok (k n : Nat) (h : k + n ≤ 100000000) : okT (marksT k n) := by
  intro x hx
  obtain ⟨i, hi, rfl⟩ := List.mem_iff_getElem.1 hx
  rw [marksT_get]
  rw [marksT_length] at hi
  have := markS_size (k + i)
  omega

theorem markT_row {w w' : World} {B E g n cap : Nat} {xs : List ByteArray} {k i q : Nat} {C : Nat} (hlt : i < xs.length) (hq : q = k + i) (hC : w.heap.size ≤ C)
    (hown : w.ownsRow B E 1 (.slice (some ⟨g, 0, none⟩) n cap) n (cellsT (marksT k i ++ xs.drop i))) (hb : Below C w w') :
    (w'.setCell ⟨g, i, none⟩ (.string (markS q))).ownsRow B E 1 (.slice (some ⟨g, 0, none⟩) n cap) n (cellsT (marksT k (i + 1) ++ xs.drop (i + 1))) := by
  have h0 := ownsRow_below hown hb hC
  have h1 := (h0.stored i (.string (markS q))).1
  have hlen : (cellsT (marksT k i)).length = i := by rw [cellsT_length, marksT_length]
  have e : (cellsT (marksT k i ++ xs.drop i)).set i (.string (markS q)) = cellsT (marksT k (i + 1) ++ xs.drop (i + 1)) := by
    subst hq
    rw [List.drop_eq_getElem_cons hlt]
    simp only [cellsT, List.map_append, marksT, List.append_assoc, List.map_cons] at hlen ⊢
    rw [List.set_append_right _ _ (by omega), hlen, Nat.sub_self]
    rfl
  rw [e] at h1
  exact h1

set_option maxHeartbeats 1600000 in
set_option maxRecDepth 100000 in
theorem markStringS_any (B : Nat) (v : Value) (xs : List ByteArray) (k0 : Nat) (w : World) (h : OwnT w B v xs) (hk : 0 < k0) (hk2 : k0 + xs.length ≤ 100000000) :
    Calls Try.prog 48 #[v, .int .i64 k0] w fun e w' => e = .returned (.int .i64 ((k0 + xs.length : Nat) : Int)) ∧ OwnT w' B v (marksT k0 xs.length) ∧ ButRow v w w' := by
  have hok := Lib.hid h.2
  have hown := h.1
  obtain ⟨ao, cap, rfl, hlc, hcm⟩ := own_slice' hown
  go_enter Try.func48, Try.ntmps48
  go_wp2
  go_loopw [1, 5] (fun c i wr => ∃ k q : Nat, k ≤ xs.length ∧ i = .int .i64 k ∧ c = .int .i64 q ∧ Hid (q = k0 + k) ∧ wr.ownsRow B 9 1 (.slice ao xs.length cap) xs.length (cellsT (marksT k0 k ++ xs.drop k)) ∧
      ButRow (.slice ao xs.length cap) w wr) (fun _ i _ => xs.length - (intOf i).toNat)
  case atStart => exact ⟨0, k0, Nat.zero_le _, rfl, rfl, rfl, hown, ButRow.refl _ _⟩
  case round =>
    obtain ⟨k, q, hk', rfl, rfl, HQ, hrow, hfr⟩ := hrel
    by_cases hlt : k < xs.length
    · obtain ⟨g, cap', e, hgc, hgB⟩ := own_shape0 hrow (by omega)
      simp only [Value.slice.injEq] at e
      obtain ⟨rfl, _, rfl⟩ := e
      have hq0 : 0 < q := by have := HQ.out; omega
      have hq1 : q ≤ 100000000 := by have := HQ.out; omega
      have HF := Lib.hid hfr
      have HR := Lib.hid hrow
      clear hfr hrow hown
      go_wp2_with (go_at_call 96; refine (markText_any q _ hq0 hq1).mono ?_; rintro e w2 ⟨rfl, hb2⟩; have hr2 := ownsRow_below HR.out hb2 (Nat.le_refl _); obtain ⟨u1, c1⟩ := row_cell hr2 (j := k) (by omega); have f1 := hr2.frozenAt k; clear hr2)
      have hr3 := markT_row hlt HQ.out (Nat.le_refl _) HR.out hb2
      have hf3 := (HF.out.below hb2).setCell (o := k) (g := g) (by rfl) (.string (markS q))
      clear c1 f1
      go_roundw
      case rel => exact ⟨k + 1, q + 1, by omega, by go_num, by go_num, by have := HQ.out; unfold Hid; omega, hr3, hf3⟩
      case measure => simp [intOf]; omega
    · obtain rfl : k = xs.length := by omega
      go_wp2
      go_ret
      rw [List.drop_length, List.append_nil] at hrow
      refine ⟨ret_int (by have := HQ.out; omega), ⟨by rw [marksT_length]; exact hrow, marksT_ok k0 xs.length hk2⟩, hfr⟩

theorem heldT_step {w w1 w2 : World} {b p : Nat} {s : Value} (h : w1.cell? ⟨b, p, none⟩ = some s ∧ Below w.heap.size w w1) (hb : b < w.heap.size) (hb2 : Below w1.heap.size w1 w2) :
    w2.cell? ⟨b, p, none⟩ = some s ∧ Below w.heap.size w w2 := by
  obtain ⟨h1, h3⟩ := h
  exact ⟨(hb2.cell (Nat.lt_of_lt_of_le hb h3.size)).trans h1, h3.trans (hb2.mono h3.size)⟩
set_option maxHeartbeats 1600000 in
set_option maxRecDepth 100000 in
theorem heldStringS_any (v : Value) (n k0 : Nat) (w : World) (h : Texts w v (marksT k0 n)) (hk : 0 < k0) (hk2 : k0 + n ≤ 100000000) :
    Calls Try.prog 49 #[v, .int .i64 k0] w fun e w' => e = .returned (.int .i64 ((k0 + n : Nat) : Int)) ∧ Below w.heap.size w w' := by
  obtain ⟨ao, cap, rfl, hlc, hcm, hok, hcell⟩ := h
  have hcell' : ∀ k, k < n → ∃ b o, ao = some ⟨b, o, none⟩ ∧ b < w.heap.size ∧ w.cell? ⟨b, o + k, none⟩ = some (.string (markS (k0 + k))) := by
    intro k hkn
    obtain ⟨b, o, h1, h2, h3⟩ := hcell k (by rw [marksT_length]; exact hkn)
    rw [marksT_get] at h3
    exact ⟨b, o, h1, h2, h3⟩
  rw [marksT_length] at hlc ⊢
  clear hcell hok
  go_enter Try.func49, Try.ntmps49
  go_wp2
  go_loopw [1, 5] (fun c i wr => ∃ k q : Nat, k ≤ n ∧ i = .int .i64 k ∧ c = .int .i64 q ∧ Hid (q = k0 + k) ∧ Below w.heap.size w wr) (fun _ i _ => n - (intOf i).toNat)
  case atStart => exact ⟨0, k0, Nat.zero_le _, rfl, rfl, rfl, Below.refl _ _⟩
  case round =>
    obtain ⟨k, q, hk', rfl, rfl, HQ, hbl⟩ := hrel
    by_cases hlt : k < n
    · obtain ⟨b, o, rfl, hb, h1⟩ := hcell' k hlt
      have c1 := (hbl.cell (p := ⟨b, _, none⟩) hb).trans h1
      have hq0 : 0 < q := by have := HQ.out; omega
      have hq1 : q ≤ 100000000 := by have := HQ.out; omega
      rw [← HQ.out] at c1
      clear h1
      go_wp2_with fail
      go_region_held3 (fun w' : World => w'.cell? ⟨b, o + k, none⟩ = some (.string (markS q)) ∧ Below w.heap.size w w') (first | exact ⟨c1, hbl.drew⟩ | assumption | exact hS2) (first | (go_at_call 96; refine (markText_any q _ hq0 hq1).mono ?_; rintro e w2 ⟨rfl, hb2⟩; have hS2 := heldT_step (by assumption) hb hb2))
      go_split_ands
      go_wp2
      go_roundw
      case rel => exact ⟨k + 1, q + 1, by omega, by go_num, by go_num, by have := HQ.out; unfold Hid; omega, by assumption⟩
      case measure => simp [intOf]; omega
    · obtain rfl : k = n := by omega
      go_wp2
      go_ret
      exact ⟨ret_int (by have := HQ.out; omega), hbl⟩
/-! ### objects -/
def textsO (v : Value) (xs : List ByteArray) : Obj := ⟨v, 9, 1, xs.length, cellsT xs, okT xs⟩
theorem holdsT {w : World} {B : Nat} {v : Value} {xs : List ByteArray} (h : OwnT w B v xs) : (textsO v xs).holds w B := Obj.holds_of h.1 (fun h0 => by
  have : xs = [] := List.eq_nil_of_length_eq_zero h0
  subst this
  rfl) h.2
theorem Texts_none {w : World} {ao : Option Addr} {c : Nat} (hc : c ≤ 9223372036854775807) : Texts w (.slice ao 0 c) [] := ⟨ao, c, rfl, Nat.zero_le _, hc, fun x hx => by simp at hx, fun k hk => by simp at hk⟩
theorem Objs.newT {W w w' : World} {L : List Obj} {v : Value} {xs : List ByteArray} (H : Objs W w L) (ho : OwnT w' w.heap.size v xs) (hb : Below w.heap.size w w') : Objs W w' (textsO v xs :: L) := H.new (holdsT ho) hb
theorem Objs.ownT {W w : World} {L : List Obj} (H : Objs W w L) (i : Nat) {v : Value} {x : ByteArray} {xs : List ByteArray} (h : L[i]? = some (textsO v (x :: xs))) : OwnT w W.heap.size v (x :: xs) :=
  ⟨(H.own i _ h).1.1 (by simp [textsO]), (H.own i _ h).2⟩
theorem Objs.texts {W w : World} {L : List Obj} (H : Objs W w L) (i : Nat) {v : Value} {xs : List ByteArray} (h : L[i]? = some (textsO v xs)) : Texts w v xs := by
  cases xs with
  | nil =>
    obtain ⟨_, ao, c, e, hc⟩ := (H.own i _ h).1.2 rfl
    have e' : v = .slice ao 0 c := e
    rw [e']
    exact Texts_none hc
  | cons x r => exact (H.ownT i h).texts
set_option maxRecDepth 100000 in
theorem markNoneT_any (ao : Option Addr) (c k : Nat) (w : World) : Calls Try.prog 48 #[.slice ao 0 c, .int .i64 k] w fun e w' => e = .returned (.int .i64 (k : Int)) ∧ w = w' := by
  go_enter Try.func48, Try.ntmps48
  go_wp2
  refine wp_loop_rounds 1 ?_
  rw [rounds_succ]
  go_wp2
  go_ret
  exact ⟨rfl, rfl⟩
theorem Objs.argT {W w : World} {L : List Obj} (H : Objs W w L) {v : Value} {xs : List ByteArray} (h : Texts W v xs) : Texts w v xs := h.mono H.below (Nat.le_refl _)
def MarkedT (W : World) (L : List Obj) (i : Nat) (v : Value) (k n : Nat) (e : Ending) (w' : World) : Prop :=
  ∃ m : Nat, e = .returned (.int .i64 (m : Int)) ∧ ¬ ((m : Int) < 0) ∧ Hid (m = k + n) ∧ Objs W w' (L.set i (textsO v (marksT k n)))
set_option maxRecDepth 100000 in
theorem markT_obj {W w : World} {L : List Obj} (H : Objs W w L) (i k : Nat) {v : Value} {xs : List ByteArray} (h : L[i]? = some (textsO v xs)) (hk : 0 < k) (hk2 : k + xs.length ≤ 100000000) :
    Calls Try.prog 48 #[v, .int .i64 k] w (MarkedT W L i v k xs.length) := by
  cases xs with
  | nil =>
    obtain ⟨_, ao, c, e, hc⟩ := (H.own i _ h).1.2 rfl
    have e' : v = .slice ao 0 c := e
    subst e'
    refine (markNoneT_any ao c k w).mono ?_
    rintro e w' ⟨rfl, rfl⟩
    refine ⟨k, rfl, by omega, rfl, ?_⟩
    rw [show L.set i (textsO _ (marksT k ([] : List ByteArray).length)) = L from set_self h]
    exact H
  | cons x r =>
    refine (markStringS_any W.heap.size v (x :: r) k w (H.ownT i h) hk hk2).mono ?_
    rintro e w' ⟨rfl, ho, hb⟩
    exact ⟨_, rfl, by omega, rfl, H.set i h (by simp [textsO]) (by simp [textsO, marksT_length]) rfl (holdsT ho) hb⟩
set_option maxRecDepth 100000 in
theorem heldT_obj {W w : World} {L : List Obj} (H : Objs W w L) (i : Nat) {k n m : Nat} {v : Value} (h : L[i]? = some (textsO v (marksT k n))) (hk : 0 < k) (hk2 : k + n ≤ 100000000) (hm : Hid (m = k + n)) :
    Calls Try.prog 49 #[v, .int .i64 k] w fun e w' => e = .returned (.int .i64 (m : Int)) ∧ Objs W w' L := by
  refine (heldStringS_any v n k w (H.texts i h) hk hk2).mono ?_
  rintro e w' ⟨rfl, hb⟩
  rw [hm.out]
  exact ⟨rfl, H.quiet hb⟩
set_option maxRecDepth 100000 in
theorem eqT_obj {W w : World} {L : List Obj} (H : Objs W w L) (i j : Nat) {v u : Value} {xs : List ByteArray} (h : L[i]? = some (textsO v xs)) (h' : L[j]? = some (textsO u xs)) :
    Calls Try.prog 47 #[v, u] w fun e w' => e = .returned (.bool true) ∧ Objs W w' L := by
  refine (eqStringS_any v u xs xs w (H.texts i h) (H.texts j h')).mono ?_
  rintro e w' ⟨rfl, hb⟩
  exact ⟨by rw [decide_eq_true rfl], H.quiet hb⟩
theorem cellsT_snoc (L : List ByteArray) (s : ByteArray) : cellsT (L ++ [s]) = cellsT L ++ [.string s] := by simp [cellsT]
end Go.Proofs.Ytlclhdolcokipaa
/-
  What an operation returns: something new, or nothing that lies in memory.
-/
namespace Go.Proofs.Ytlclhdolcokipaa
open Go.RowKit

def NewL (f : Value → Value) (l : List Itm) (w : World) (e : Ending) (w' : World) : Prop :=
  ∃ v, e = .returned (f v) ∧ OwnI 43 w' w.heap.size v l ∧ Below w.heap.size w w'
def NewT (f : Value → Value) (l : List ByteArray) (w : World) (e : Ending) (w' : World) : Prop :=
  ∃ v, e = .returned (f v) ∧ OwnT w' w.heap.size v l ∧ Below w.heap.size w w'
def RetQ (v : Value) (w : World) (e : Ending) (w' : World) : Prop := e = .returned v ∧ Below w.heap.size w w'

theorem eqX_obj {W w : World} {L : List Obj} (H : Objs W w L) (x : Itm) :
    Calls Try.prog 93 #[.agg #[.string x.1, .int .i64 x.2], .agg #[.string x.1, .int .i64 x.2]] w fun e w' => e = .returned (.bool true) ∧ Objs W w' L := by
  refine (eqItem_any x.1 x.1 x.2 x.2 w).mono ?_
  rintro e w' ⟨rfl, hb⟩
  exact ⟨by simp, H.quiet hb⟩

theorem bcell {W w1 : World} (hb : Below W.heap.size W w1) : (∀ b o, b < W.heap.size → w1.cell? ⟨b, o, none⟩ = W.cell? ⟨b, o, none⟩) ∧ (∀ b o, b < W.heap.size → w1.frozen? ⟨b, o, none⟩ = W.frozen? ⟨b, o, none⟩) :=
  ⟨fun b o h => hb.cell (p := ⟨b, o, none⟩) h, fun b o h => hb.frozen (p := ⟨b, o, none⟩) h⟩

/-! ### how long it is -/
theorem del_le (l : List Itm) (k : ByteArray) : (delI l k).length ≤ l.length := by
  have := delI_length (l := l) k
  split at this <;> omega
theorem if_len {b : Bool} {l : List Itm} (h : b = true → l.length ≤ 100) : (if b = true then l else []).length ≤ 10000000 := by
  cases b
  · simp
  · have := h rfl
    simp only [if_true]
    omega
theorem okG_len {l : List Itm} {k : ByteArray} (h : okG l k = true) : l.length ≤ 8 := by
  unfold okG at h
  rw [Bool.and_eq_true] at h
  exact valid_len h.1
theorem drp_le (l : List Itm) (k : ByteArray) : (drpL l k).length ≤ 10000000 := if_len fun h => by have := okG_len h; have := del_le l k; omega
theorem mov_le (l : List Itm) (k : ByteArray) (b : Bool) : (movL l k b).length ≤ 10000000 := if_len fun h => by
  have h1 := okG_len h
  have h2 := del_le l k
  unfold movI
  split <;> simp <;> omega
theorem ren_le (l : List Itm) (k t : ByteArray) : (renL l k t).length ≤ 10000000 := if_len fun h => by
  unfold okR at h
  rw [Bool.and_eq_true] at h
  have := valid_len h.2
  omega
theorem over_le (a b : List Itm) : (overL a b).length ≤ 10000000 := if_len fun h => by
  unfold okO at h
  rw [Bool.and_eq_true] at h
  have := valid_len h.2
  omega
theorem tur_le (l : List Itm) : (turL l).length ≤ 10000000 := if_len fun h => by
  have := valid_len h
  simp
  omega
theorem put_le (l : List Itm) (k : ByteArray) (n : Int) : (putL l k n).length ≤ 10000000 := if_len fun h => by
  unfold okP at h
  rw [Bool.and_eq_true] at h
  have := valid_len h.2
  omega
theorem def_le (l : List Itm) (k : ByteArray) (n : Int) : (defL l k n).length ≤ 10000000 := put_le _ _ _
end Go.Proofs.Ytlclhdolcokipaa
/-
  A struct that lies in a variable, as one of the statement's objects.
-/
namespace Go.Proofs.Ytlclhdolcokipaa
open Go.RowKit

def boxO (b T : Nat) (cs : List Value) : Obj := ⟨.slice (some ⟨b, 0, none⟩) 1 1, T, cs.length, 1, cs, True⟩
theorem Objs.boxed {W w : World} {L : List Obj} (H : Objs W w L) (T : Nat) (cs : List Value) : Objs W (w.alloc (.cells cs.toArray T)) (boxO w.heap.size T cs :: L) := by
  refine H.new ⟨⟨fun _ => ?_, fun h0 => by simp [boxO] at h0⟩, trivial⟩ ((Below.refl _ _).alloc (Nat.le_refl _) _)
  have := World.ownsRow_lit (base := w.heap.size) (e := T) (size := cs.length) w cs.toArray 1 (Nat.le_refl _) (by unfold maxLen; omega) (by simp)
  simpa [boxO] using this
theorem Objs.boxcell {W w : World} {L : List Obj} (H : Objs W w L) (i : Nat) {b T : Nat} {cs : List Value} (h : L[i]? = some (boxO b T cs)) (j : Nat) {u : Value} (hj : cs[j]? = some u) : w.cell? ⟨b, j, none⟩ = some u := by
  have ho := (H.own i _ h).1.1 (by simp [boxO])
  exact row_cell_at (S := cs.length) (B := W.heap.size) (E := T) (n := 1) (c := 1) (m := 1) (xs := cs) ho hj
theorem Objs.box2 {W w : World} {L : List Obj} (H : Objs W w L) (i : Nat) {b T : Nat} {u0 u1 : Value} (h : L[i]? = some (boxO b T [u0, u1])) : w.cell? ⟨b, 0, none⟩ = some u0 ∧ w.cell? ⟨b, 1, none⟩ = some u1 :=
  ⟨H.boxcell i h 0 rfl, H.boxcell i h 1 rfl⟩
theorem Objs.box4 {W w : World} {L : List Obj} (H : Objs W w L) (i : Nat) {b T : Nat} {u0 u1 u2 u3 : Value} (h : L[i]? = some (boxO b T [u0, u1, u2, u3])) : w.cell? ⟨b, 0, none⟩ = some u0 ∧ w.cell? ⟨b, 1, none⟩ = some u1 ∧ w.cell? ⟨b, 2, none⟩ = some u2 ∧ w.cell? ⟨b, 3, none⟩ = some u3 :=
  ⟨H.boxcell i h 0 rfl, H.boxcell i h 1 rfl, H.boxcell i h 2 rfl, H.boxcell i h 3 rfl⟩

theorem OwnI.past {E B : Nat} {w w' : World} {v : Value} {xs : List Itm} (h : OwnI E w B v xs) (hk : Keeps (fun k => B ≤ k) w w') : OwnI E w' B v xs := ⟨hk.own h.1 (fun _ hg => (own_range h.1 hg).1), h.2⟩
theorem Keeps.past {B : Nat} {w w' : World} (h : Keeps (fun k => B ≤ k) w w') {a : Addr} (ha : a.block < B) (u : Value) : Keeps (fun k => B ≤ k) w (w'.setCell a u) := h.setCell (by omega) u

/-- A result whose row may be a part of a row of its own. -/
def NewW (f : Value → Value) (l : List Itm) (w : World) (e : Ending) (w' : World) : Prop :=
  ∃ v V ys, e = .returned (f v) ∧ OwnI 43 w' w.heap.size V ys ∧ Hid (∀ w, Items w V ys → Items w v l) ∧ Below w.heap.size w w'
theorem NewL.weak {f : Value → Value} {l : List Itm} {w w' : World} {e : Ending} (h : NewL f l w e w') : NewW f l w e w' := by
  obtain ⟨v, rfl, ho, hb⟩ := h
  exact ⟨v, v, l, rfl, ho, Lib.hid fun _ h => h, hb⟩
/-- A block of four cells. -/
def Four (w : World) (b T : Nat) (u0 u1 u2 u3 : Value) : Prop := w.heap[b]? = some (.cells #[u0, u1, u2, u3] T (0, 0))
theorem Four.cells {w : World} {b T : Nat} {u0 u1 u2 u3 : Value} (h : Four w b T u0 u1 u2 u3) : w.cell? ⟨b, 0, none⟩ = some u0 ∧ w.cell? ⟨b, 1, none⟩ = some u1 ∧ w.cell? ⟨b, 2, none⟩ = some u2 ∧ w.cell? ⟨b, 3, none⟩ = some u3 := by
  unfold Four at h
  simp [World.cell?, h]
theorem Four.free {w : World} {b T : Nat} {u0 u1 u2 u3 : Value} (h : Four w b T u0 u1 u2 u3) : w.frozen? ⟨b, 0, none⟩ = false ∧ w.frozen? ⟨b, 1, none⟩ = false ∧ w.frozen? ⟨b, 2, none⟩ = false ∧ w.frozen? ⟨b, 3, none⟩ = false := by
  unfold Four at h
  simp [World.frozen?, h]
theorem Four.lt {w : World} {b T : Nat} {u0 u1 u2 u3 : Value} (h : Four w b T u0 u1 u2 u3) : b < w.heap.size := by
  unfold Four at h
  exact (Array.getElem?_eq_some_iff.1 h).1
theorem Four.below {w w' : World} {b T B : Nat} {u0 u1 u2 u3 : Value} (h : Four w b T u0 u1 u2 u3) (hb : Below B w w') (hB : b < B) : Four w' b T u0 u1 u2 u3 := by
  unfold Four at h ⊢
  rw [hb.block b hB, h]
theorem Four.keeps {K : Nat → Prop} {w w' : World} {b T : Nat} {u0 u1 u2 u3 : Value} (h : Four w b T u0 u1 u2 u3) (hk : Keeps K w w') (hB : K b) : Four w' b T u0 u1 u2 u3 := by
  unfold Four at h ⊢
  rw [hk.block b hB, h]
theorem Four.new (w : World) (T : Nat) (u0 u1 u2 u3 : Value) : Four (w.alloc (.cells #[u0, u1, u2, u3] T)) w.heap.size T u0 u1 u2 u3 := by
  unfold Four
  rw [heap_alloc_new]
end Go.Proofs.Ytlclhdolcokipaa
/-
  Lists of texts among what a statement carries.
-/
namespace Go.Proofs.Ytlclhdolcokipaa
open Go.RowKit

def RowT (lo hi : Nat) (w : World) (v : Value) (xs : List ByteArray) : Prop :=
  (xs ≠ [] ∧ OwnT w lo v xs ∧ ∀ g, v.ownBlock = some g → g < hi) ∨ (xs = [] ∧ ∃ ao c, v = .slice ao 0 c ∧ c ≤ 9223372036854775807)
theorem RowT.keeps {lo hi : Nat} {w w' : World} {v : Value} {xs : List ByteArray} (h : RowT lo hi w v xs) (hk : Keeps (In lo hi) w w') : RowT lo hi w' v xs := by
  rcases h with ⟨hne, ho, hg⟩ | h0
  · exact .inl ⟨hne, ⟨hk.own ho.1 (fun g e => ⟨(own_range ho.1 e).1, hg g e⟩), ho.2⟩, hg⟩
  · exact .inr h0
theorem RowT.texts {lo hi : Nat} {w : World} {v : Value} {xs : List ByteArray} (h : RowT lo hi w v xs) : Texts w v xs := by
  rcases h with ⟨_, ho, _⟩ | ⟨rfl, ao, c, rfl, hc⟩
  · exact ho.texts
  · exact Texts_none hc
theorem RowT.of {B : Nat} {w : World} {v : Value} {xs : List ByteArray} (h : OwnT w B v xs) : RowT B w.heap.size w v xs := by
  cases xs with
  | nil =>
    obtain ⟨ao, cap, e, _, hc⟩ := own_slice h.1
    exact .inr ⟨rfl, ao, cap, e, hc⟩
  | cons x r => exact .inl ⟨by simp, h, fun g e => (own_range h.1 e).2⟩
def textT (lo hi : Nat) (v : Value) (xs : List ByteArray) : Thing := ⟨lo, hi, fun w => RowT lo hi w v xs, fun _ _ hk h => h.keeps hk⟩
theorem Things.texts {W w : World} {L : List Thing} (H : Things W w L) (i : Nat) {lo hi : Nat} {v : Value} {xs : List ByteArray} (h : L[i]? = some (textT lo hi v xs)) : Texts w v xs :=
  RowT.texts (show RowT lo hi w v xs from (H.has i _ h).2.2)
theorem Things.newT {W w w' : World} {L : List Thing} {v : Value} {xs : List ByteArray} (H : Things W w L) (ho : OwnT w' w.heap.size v xs) (hb : Below w.heap.size w w') : Things W w' (textT w.heap.size w'.heap.size v xs :: L) :=
  H.new (Nat.le_refl _) (Nat.le_refl _) (RowT.of ho) hb
theorem markT_T {W w : World} {L : List Thing} (H : Things W w L) (i k : Nat) {lo hi : Nat} {v : Value} {xs : List ByteArray} (h : L[i]? = some (textT lo hi v xs)) (hk : 0 < k) (hk2 : k + xs.length ≤ 100000000) :
    Calls Try.prog 48 #[v, .int .i64 k] w (MarkedT' W L i (fun k => textT lo hi v (marksT k xs.length)) k xs.length) := by
  have hz : RowT lo hi w v xs := (H.has i _ h).2.2
  rcases hz with ⟨hne, ho, hg⟩ | ⟨rfl, ao, c, rfl, hc⟩
  · refine (markStringS_any lo v xs k w ho hk hk2).mono ?_
    rintro e w' ⟨rfl, ho', hb⟩
    refine ⟨_, rfl, by omega, rfl, H.set i h rfl rfl (show RowT lo hi w' v (marksT k xs.length) from .inl ⟨fun e => ?_, ho', hg⟩) (hb.keeps (fun j hj => ⟨hj.1, fun e => hj.2 ⟨(own_range ho.1 e).1, hg j e⟩⟩))⟩
    have := congrArg List.length e
    rw [marksT_length] at this
    exact hne (List.eq_nil_of_length_eq_zero this)
  · refine (markNoneT_any ao c k w).mono ?_
    rintro e w' ⟨rfl, rfl⟩
    exact ⟨_, rfl, by omega, rfl, H.set i h rfl rfl (show RowT lo hi w (.slice ao 0 c) (marksT k 0) from .inr ⟨List.eq_nil_of_length_eq_zero (marksT_length _ _), ao, c, rfl, hc⟩) (Keeps.refl _ _)⟩
theorem heldT_T {W w : World} {L : List Thing} (H : Things W w L) (i : Nat) {lo hi k n m : Nat} {v : Value} (h : L[i]? = some (textT lo hi v (marksT k n))) (hk : 0 < k) (hk2 : k + n ≤ 100000000) (hm : Hid (m = k + n)) :
    Calls Try.prog 49 #[v, .int .i64 k] w fun e w' => e = .returned (.int .i64 (m : Int)) ∧ Things W w' L := by
  refine (heldStringS_any v n k w (H.texts i h) hk hk2).mono ?_
  rintro e w' ⟨rfl, hb⟩
  rw [hm.out]
  exact ⟨rfl, H.quiet hb⟩
theorem eqT_T {W w : World} {L : List Thing} (H : Things W w L) {v u : Value} {xs : List ByteArray} (h : Texts w v xs) (h' : Texts w u xs) :
    Calls Try.prog 47 #[v, u] w fun e w' => e = .returned (.bool true) ∧ Things W w' L := by
  refine (eqStringS_any v u xs xs w h h').mono ?_
  rintro e w' ⟨rfl, hb⟩
  exact ⟨by rw [decide_eq_true rfl], H.quiet hb⟩
end Go.Proofs.Ytlclhdolcokipaa
/-
  Whether a cache is valid, by the model and by the program.
-/
namespace Go.Proofs.Ytlclhdolcokipaa
open Go.RowKit

def rgB (n lo hi : Int) : Bool := decide (lo ≤ n) && decide (n ≤ hi)
def vcB (xs : List Itm) (m g s : Int) : Bool := validI xs && rgB m 1 8 && decide ((xs.length : Int) ≤ m) && rgB g 0 9999 && rgB s 0 9999
def cacheV (v : Value) (m g s : Int) : Value := .agg #[v, .int .i64 m, .int .i64 g, .int .i64 s]

theorem isMost_v {n : Int} {b : Bool} (w : World) (h : rgB n 1 8 = b) :
    Calls Try.prog 60 #[.int .i64 n] w fun e w' => e = .returned (.bool b) ∧ w = w' := by
  subst h
  go_enter Try.func60, Try.ntmps60
  go_wp2
  all_goals go_ret
  all_goals refine ⟨ret_bool ?_, rfl⟩
  all_goals simp [rgB, *]
  all_goals omega
theorem isCount_v {n : Int} {b : Bool} (w : World) (h : rgB n 0 9999 = b) :
    Calls Try.prog 61 #[.int .i64 n] w fun e w' => e = .returned (.bool b) ∧ w = w' := by
  subst h
  go_enter Try.func61, Try.ntmps61
  go_wp2
  all_goals go_ret
  all_goals refine ⟨ret_bool ?_, rfl⟩
  all_goals simp [rgB, *]
  all_goals omega
theorem rg_v {n lo hi : Int} {b : Bool} (w : World) (h : rgB n lo hi = b) : Calls Try.prog 81 #[.int .i64 n, .int .i64 lo, .int .i64 hi] w fun e w' => e = .returned (.bool b) ∧ w = w' :=
  (inRange_v w h).mono fun _ _ ⟨he, hw⟩ => ⟨he, hw.symm⟩
theorem vc_a {xs : List Itm} {m g s : Int} (H : Hid (validI xs = false)) : false = vcB xs m g s := by unfold vcB; rw [H.out]; rfl
theorem vc_b {xs : List Itm} {m g s : Int} (H : Hid (rgB m 1 8 = false)) : false = vcB xs m g s := by unfold vcB; rw [H.out]; simp
theorem vc_c {xs : List Itm} {m g s : Int} (H : ¬ ((xs.length : Int) ≤ m)) : false = vcB xs m g s := by unfold vcB; rw [decide_eq_false H]; simp
theorem vc_d {xs : List Itm} {m g s : Int} (H : Hid (rgB g 0 9999 = false)) : false = vcB xs m g s := by unfold vcB; rw [H.out]; simp
theorem vc_e {xs : List Itm} {m g s : Int} {b : Bool} (h1 : Hid (validI xs = true)) (h2 : Hid (rgB m 1 8 = true)) (h3 : (xs.length : Int) ≤ m) (h4 : Hid (rgB g 0 9999 = true)) (h5 : Hid (rgB s 0 9999 = b)) : b = vcB xs m g s := by
  unfold vcB
  rw [h1.out, h2.out, h4.out, h5.out, decide_eq_true h3]
  cases b <;> rfl

set_option maxHeartbeats 1600000 in
set_option maxRecDepth 100000 in
theorem svc_v {v : Value} {xs : List Itm} {m g s : Int} {b : Bool} (w : World) (h : Items w v xs) (hb : vcB xs m g s = b) :
    Calls Try.prog 62 #[.agg #[v, .int .i64 m, .int .i64 g, .int .i64 s]] w fun e w' => e = .returned (.bool b) ∧ Below w.heap.size w w' := by
  subst hb
  have hok := Lib.hid h
  obtain ⟨ao, cap, rfl, hlc, hcm, _, _⟩ := h
  go_enter Try.func62, Try.ntmps62
  have HA : Hid (Below w.heap.size w (w.alloc (.cells #[.slice ao xs.length cap, .int .i64 m, .int .i64 g, .int .i64 s] 25))) := (Below.refl _ _).alloc (Nat.le_refl _) _
  have HF := Lib.hid (Four.new w 25 (.slice ao xs.length cap) (.int .i64 m) (.int .i64 g) (.int .i64 s))
  cases hv : validI xs
  all_goals
    have HV := Lib.hid hv
    clear hv
    go_wp2_with fail
    refine (sVi_v _ (hok.out.mono HA.out (Nat.le_refl _)) HV.out).mono ?_
    rintro e w1 ⟨rfl, hb1⟩
    obtain ⟨c0, c1, c2, c3⟩ := (HF.out.below hb1 HF.out.lt).cells
    have HB : Hid (Below w.heap.size w w1) := HA.out.trans (hb1.mono (by simp))
    clear hb1
  · go_wp2
    go_ret
    exact ⟨ret_bool (vc_a HV), HB.out⟩
  · cases hm : rgB m 1 8
    all_goals
      have HM := Lib.hid hm
      clear hm
      go_wp2_with fail
      refine (rg_v _ HM.out).mono ?_
      rintro e w2 ⟨rfl, rfl⟩
    · go_wp2
      go_ret
      exact ⟨ret_bool (vc_b HM), HB.out⟩
    · by_cases hl : (xs.length : Int) ≤ m
      · cases hg : rgB g 0 9999
        all_goals
          have HG := Lib.hid hg
          clear hg
          go_wp2_with fail
          refine (rg_v _ HG.out).mono ?_
          rintro e w2 ⟨rfl, rfl⟩
        · go_wp2
          go_ret
          exact ⟨ret_bool (vc_d HG), HB.out⟩
        · cases hs : rgB s 0 9999
          all_goals
            have HS := Lib.hid hs
            clear hs
            go_wp2_with fail
            refine (rg_v _ HS.out).mono ?_
            rintro e w2 ⟨rfl, rfl⟩
            go_wp2
            go_ret
            exact ⟨ret_bool (vc_e HV HM hl HG HS), HB.out⟩
      · go_wp2
        go_ret
        exact ⟨ret_bool (vc_c (by omega)), HB.out⟩

set_option maxHeartbeats 1600000 in
set_option maxRecDepth 100000 in
theorem VC_v {v : Value} {xs : List Itm} {m g s : Int} {b : Bool} (w : World) (h : Items w v xs) (hb : vcB xs m g s = b) :
    Calls Try.prog 15 #[.agg #[v, .int .i64 m, .int .i64 g, .int .i64 s]] w fun e w' => e = .returned (.bool b) ∧ Below w.heap.size w w' := by
  subst hb
  have hok := Lib.hid h
  obtain ⟨ao, cap, rfl, hlc, hcm, _, _⟩ := h
  go_enter Try.func15, Try.ntmps15
  have HA : Hid (Below w.heap.size w (w.alloc (.cells #[.slice ao xs.length cap, .int .i64 m, .int .i64 g, .int .i64 s] 25))) := (Below.refl _ _).alloc (Nat.le_refl _) _
  have HF := Lib.hid (Four.new w 25 (.slice ao xs.length cap) (.int .i64 m) (.int .i64 g) (.int .i64 s))
  cases hv : validI xs
  all_goals
    have HV := Lib.hid hv
    clear hv
    go_wp2_with fail
    refine (Vi_v _ (hok.out.mono HA.out (Nat.le_refl _)) HV.out).mono ?_
    rintro e w1 ⟨rfl, hb1⟩
    obtain ⟨c0, c1, c2, c3⟩ := (HF.out.below hb1 HF.out.lt).cells
    have HB : Hid (Below w.heap.size w w1) := HA.out.trans (hb1.mono (by simp))
    clear hb1
  · go_wp2
    go_ret
    exact ⟨ret_bool (vc_a HV), HB.out⟩
  · cases hm : rgB m 1 8
    all_goals
      have HM := Lib.hid hm
      clear hm
      go_wp2_with fail
      refine (isMost_v _ HM.out).mono ?_
      rintro e w2 ⟨rfl, rfl⟩
    · go_wp2
      go_ret
      exact ⟨ret_bool (vc_b HM), HB.out⟩
    · by_cases hl : (xs.length : Int) ≤ m
      · cases hg : rgB g 0 9999
        all_goals
          have HG := Lib.hid hg
          clear hg
          go_wp2_with fail
          refine (isCount_v _ HG.out).mono ?_
          rintro e w2 ⟨rfl, rfl⟩
        · go_wp2
          go_ret
          exact ⟨ret_bool (vc_d HG), HB.out⟩
        · cases hs : rgB s 0 9999
          all_goals
            have HS := Lib.hid hs
            clear hs
            go_wp2_with fail
            refine (isCount_v _ HS.out).mono ?_
            rintro e w2 ⟨rfl, rfl⟩
            go_wp2
            go_ret
            exact ⟨ret_bool (vc_e HV HM hl HG HS), HB.out⟩
      · go_wp2
        go_ret
        exact ⟨ret_bool (vc_c (by omega)), HB.out⟩

theorem sVC_v {v : Value} {xs : List Itm} {m g s : Int} {b : Bool} (w : World) (h : Items w v xs) (hb : vcB xs m g s = b) :
    Calls Try.prog 16 #[.agg #[v, .int .i64 m, .int .i64 g, .int .i64 s]] w fun e w' => e = .returned (.bool b) ∧ Below w.heap.size w w' := by
  go_enter Try.func16, Try.ntmps16
  have HA : Hid (Below w.heap.size w (w.alloc (.cells #[v, .int .i64 m, .int .i64 g, .int .i64 s] 25))) := (Below.refl _ _).alloc (Nat.le_refl _) _
  go_wp2_with fail
  refine (svc_v _ (h.mono HA.out (Nat.le_refl _)) hb).mono ?_
  rintro e w1 ⟨rfl, hb1⟩
  go_wp2
  go_ret
  exact ⟨rfl, HA.out.trans (hb1.mono (by simp))⟩
end Go.Proofs.Ytlclhdolcokipaa
/-
  Contracts met in the class of fresh worlds.
-/
namespace Go.Proofs.Ytlclhdolcokipaa
open Go.RowKit

theorem fresh_Q {f : Nat} {us : Array Value} {v : Value} {w : World} {p : Fresh w} (h : Calls Try.prog f us p.at' (RetQ v p.at')) :
    Calls Try.prog f us p.at' fun e w'' => e = .returned v ∧ ∃ p' : Fresh w, w'' = p'.at' := fresh_of h
end Go.Proofs.Ytlclhdolcokipaa
/-
  The keys of items, as a statement takes them.
-/
namespace Go.Proofs.Ytlclhdolcokipaa
open Go.RowKit

theorem kyl_step {l : List Itm} {k : Nat} (h : k < l.length) : keysL (l.take (k + 1)) = keysL (l.take k) ++ [l[k].1] := by
  unfold keysL
  rw [List.take_succ_eq_append_getElem h, List.map_append]
  rfl
theorem kyl_len (l : List Itm) : (keysL l).length = l.length := by unfold keysL; simp
theorem kyl_ok {l : List Itm} (h : okI l) : okT (keysL l) := fun t ht => by
  obtain ⟨x, hx, rfl⟩ := List.mem_map.1 ht
  exact (h x hx).1

set_option maxHeartbeats 1600000 in
set_option maxRecDepth 100000 in
theorem lkeys_any (v : Value) (xs : List Itm) (w : World) (h : Items w v xs) (hn : xs.length ≤ 1000000) :
    Calls Try.prog 35 #[v] w (NewT (fun v => v) (keysL xs) w) := by
  obtain ⟨ao, cap, rfl, hlc, hcm, hok, hcell⟩ := h
  obtain ⟨i0, hi0, hz0, hz1, hz2⟩ := info_parts Try.infoS
  have hown0 := World.ownsRow_lit (base := w.heap.size) (e := 9) (size := 1) w #[] 0 (Nat.le_refl _) (by unfold maxLen; omega) rfl
  go_enter Try.func35, Try.ntmps35
  go_wp2
  go_loopw [3, 4] (fun x i wr => ∃ k : Nat, k ≤ xs.length ∧ i = .int .i64 k ∧ wr.ownsRow w.heap.size 9 1 x (keysL (xs.take k)).length (cellsT (keysL (xs.take k))) ∧ Below w.heap.size w wr ∧ w.heap.size < wr.heap.size) (fun _ i _ => xs.length - (intOf i).toNat)
  case atStart => exact ⟨0, Nat.zero_le _, rfl, hown0, (Below.refl _ _).alloc (Nat.le_refl _) _, by simp⟩
  case round =>
    obtain ⟨k, hk, rfl, hrow, hbl, hsz⟩ := hrel
    by_cases hlt : k < xs.length
    · obtain ⟨b, o, rfl, hb, h1, _⟩ := hcell k hlt
      have c1 := (hbl.cell (p := ⟨b, _, none⟩) hb).trans h1
      have HLN : (keysL (xs.take k)).length ≤ 1000000 := by rw [kyl_len]; simp; omega
      have HE := Lib.hid (kyl_step hlt)
      generalize keysL (xs.take k) = L at *
      obtain ⟨xo, xcap, rfl, _, _⟩ := own_slice hrow
      clear h1
      go_wp2_with (at_builtin; refine wpList_append_own _ rfl _ _ 47 rfl w.heap.size 9 i0 (.string ⟨#[]⟩) 1 16 Try.underlying47 hi0 hz0 hz1 hz2 rfl (by decide) (.slice xo L.length xcap) L.length (cellsT L) rfl (hrow.alloc _) ⟨wr.heap.size, 0, none⟩ 1 1 [.string xs[k].1] rfl rfl (cell_one_new _ _ _) (by intro u hu; simp at hu; subst hu; rfl) (by unfold maxLen; omega) (by omega) (by simp; omega) ?_; intro v' w4 hown4 hgrow4 hnil4)
      have hs4 := hgrow4.size
      simp at hs4
      have hrow4 : w4.ownsRow w.heap.size 9 1 v' (L ++ [xs[k].1]).length (cellsT (L ++ [xs[k].1])) := by
        have e3 : (L ++ [xs[k].1]).length = L.length + 1 := by simp
        rw [cellsT_snoc, e3]; exact hown4
      have hb4 := (hbl.alloc (Nat.le_of_lt hsz) _).grown hgrow4 (by simp; omega) (fun j hj => (hrow.lt j hj).1)
      rw [← HE.out] at hrow4
      clear hown4 hgrow4 hnil4 hrow c1
      go_roundw
      case rel => exact ⟨k + 1, by omega, by go_num, hrow4, hb4, by omega⟩
      case measure => simp [intOf]; omega
    · obtain rfl : k = xs.length := by omega
      rw [List.take_length] at hrow
      go_wp2
      go_ret
      exact ⟨_, rfl, ⟨hrow, kyl_ok hok⟩, hbl⟩
end Go.Proofs.Ytlclhdolcokipaa
