/-
  Str2, New, ThingT, KyL, OrdEq.
-/
import Derived.Deep.RegionHeld3
import Derived.Deep.Slices
import Derived.Test.YtloalakpkjbeaaaP0
import Derived.Test.YtloalakpkjbeaaaP4
import Derived.Test.YtloalakpkjbeaaaP5
import Derived.Test.YtloalakpkjbeaaaP7
import Derived.Test.YtloalakpkjbeaaaP10
/-
  Marks in lists of texts; texts among what a statement has made; an argument that is a slice of texts.
-/
namespace Go.Proofs.Ytloalakpkjbeaaa
open Go.RowKit
open Go.ChangeShapes Go.WideShapes Go.ChangeAt Go.Deep

def marksT (k : Nat) : Nat → List ByteArray
  | 0 => []
  | n + 1 => marksT k n ++ [markS (k + n)]
theorem marksT_length (k n : Nat) : (marksT k n).length = n := by
  induction n with
  | zero => rfl
  | succ n ih => simp [marksT, ih]
theorem marksT_get (k : Nat) : ∀ (n i : Nat) (h : i < (marksT k n).length), (marksT k n)[i] = markS (k + i) := by
  intro n
  induction n with
  | zero => intro i h; simp [marksT] at h
  | succ n ih =>
    intro i h
    rw [marksT_length] at h
    by_cases hi : i < n
    · have := ih i (by rw [marksT_length]; exact hi)
      simp only [marksT]
      rw [List.getElem_append_left (by rw [marksT_length]; exact hi)]
      exact this
    · obtain rfl : i = n := by omega
      simp only [marksT]
      rw [List.getElem_append_right (by rw [marksT_length]; exact Nat.le_refl _)]
      simp [marksT_length]
theorem marksT_ok (k n : Nat) (h : k + n ≤ 100000000) : okT (marksT k n) := by
  intro x hx
  obtain ⟨i, hi, rfl⟩ := List.mem_iff_getElem.1 hx
  rw [marksT_get]
  rw [marksT_length] at hi
  have := markS_size (k + i)
  omega

theorem markT_row {w w' : World} {B E g n cap : Nat} {xs : List ByteArray} {k i q : Nat} {C : Nat} (hlt : i < xs.length) (hq : q = k + i) (hC : w.heap.size ≤ C)
    (hown : w.ownsRow B E 1 (.slice (some ⟨g, 0, none⟩) n cap) n (cellsT (marksT k i ++ xs.drop i))) (hb : Below C w w') :
    (w'.setCell ⟨g, i, none⟩ (.string (markS q))).ownsRow B E 1 (.slice (some ⟨g, 0, none⟩) n cap) n (cellsT (marksT k (i + 1) ++ xs.drop (i + 1))) := by
  have h0 := ownsRow_below hown hb hC
  have h1 := (h0.stored i (.string (markS q))).1
  have hlen : (cellsT (marksT k i)).length = i := by rw [cellsT_length, marksT_length]
  have e : (cellsT (marksT k i ++ xs.drop i)).set i (.string (markS q)) = cellsT (marksT k (i + 1) ++ xs.drop (i + 1)) := by
    subst hq
    rw [List.drop_eq_getElem_cons hlt]
    simp only [cellsT, List.map_append, marksT, List.append_assoc, List.map_cons] at hlen ⊢
    rw [List.set_append_right _ _ (by omega), hlen, Nat.sub_self]
    rfl
  rw [e] at h1
  exact h1

/-! ### objects -/
def textsO (v : Value) (xs : List ByteArray) : Obj := ⟨v, 9, 1, xs.length, cellsT xs, okT xs⟩
theorem holdsT {w : World} {B : Nat} {v : Value} {xs : List ByteArray} (h : OwnT w B v xs) : (textsO v xs).holds w B := Obj.holds_of h.1 (fun h0 => by
  have : xs = [] := List.eq_nil_of_length_eq_zero h0
  subst this
  rfl) h.2
theorem Texts_none {w : World} {ao : Option Addr} {c : Nat} (hc : c ≤ 9223372036854775807) : Texts w (.slice ao 0 c) [] := ⟨ao, c, rfl, Nat.zero_le _, hc, fun x hx => by simp at hx, fun k hk => by simp at hk⟩
theorem Objs.newT {W w w' : World} {L : List Obj} {v : Value} {xs : List ByteArray} (H : Objs W w L) (ho : OwnT w' w.heap.size v xs) (hb : Below w.heap.size w w') : Objs W w' (textsO v xs :: L) := H.new (holdsT ho) hb
theorem Objs.ownT {W w : World} {L : List Obj} (H : Objs W w L) (i : Nat) {v : Value} {x : ByteArray} {xs : List ByteArray} (h : L[i]? = some (textsO v (x :: xs))) : OwnT w W.heap.size v (x :: xs) :=
  ⟨(H.own i _ h).1.1 (by simp [textsO]), (H.own i _ h).2⟩
theorem Objs.texts {W w : World} {L : List Obj} (H : Objs W w L) (i : Nat) {v : Value} {xs : List ByteArray} (h : L[i]? = some (textsO v xs)) : Texts w v xs := by
  cases xs with
  | nil =>
    obtain ⟨_, ao, c, e, hc⟩ := (H.own i _ h).1.2 rfl
    have e' : v = .slice ao 0 c := e
    rw [e']
    exact Texts_none hc
  | cons x r => exact (H.ownT i h).texts
theorem Objs.argT {W w : World} {L : List Obj} (H : Objs W w L) {v : Value} {xs : List ByteArray} (h : Texts W v xs) : Texts w v xs := h.mono H.below (Nat.le_refl _)
def MarkedT (W : World) (L : List Obj) (i : Nat) (v : Value) (k n : Nat) (e : Ending) (w' : World) : Prop :=
  ∃ m : Nat, e = .returned (.int .i64 (m : Int)) ∧ ¬ ((m : Int) < 0) ∧ Hid (m = k + n) ∧ Objs W w' (L.set i (textsO v (marksT k n)))
theorem cellsT_snoc (L : List ByteArray) (s : ByteArray) : cellsT (L ++ [s]) = cellsT L ++ [.string s] := by simp [cellsT]
end Go.Proofs.Ytloalakpkjbeaaa
/-
  What an operation returns: something new, or nothing that lies in memory.
-/
namespace Go.Proofs.Ytloalakpkjbeaaa
open Go.RowKit

def NewL (f : Value → Value) (l : List Itm) (w : World) (e : Ending) (w' : World) : Prop :=
  ∃ v, e = .returned (f v) ∧ OwnI 39 w' w.heap.size v l ∧ Below w.heap.size w w'
def NewT (f : Value → Value) (l : List ByteArray) (w : World) (e : Ending) (w' : World) : Prop :=
  ∃ v, e = .returned (f v) ∧ OwnT w' w.heap.size v l ∧ Below w.heap.size w w'
def RetQ (v : Value) (w : World) (e : Ending) (w' : World) : Prop := e = .returned v ∧ Below w.heap.size w w'

theorem bcell {W w1 : World} (hb : Below W.heap.size W w1) : (∀ b o, b < W.heap.size → w1.cell? ⟨b, o, none⟩ = W.cell? ⟨b, o, none⟩) ∧ (∀ b o, b < W.heap.size → w1.frozen? ⟨b, o, none⟩ = W.frozen? ⟨b, o, none⟩) :=
  ⟨fun b o h => hb.cell (p := ⟨b, o, none⟩) h, fun b o h => hb.frozen (p := ⟨b, o, none⟩) h⟩

/-! ### how long it is -/
theorem del_le (l : List Itm) (k : ByteArray) : (delI l k).length ≤ l.length := by
  have := delI_length (l := l) k
  split at this <;> omega
theorem if_len {b : Bool} {l : List Itm} (h : b = true → l.length ≤ 100) : (if b = true then l else []).length ≤ 10000000 := by
  cases b
  · simp
  · have := h rfl
    simp only [if_true]
    omega
theorem okG_len {l : List Itm} {k : ByteArray} (h : okG l k = true) : l.length ≤ 8 := by
  unfold okG at h
  rw [Bool.and_eq_true] at h
  exact valid_len h.1
theorem drp_le (l : List Itm) (k : ByteArray) : (drpL l k).length ≤ 10000000 := if_len fun h => by have := okG_len h; have := del_le l k; omega
theorem mov_le (l : List Itm) (k : ByteArray) (b : Bool) : (movL l k b).length ≤ 10000000 := if_len fun h => by
  have h1 := okG_len h
  have h2 := del_le l k
  unfold movI
  split <;> simp <;> omega
theorem ren_le (l : List Itm) (k t : ByteArray) : (renL l k t).length ≤ 10000000 := if_len fun h => by
  unfold okR at h
  rw [Bool.and_eq_true] at h
  have := valid_len h.2
  omega
theorem over_le (a b : List Itm) : (overL a b).length ≤ 10000000 := if_len fun h => by
  unfold okO at h
  rw [Bool.and_eq_true] at h
  have := valid_len h.2
  omega
theorem tur_le (l : List Itm) : (turL l).length ≤ 10000000 := if_len fun h => by
  have := valid_len h
  simp
  omega
theorem put_le (l : List Itm) (k : ByteArray) (n : Int) : (putL l k n).length ≤ 10000000 := if_len fun h => by
  unfold okP at h
  rw [Bool.and_eq_true] at h
  have := valid_len h.2
  omega
theorem def_le (l : List Itm) (k : ByteArray) (n : Int) : (defL l k n).length ≤ 10000000 := put_le _ _ _
end Go.Proofs.Ytloalakpkjbeaaa
/-
  Lists of texts among what a statement carries.
-/
namespace Go.Proofs.Ytloalakpkjbeaaa
open Go.RowKit

def RowT (lo hi : Nat) (w : World) (v : Value) (xs : List ByteArray) : Prop :=
  (xs ≠ [] ∧ OwnT w lo v xs ∧ ∀ g, v.ownBlock = some g → g < hi) ∨ (xs = [] ∧ ∃ ao c, v = .slice ao 0 c ∧ c ≤ 9223372036854775807)
theorem RowT.keeps {lo hi : Nat} {w w' : World} {v : Value} {xs : List ByteArray} (h : RowT lo hi w v xs) (hk : Keeps (In lo hi) w w') : RowT lo hi w' v xs := by
  rcases h with ⟨hne, ho, hg⟩ | h0
  · exact .inl ⟨hne, ⟨hk.own ho.1 (fun g e => ⟨(own_range ho.1 e).1, hg g e⟩), ho.2⟩, hg⟩
  · exact .inr h0
theorem RowT.texts {lo hi : Nat} {w : World} {v : Value} {xs : List ByteArray} (h : RowT lo hi w v xs) : Texts w v xs := by
  rcases h with ⟨_, ho, _⟩ | ⟨rfl, ao, c, rfl, hc⟩
  · exact ho.texts
  · exact Texts_none hc
theorem RowT.of {B : Nat} {w : World} {v : Value} {xs : List ByteArray} (h : OwnT w B v xs) : RowT B w.heap.size w v xs := by
  cases xs with
  | nil =>
    obtain ⟨ao, cap, e, _, hc⟩ := own_slice h.1
    exact .inr ⟨rfl, ao, cap, e, hc⟩
  | cons x r => exact .inl ⟨by simp, h, fun g e => (own_range h.1 e).2⟩
def textT (lo hi : Nat) (v : Value) (xs : List ByteArray) : Thing := ⟨lo, hi, fun w => RowT lo hi w v xs, fun _ _ hk h => h.keeps hk⟩
theorem Things.texts {W w : World} {L : List Thing} (H : Things W w L) (i : Nat) {lo hi : Nat} {v : Value} {xs : List ByteArray} (h : L[i]? = some (textT lo hi v xs)) : Texts w v xs :=
  RowT.texts (show RowT lo hi w v xs from (H.has i _ h).2.2)
theorem Things.newT {W w w' : World} {L : List Thing} {v : Value} {xs : List ByteArray} (H : Things W w L) (ho : OwnT w' w.heap.size v xs) (hb : Below w.heap.size w w') : Things W w' (textT w.heap.size w'.heap.size v xs :: L) :=
  H.new (Nat.le_refl _) (Nat.le_refl _) (RowT.of ho) hb
end Go.Proofs.Ytloalakpkjbeaaa
/-
  The keys of items, as a statement takes them.
-/
namespace Go.Proofs.Ytloalakpkjbeaaa
open Go.RowKit

theorem kyl_step {l : List Itm} {k : Nat} (h : k < l.length) : keysL (l.take (k + 1)) = keysL (l.take k) ++ [l[k].1] := by
  unfold keysL
  rw [List.take_succ_eq_append_getElem h, List.map_append]
  rfl
theorem kyl_len (l : List Itm) : (keysL l).length = l.length := by unfold keysL; simp
theorem kyl_ok {l : List Itm} (h : okI l) : okT (keysL l) := fun t ht => by
  obtain ⟨x, hx, rfl⟩ := List.mem_map.1 ht
  exact (h x hx).1

set_option maxHeartbeats 1600000 in
set_option maxRecDepth 100000 in
theorem lkeys_any (v : Value) (xs : List Itm) (w : World) (h : Items w v xs) (hn : xs.length ≤ 1000000) :
    Calls Try.prog 29 #[v] w (NewT (fun v => v) (keysL xs) w) := by
  obtain ⟨ao, cap, rfl, hlc, hcm, hok, hcell⟩ := h
  obtain ⟨i0, hi0, hz0, hz1, hz2⟩ := info_parts Try.infoS
  have hown0 := World.ownsRow_lit (base := w.heap.size) (e := 9) (size := 1) w #[] 0 (Nat.le_refl _) (by unfold maxLen; omega) rfl
  go_enter Try.func29, Try.ntmps29
  go_wp2
  go_loopw [3, 4] (fun x i wr => ∃ k : Nat, k ≤ xs.length ∧ i = .int .i64 k ∧ wr.ownsRow w.heap.size 9 1 x (keysL (xs.take k)).length (cellsT (keysL (xs.take k))) ∧ Below w.heap.size w wr ∧ w.heap.size < wr.heap.size) (fun _ i _ => xs.length - (intOf i).toNat)
  case atStart => exact ⟨0, Nat.zero_le _, rfl, hown0, (Below.refl _ _).alloc (Nat.le_refl _) _, by simp⟩
  case round =>
    obtain ⟨k, hk, rfl, hrow, hbl, hsz⟩ := hrel
    by_cases hlt : k < xs.length
    · obtain ⟨b, o, rfl, hb, h1, _⟩ := hcell k hlt
      have c1 := (hbl.cell (p := ⟨b, _, none⟩) hb).trans h1
      have HLN : (keysL (xs.take k)).length ≤ 1000000 := by rw [kyl_len]; simp; omega
      have HE := Lib.hid (kyl_step hlt)
      generalize keysL (xs.take k) = L at *
      obtain ⟨xo, xcap, rfl, _, _⟩ := own_slice hrow
      clear h1
      go_wp2_with (at_builtin; refine wpList_append_own _ rfl _ _ 41 rfl w.heap.size 9 i0 (.string ⟨#[]⟩) 1 16 Try.underlying41 hi0 hz0 hz1 hz2 rfl (by decide) (.slice xo L.length xcap) L.length (cellsT L) rfl (hrow.alloc _) ⟨wr.heap.size, 0, none⟩ 1 1 [.string xs[k].1] rfl rfl (cell_one_new _ _ _) (by intro u hu; simp at hu; subst hu; rfl) (by unfold maxLen; omega) (by omega) (by simp; omega) ?_; intro v' w4 hown4 hgrow4 hnil4)
      have hs4 := hgrow4.size
      simp at hs4
      have hrow4 : w4.ownsRow w.heap.size 9 1 v' (L ++ [xs[k].1]).length (cellsT (L ++ [xs[k].1])) := by
        have e3 : (L ++ [xs[k].1]).length = L.length + 1 := by simp
        rw [cellsT_snoc, e3]; exact hown4
      have hb4 := (hbl.alloc (Nat.le_of_lt hsz) _).grown hgrow4 (by simp; omega) (fun j hj => (hrow.lt j hj).1)
      rw [← HE.out] at hrow4
      clear hown4 hgrow4 hnil4 hrow c1
      go_roundw
      case rel => exact ⟨k + 1, by omega, by go_num, hrow4, hb4, by omega⟩
      case measure => simp [intOf]; omega
    · obtain rfl : k = xs.length := by omega
      rw [List.take_length] at hrow
      go_wp2
      go_ret
      exact ⟨_, rfl, ⟨hrow, kyl_ok hok⟩, hbl⟩
end Go.Proofs.Ytloalakpkjbeaaa
/-
  Items equal in order, by the model and by the program.
-/
namespace Go.Proofs.Ytloalakpkjbeaaa
open Go.RowKit

theorem Items.litcell {w : World} {ao : Option Addr} {xs : List Itm} {cap : Nat} (h : Items w (.slice ao xs.length cap) xs) : ∀ k (_ : k < xs.length), ∃ b o, ao = some ⟨b, o, none⟩ ∧ b < w.heap.size ∧ w.cell? ⟨b, o + k * 2, none⟩ = some (.string xs[k].1) ∧ w.cell? ⟨b, o + k * 2 + 1, none⟩ = some (.int .i64 xs[k].2) := by
  obtain ⟨ao', cap', e, _, _, _, hcell⟩ := h
  simp only [Value.slice.injEq] at e
  obtain ⟨rfl, _, rfl⟩ := e
  exact hcell
theorem sord_no {a b : List Itm} (H : Hid (okB a b = false)) : false = sordB a b := by unfold sordB; rw [H.out]; rfl
theorem sord_yes {a b : List Itm} (H : Hid (okB a b = true)) : sordB a b = decide (a = b) := by unfold sordB; rw [H.out]; rfl

end Go.Proofs.Ytloalakpkjbeaaa
