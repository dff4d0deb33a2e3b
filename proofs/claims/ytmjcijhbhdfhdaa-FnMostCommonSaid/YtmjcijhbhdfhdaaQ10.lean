/-
  Str2, New, FreshQ, ThingT, KyS, AppT, KyM, OrdEq.
-/
import Derived.Deep.RegionHeld3
import Derived.Deep.Slices
import Derived.Test.YtmjcijhbhdfhdaaQ0
import Derived.Test.YtmjcijhbhdfhdaaQ4
import Derived.Test.YtmjcijhbhdfhdaaQ6
import Derived.Test.YtmjcijhbhdfhdaaQ7
import Derived.Test.YtmjcijhbhdfhdaaQ9
/-
  Marks in lists of texts; texts among what a statement has made; an argument that is a slice of texts.
-/
namespace Go.Proofs.Ytmjcijhbhdfhdaa
open Go.RowKit
open Go.ChangeShapes Go.WideShapes Go.ChangeAt Go.Deep

def marksT (k : Nat) : Nat → List ByteArray
  | 0 => []
  | n + 1 => marksT k n ++ [markS (k + n)]
theorem marksT_length (k n : Nat) : (marksT k n).length = n := by
  induction n with
  | zero => rfl
  | succ n ih => simp [marksT, ih]
theorem marksT_get (k : Nat) : ∀ (n i : Nat) (h : i < (marksT k n).length), (marksT k n)[i] = markS (k + i) := by
  intro n
  induction n with
  | zero => intro i h; simp [marksT] at h
  | succ n ih =>
    intro i h
    rw [marksT_length] at h
    by_cases hi : i < n
    · have := ih i (by rw [marksT_length]; exact hi)
      simp only [marksT]
      rw [List.getElem_append_left (by rw [marksT_length]; exact hi)]
      exact this
    · obtain rfl : i = n := by omega
      simp only [marksT]
      rw [List.getElem_append_right (by rw [marksT_length]; exact Nat.le_refl _)]
      simp [marksT_length]
theorem marksT_ok (k n : Nat) (h : k + n ≤ 100000000) : okT (marksT k n) := by
  intro x hx
  obtain ⟨i, hi, rfl⟩ := List.mem_iff_getElem.1 hx
  rw [marksT_get]
  rw [marksT_length] at hi
  have := markS_size (k + i)
  omega

theorem markT_row {w w' : World} {B E g n cap : Nat} {xs : List ByteArray} {k i q : Nat} {C : Nat} (hlt : i < xs.length) (hq : q = k + i) (hC : w.heap.size ≤ C)
    (hown : w.ownsRow B E 1 (.slice (some ⟨g, 0, none⟩) n cap) n (cellsT (marksT k i ++ xs.drop i))) (hb : Below C w w') :
    (w'.setCell ⟨g, i, none⟩ (.string (markS q))).ownsRow B E 1 (.slice (some ⟨g, 0, none⟩) n cap) n (cellsT (marksT k (i + 1) ++ xs.drop (i + 1))) := by
  have h0 := ownsRow_below hown hb hC
  have h1 := (h0.stored i (.string (markS q))).1
  have hlen : (cellsT (marksT k i)).length = i := by rw [cellsT_length, marksT_length]
  have e : (cellsT (marksT k i ++ xs.drop i)).set i (.string (markS q)) = cellsT (marksT k (i + 1) ++ xs.drop (i + 1)) := by
    subst hq
    rw [List.drop_eq_getElem_cons hlt]
    simp only [cellsT, List.map_append, marksT, List.append_assoc, List.map_cons] at hlen ⊢
    rw [List.set_append_right _ _ (by omega), hlen, Nat.sub_self]
    rfl
  rw [e] at h1
  exact h1

/-! ### objects -/
def textsO (v : Value) (xs : List ByteArray) : Obj := ⟨v, 9, 1, xs.length, cellsT xs, okT xs⟩
theorem holdsT {w : World} {B : Nat} {v : Value} {xs : List ByteArray} (h : OwnT w B v xs) : (textsO v xs).holds w B := Obj.holds_of h.1 (fun h0 => by
  have : xs = [] := List.eq_nil_of_length_eq_zero h0
  subst this
  rfl) h.2
theorem Texts_none {w : World} {ao : Option Addr} {c : Nat} (hc : c ≤ 9223372036854775807) : Texts w (.slice ao 0 c) [] := ⟨ao, c, rfl, Nat.zero_le _, hc, fun x hx => by simp at hx, fun k hk => by simp at hk⟩
theorem Objs.newT {W w w' : World} {L : List Obj} {v : Value} {xs : List ByteArray} (H : Objs W w L) (ho : OwnT w' w.heap.size v xs) (hb : Below w.heap.size w w') : Objs W w' (textsO v xs :: L) := H.new (holdsT ho) hb
theorem Objs.ownT {W w : World} {L : List Obj} (H : Objs W w L) (i : Nat) {v : Value} {x : ByteArray} {xs : List ByteArray} (h : L[i]? = some (textsO v (x :: xs))) : OwnT w W.heap.size v (x :: xs) :=
  ⟨(H.own i _ h).1.1 (by simp [textsO]), (H.own i _ h).2⟩
theorem Objs.texts {W w : World} {L : List Obj} (H : Objs W w L) (i : Nat) {v : Value} {xs : List ByteArray} (h : L[i]? = some (textsO v xs)) : Texts w v xs := by
  cases xs with
  | nil =>
    obtain ⟨_, ao, c, e, hc⟩ := (H.own i _ h).1.2 rfl
    have e' : v = .slice ao 0 c := e
    rw [e']
    exact Texts_none hc
  | cons x r => exact (H.ownT i h).texts
theorem Objs.argT {W w : World} {L : List Obj} (H : Objs W w L) {v : Value} {xs : List ByteArray} (h : Texts W v xs) : Texts w v xs := h.mono H.below (Nat.le_refl _)
def MarkedT (W : World) (L : List Obj) (i : Nat) (v : Value) (k n : Nat) (e : Ending) (w' : World) : Prop :=
  ∃ m : Nat, e = .returned (.int .i64 (m : Int)) ∧ ¬ ((m : Int) < 0) ∧ Hid (m = k + n) ∧ Objs W w' (L.set i (textsO v (marksT k n)))
theorem cellsT_snoc (L : List ByteArray) (s : ByteArray) : cellsT (L ++ [s]) = cellsT L ++ [.string s] := by simp [cellsT]
end Go.Proofs.Ytmjcijhbhdfhdaa
/-
  What an operation returns: something new, or nothing that lies in memory.
-/
namespace Go.Proofs.Ytmjcijhbhdfhdaa
open Go.RowKit

def NewL (f : Value → Value) (l : List Itm) (w : World) (e : Ending) (w' : World) : Prop :=
  ∃ v, e = .returned (f v) ∧ OwnI 30 w' w.heap.size v l ∧ Below w.heap.size w w'
def NewT (f : Value → Value) (l : List ByteArray) (w : World) (e : Ending) (w' : World) : Prop :=
  ∃ v, e = .returned (f v) ∧ OwnT w' w.heap.size v l ∧ Below w.heap.size w w'
def RetQ (v : Value) (w : World) (e : Ending) (w' : World) : Prop := e = .returned v ∧ Below w.heap.size w w'

theorem bcell {W w1 : World} (hb : Below W.heap.size W w1) : (∀ b o, b < W.heap.size → w1.cell? ⟨b, o, none⟩ = W.cell? ⟨b, o, none⟩) ∧ (∀ b o, b < W.heap.size → w1.frozen? ⟨b, o, none⟩ = W.frozen? ⟨b, o, none⟩) :=
  ⟨fun b o h => hb.cell (p := ⟨b, o, none⟩) h, fun b o h => hb.frozen (p := ⟨b, o, none⟩) h⟩

/-! ### how long it is -/
theorem del_le (l : List Itm) (k : ByteArray) : (delI l k).length ≤ l.length := by
  have := delI_length (l := l) k
  split at this <;> omega
theorem if_len {b : Bool} {l : List Itm} (h : b = true → l.length ≤ 100) : (if b = true then l else []).length ≤ 10000000 := by
  cases b
  · simp
  · have := h rfl
    simp only [if_true]
    omega
theorem okG_len {l : List Itm} {k : ByteArray} (h : okG l k = true) : l.length ≤ 8 := by
  unfold okG at h
  rw [Bool.and_eq_true] at h
  exact valid_len h.1
theorem drp_le (l : List Itm) (k : ByteArray) : (drpL l k).length ≤ 10000000 := if_len fun h => by have := okG_len h; have := del_le l k; omega
theorem mov_le (l : List Itm) (k : ByteArray) (b : Bool) : (movL l k b).length ≤ 10000000 := if_len fun h => by
  have h1 := okG_len h
  have h2 := del_le l k
  unfold movI
  split <;> simp <;> omega
theorem ren_le (l : List Itm) (k t : ByteArray) : (renL l k t).length ≤ 10000000 := if_len fun h => by
  unfold okR at h
  rw [Bool.and_eq_true] at h
  have := valid_len h.2
  omega
theorem over_le (a b : List Itm) : (overL a b).length ≤ 10000000 := if_len fun h => by
  unfold okO at h
  rw [Bool.and_eq_true] at h
  have := valid_len h.2
  omega
theorem tur_le (l : List Itm) : (turL l).length ≤ 10000000 := if_len fun h => by
  have := valid_len h
  simp
  omega
theorem put_le (l : List Itm) (k : ByteArray) (n : Int) : (putL l k n).length ≤ 10000000 := if_len fun h => by
  unfold okP at h
  rw [Bool.and_eq_true] at h
  have := valid_len h.2
  omega
theorem def_le (l : List Itm) (k : ByteArray) (n : Int) : (defL l k n).length ≤ 10000000 := put_le _ _ _
end Go.Proofs.Ytmjcijhbhdfhdaa
/-
  Contracts met in the class of fresh worlds.
-/
namespace Go.Proofs.Ytmjcijhbhdfhdaa
open Go.RowKit

theorem fresh_Q {f : Nat} {us : Array Value} {v : Value} {w : World} {p : Fresh w} (h : Calls Try.prog f us p.at' (RetQ v p.at')) :
    Calls Try.prog f us p.at' fun e w'' => e = .returned v ∧ ∃ p' : Fresh w, w'' = p'.at' := fresh_of h
end Go.Proofs.Ytmjcijhbhdfhdaa
/-
  Lists of texts among what a statement carries.
-/
namespace Go.Proofs.Ytmjcijhbhdfhdaa
open Go.RowKit

def RowT (lo hi : Nat) (w : World) (v : Value) (xs : List ByteArray) : Prop :=
  (xs ≠ [] ∧ OwnT w lo v xs ∧ ∀ g, v.ownBlock = some g → g < hi) ∨ (xs = [] ∧ ∃ ao c, v = .slice ao 0 c ∧ c ≤ 9223372036854775807)
theorem RowT.keeps {lo hi : Nat} {w w' : World} {v : Value} {xs : List ByteArray} (h : RowT lo hi w v xs) (hk : Keeps (In lo hi) w w') : RowT lo hi w' v xs := by
  rcases h with ⟨hne, ho, hg⟩ | h0
  · exact .inl ⟨hne, ⟨hk.own ho.1 (fun g e => ⟨(own_range ho.1 e).1, hg g e⟩), ho.2⟩, hg⟩
  · exact .inr h0
theorem RowT.texts {lo hi : Nat} {w : World} {v : Value} {xs : List ByteArray} (h : RowT lo hi w v xs) : Texts w v xs := by
  rcases h with ⟨_, ho, _⟩ | ⟨rfl, ao, c, rfl, hc⟩
  · exact ho.texts
  · exact Texts_none hc
theorem RowT.of {B : Nat} {w : World} {v : Value} {xs : List ByteArray} (h : OwnT w B v xs) : RowT B w.heap.size w v xs := by
  cases xs with
  | nil =>
    obtain ⟨ao, cap, e, _, hc⟩ := own_slice h.1
    exact .inr ⟨rfl, ao, cap, e, hc⟩
  | cons x r => exact .inl ⟨by simp, h, fun g e => (own_range h.1 e).2⟩
def textT (lo hi : Nat) (v : Value) (xs : List ByteArray) : Thing := ⟨lo, hi, fun w => RowT lo hi w v xs, fun _ _ hk h => h.keeps hk⟩
theorem Things.texts {W w : World} {L : List Thing} (H : Things W w L) (i : Nat) {lo hi : Nat} {v : Value} {xs : List ByteArray} (h : L[i]? = some (textT lo hi v xs)) : Texts w v xs :=
  RowT.texts (show RowT lo hi w v xs from (H.has i _ h).2.2)
theorem Things.newT {W w w' : World} {L : List Thing} {v : Value} {xs : List ByteArray} (H : Things W w L) (ho : OwnT w' w.heap.size v xs) (hb : Below w.heap.size w w') : Things W w' (textT w.heap.size w'.heap.size v xs :: L) :=
  H.new (Nat.le_refl _) (Nat.le_refl _) (RowT.of ho) hb
end Go.Proofs.Ytmjcijhbhdfhdaa
/-
  The keys of items as a new list of texts: the model's and the program's.
-/
namespace Go.Proofs.Ytmjcijhbhdfhdaa
open Go.RowKit

def kysI (l : List Itm) : List ByteArray := l.map Prod.fst
theorem kys_step {l : List Itm} {k : Nat} (h : k < l.length) : kysI (l.take (k + 1)) = kysI (l.take k) ++ [l[k].1] := by
  unfold kysI
  rw [List.take_succ_eq_append_getElem h, List.map_append]
  rfl
theorem kys_len (l : List Itm) : (kysI l).length = l.length := by unfold kysI; simp
theorem kys_ok {l : List Itm} (h : okI l) : okT (kysI l) := fun t ht => by
  obtain ⟨x, hx, rfl⟩ := List.mem_map.1 ht
  exact (h x hx).1

theorem cell_new1 (w : World) (X : Go.Obj) (a : Value) (E : TypeId) : ∀ (j : Nat) (u : Value), [a][j]? = some u → ((w.alloc X).alloc (.cells #[a] E)).cell? ((⟨w.heap.size + 1, 0, none⟩ : Addr).add j) = some u := by
  have h := cell_one_new (w.alloc X) a E
  have e : (w.alloc X).heap.size = w.heap.size + 1 := by simp
  rw [e] at h
  exact h

set_option maxHeartbeats 1600000 in
set_option maxRecDepth 100000 in
theorem keysOf_any (v : Value) (xs : List Itm) (w : World) (h : Items w v xs) (hn : xs.length ≤ 100000) :
    Calls Try.prog 72 #[v] w (NewT (fun v => v) (kysI xs) w) := by
  obtain ⟨ao, cap, rfl, hlc, hcm, hok, hcell⟩ := h
  obtain ⟨i0, hi0, hz0, hz1, hz2⟩ := info_parts Try.infoS
  have hbytes : i0.bytes * xs.length ≤ 281474976710656 := by rw [hz2]; omega
  go_enter Try.func72, Try.ntmps72
  go_wp2_with (at_make; refine wpList_make_own _ rfl _ _ 33 rfl w.heap.size 9 i0 _ 1 Try.underlying33 hi0 hz0 hz1 _ _ _ xs.length rfl rfl rfl hbytes (by unfold maxLen; omega) (Nat.le_refl _) ?_; intro w1 hown1 hgrow1)
  have hb1 : Below w.heap.size w w1 := (Below.refl _ _).grown hgrow1 (Nat.le_refl _) (fun k hk => by cases hk)
  have hlt0 := (hown1.lt w.heap.size rfl).2
  have HO1 := Lib.hid hown1
  clear hgrow1 hown1
  go_wp2_with fail
  go_loopw [3, 11] (fun x i wr => ∃ k : Nat, k ≤ xs.length ∧ i = .int .i64 k ∧ wr.ownsRow w.heap.size 9 1 x (kysI (xs.take k)).length (cellsT (kysI (xs.take k))) ∧ Below w.heap.size w wr ∧ w.heap.size < wr.heap.size) (fun _ i _ => xs.length - (intOf i).toNat)
  case atStart => exact ⟨0, Nat.zero_le _, rfl, HO1.out, hb1, hlt0⟩
  case round =>
    obtain ⟨k, hk, rfl, hrow, hbl, hsz⟩ := hrel
    by_cases hlt : k < xs.length
    · obtain ⟨b, o, rfl, hb, h1, h2⟩ := hcell k hlt
      have c1 := (hbl.cell (p := ⟨b, _, none⟩) hb).trans h1
      have c2 := (hbl.cell (p := ⟨b, _, none⟩) hb).trans h2
      have HLN : (kysI (xs.take k)).length ≤ 1000000 := by rw [kys_len]; simp; omega
      have HE := Lib.hid (kys_step hlt)
      generalize kysI (xs.take k) = L at *
      obtain ⟨xo, xcap, rfl, _, _⟩ := own_slice hrow
      clear h1 h2
      go_wp2_with (at_builtin; refine wpList_append_own _ rfl _ _ 33 rfl w.heap.size 9 i0 (.string ⟨#[]⟩) 1 16 Try.underlying33 hi0 hz0 hz1 hz2 rfl (by decide) (.slice xo L.length xcap) L.length (cellsT L) rfl ((hrow.alloc _).alloc _) ⟨wr.heap.size + 1, 0, none⟩ 1 1 [.string xs[k].1] rfl rfl (cell_new1 _ _ _ _) (by intro u hu; simp at hu; subst hu; rfl) (by unfold maxLen; omega) (by omega) (by simp; omega) ?_; intro v' w4 hown4 hgrow4 hnil4)
      have hs4 := hgrow4.size
      simp at hs4
      have hrow4 : w4.ownsRow w.heap.size 9 1 v' (L ++ [xs[k].1]).length (cellsT (L ++ [xs[k].1])) := by
        have e3 : (L ++ [xs[k].1]).length = L.length + 1 := by simp
        rw [cellsT_snoc, e3]; exact hown4
      have hb4 := ((hbl.alloc (Nat.le_of_lt hsz) _).alloc (by simp; omega) _).grown hgrow4 (by simp; omega) (fun j hj => (hrow.lt j hj).1)
      rw [← HE.out] at hrow4
      clear hown4 hgrow4 hnil4 hrow c1 c2
      go_roundw
      case rel => exact ⟨k + 1, by omega, by go_num, hrow4, hb4, by omega⟩
      case measure => simp [intOf]; omega
    · obtain rfl : k = xs.length := by omega
      rw [List.take_length] at hrow
      go_wp2
      go_ret
      exact ⟨_, rfl, ⟨hrow, kys_ok hok⟩, hbl⟩
end Go.Proofs.Ytmjcijhbhdfhdaa
/-
  Texts appended to a row of texts.
-/
namespace Go.Proofs.Ytmjcijhbhdfhdaa
open Go.RowKit

theorem cellsT_one (xs : List ByteArray) : ∀ u ∈ cellsT xs, u.oneCell' = true := by
  intro u hu
  obtain ⟨x, _, rfl⟩ := List.mem_map.1 hu
  rfl
theorem Texts.news {w : World} {b o n cap : Nat} {sp : Option Nat} {xs : List ByteArray} (h : Texts w (.slice (some ⟨b, o, sp⟩) n cap) xs) : ∀ j u, (cellsT xs)[j]? = some u → w.cell? ((⟨b, o, sp⟩ : Addr).add j) = some u := by
  intro j u hu
  obtain ⟨ao, cap', e, hl, hc, hok, hcell⟩ := h
  simp only [Value.slice.injEq] at e
  obtain ⟨rfl, rfl, rfl⟩ := e
  have hj : j < xs.length := by rw [← cellsT_length]; exact (List.getElem?_eq_some_iff.1 hu).1
  obtain ⟨b', o', e, _, h1⟩ := hcell j hj
  simp only [Option.some.injEq, Addr.mk.injEq] at e
  obtain ⟨rfl, rfl, rfl⟩ := e
  rw [cellsT_get hj] at hu
  rw [Addr.add_lit, h1, hu]
theorem Texts.slice {w : World} {v : Value} {xs : List ByteArray} (h : Texts w v xs) : ∃ ao cap, v = .slice ao xs.length cap ∧ xs.length ≤ cap ∧ cap ≤ 9223372036854775807 := by
  obtain ⟨ao, cap, e, h1, h2, _⟩ := h
  exact ⟨ao, cap, e, h1, h2⟩
theorem Texts.ok {w : World} {v : Value} {xs : List ByteArray} (h : Texts w v xs) : okT xs := by
  obtain ⟨ao, cap, e, h1, h2, h3, _⟩ := h
  exact h3
/-- Texts appended. -/
theorem run_append_texts (w : World) (ty : TypeId) (base : Nat) (v : Value) (n : Nat) (xs : List Value) (hown : w.ownsRow base 9 1 v n xs)
    (u : Value) (ys : List ByteArray) (hy : Texts w u ys) (hn : n ≤ 1000000) (hm : ys.length ≤ 1000000) (hbase : base ≤ w.heap.size) :
    ∃ v' w', (Builtin.append_ #[33, 33] ty #[v, u]).run Try.prog w = .ok v' w' ∧ w'.ownsRow base 9 1 v' (n + ys.length) (xs ++ cellsT ys) ∧ w.grownBy w' v.ownBlock := by
  obtain ⟨i0, hi0, hz0, hz1, hz2⟩ := info_parts Try.infoS
  have hy0 := hy
  obtain ⟨ao, cap, rfl, hlc, hcm, hok, hcell⟩ := hy
  cases ao with
  | none =>
    have hx0 : ys = [] := by
      cases ys with
      | nil => rfl
      | cons y r => obtain ⟨b, o, e, _⟩ := hcell 0 (by simp); cases e
    subst hx0
    have hrun := run_append_nothing (P := Try.prog) (w := w) base 33 ty 9 i0 1 Try.underlying33 hi0 v n xs hown cap
    have e : cellsT [] = [] := rfl
    exact ⟨v, w, hrun, by rw [e, List.append_nil]; exact hown, World.grownBy.refl _ _⟩
  | some ad =>
    obtain ⟨b, o', sp⟩ := ad
    obtain ⟨v', w', hrun, r1, r2, _⟩ := run_append_own (P := Try.prog) w base 33 ty 9 i0 (.string ⟨#[]⟩) 1 16 Try.underlying33 hi0 hz0 hz1 hz2 rfl (by decide) v n xs hown ⟨b, o', sp⟩ ys.length cap (cellsT ys) (by rw [cellsT_length, Nat.mul_one]) hy0.news (cellsT_one ys) (by unfold maxLen; omega) (by omega) hbase
    exact ⟨v', w', hrun, r1, r2⟩
theorem wpl_append_texts (w : World) {ops : Array Oper} {rest : List Oper} {o : Oper} {a : Act} {Q : Exit → Act → World → Prop} (hgd : o.guard = none) (s x : Operand)
    (ho : o.op = .call { callee := .builtin .append, args := #[s, x], argTypes := #[33, 33] })
    (base : Nat) (v : Value) (n : Nat) (xs : List Value) (hs : a.eval s = v) (hown : w.ownsRow base 9 1 v n xs)
    (u : Value) (ys : List ByteArray) (hx : a.eval x = u) (hy : Texts w u ys) (hn : n ≤ 1000000) (hm : ys.length ≤ 1000000) (hbase : base ≤ w.heap.size)
    (h : ∀ v' w', w'.ownsRow base 9 1 v' (n + ys.length) (xs ++ cellsT ys) → w.grownBy w' v.ownBlock → wpList Try.prog ops Q rest (a.put o.dst v') w') : wpList Try.prog ops Q (o :: rest) a w := by
  obtain ⟨v', w', hrun, r1, r2⟩ := run_append_texts w o.type base v n xs hown u ys hy hn hm hbase
  refine wpList_plain hgd fun K hK => ?_
  unfold Oper.wp
  simp [execOp, ho, resolve, invoke, builtin, hs, hx, hrun, Result.andThen]
  exact hK _ _ (h v' w' r1 r2)
theorem step_append_texts (w : World) {ops : Array Oper} {o : Oper} {a : Act} {K : Act → World → Prop} {Q : Exit → Act → World → Prop} {E : Prop} (hgd : o.guard = none) (s x : Operand)
    (ho : o.op = .call { callee := .builtin .append, args := #[s, x], argTypes := #[33, 33] })
    (base : Nat) (v : Value) (n : Nat) (xs : List Value) (hs : a.eval s = v) (hown : w.ownsRow base 9 1 v n xs)
    (u : Value) (ys : List ByteArray) (hx : a.eval x = u) (hy : Texts w u ys) (hn : n ≤ 1000000) (hm : ys.length ≤ 1000000) (hbase : base ≤ w.heap.size)
    (h : ∀ v' w', w'.ownsRow base 9 1 v' (n + ys.length) (xs ++ cellsT ys) → w.grownBy w' v.ownBlock → K (a.put o.dst v') w') :
    if Region.wanted o (yielded ops a.tmps) = true then Oper.wp Try.prog o a w K Q else E := by
  have hw : Region.wanted o (yielded ops a.tmps) = true := by simp [Region.wanted, hgd]
  rw [if_pos hw]
  obtain ⟨v', w', hrun, r1, r2⟩ := run_append_texts w o.type base v n xs hown u ys hy hn hm hbase
  unfold Oper.wp
  simp [execOp, ho, resolve, invoke, builtin, hs, hx, hrun, Result.andThen]
  exact h v' w' r1 r2
theorem okT_append {a b : List ByteArray} (h : okT a) (h' : okT b) : okT (a ++ b) := fun t ht => by
  rcases List.mem_append.1 ht with h1 | h1
  · exact h t h1
  · exact h' t h1
theorem cellsT_append (a b : List ByteArray) : cellsT (a ++ b) = cellsT a ++ cellsT b := by simp [cellsT]
theorem OwnT.appended {w : World} {B : Nat} {v : Value} {a b : List ByteArray} (h : w.ownsRow B 9 1 v (a.length + b.length) (cellsT a ++ cellsT b)) (ha : okT a) (hb : okT b) : OwnT w B v (a ++ b) :=
  ⟨by rw [cellsT_append, List.length_append]; exact h, okT_append ha hb⟩
end Go.Proofs.Ytmjcijhbhdfhdaa
/-
  Keys that two lists have, or one alone: by the model.
-/
namespace Go.Proofs.Ytmjcijhbhdfhdaa
open Go.RowKit

def okAB (a b : List Itm) : Bool := validI a && validI b
def shrI (a b : List Itm) : List Itm := a.filter fun x => hasI b x.1
def mkyL (a b : List Itm) : List ByteArray := if okAB a b = true then kysI (shrI a b) else []
def lkL (a b : List Itm) : List ByteArray := if okAB a b = true then kysI (restI a b) else []
def jkL (a b : List Itm) : List ByteArray := if okAB a b = true then kysI a ++ kysI (restI b a) else []
def okL (a b : List Itm) : List ByteArray := if okAB a b = true then kysI (restI a b) ++ kysI (restI b a) else []
def apB (a b : List Itm) : Bool := okAB a b && decide ((shrI a b).length = 0)
theorem okAB_iff {a b : List Itm} : okAB a b = true ↔ validI a = true ∧ validI b = true := by unfold okAB; rw [Bool.and_eq_true]
theorem okAB_comm (a b : List Itm) : okAB a b = okAB b a := Bool.and_comm _ _
theorem shr_eq (a b : List Itm) : restI a (restI a b) = shrI a b := by
  unfold restI shrI
  refine List.filter_congr fun x hx => ?_
  have e : hasI (a.filter fun y => !hasI b y.1) x.1 = !hasI b x.1 := by
    cases h : hasI b x.1
    · exact hasI_mem.2 ⟨x, List.mem_filter.2 ⟨hx, by simp [h]⟩, rfl⟩
    · rw [Bool.not_true, ← Bool.not_eq_true]
      intro hh
      obtain ⟨y, hy, he⟩ := hasI_mem.1 hh
      have := (List.mem_filter.1 hy).2
      rw [he, h] at this
      cases this
  show (!hasI (a.filter fun y => !hasI b y.1) x.1) = _
  rw [e, Bool.not_not]
theorem shr_le (a b : List Itm) : (shrI a b).length ≤ a.length := List.length_filter_le _ _
theorem gt_le {c : Bool} {l : List ByteArray} (h : c = true → l.length ≤ 100) : (if c = true then l else []).length ≤ 10000000 := by
  cases c
  · simp
  · have := h rfl
    simp only [if_true]
    omega
theorem mk_le (a b : List Itm) : (mkyL a b).length ≤ 10000000 := gt_le fun h => by
  have := valid_len (okAB_iff.1 h).1
  have := shr_le a b
  rw [kys_len]
  omega
theorem lk_le (a b : List Itm) : (lkL a b).length ≤ 10000000 := gt_le fun h => by
  have := valid_len (okAB_iff.1 h).1
  have := rest_le a b
  rw [kys_len]
  omega
theorem jk_le (a b : List Itm) : (jkL a b).length ≤ 10000000 := gt_le fun h => by
  have := valid_len (okAB_iff.1 h).1
  have := valid_len (okAB_iff.1 h).2
  have := rest_le b a
  rw [List.length_append, kys_len, kys_len]
  omega
theorem ok_le (a b : List Itm) : (okL a b).length ≤ 10000000 := gt_le fun h => by
  have := valid_len (okAB_iff.1 h).1
  have := valid_len (okAB_iff.1 h).2
  have := rest_le b a
  have := rest_le a b
  rw [List.length_append, kys_len, kys_len]
  omega
theorem gt_no {c : Bool} {l : List ByteArray} (h : c = false) : (if c = true then l else []) = [] := by rw [h]; rfl
theorem gt_yes {c : Bool} {l : List ByteArray} (h : c = true) : (if c = true then l else []) = l := by rw [h]; rfl

theorem ret_b {a b : Bool} (h : a = b) : Ending.returned (.bool a) = .returned (.bool b) := by rw [h]
end Go.Proofs.Ytmjcijhbhdfhdaa
/-
  Items equal in order, by the model and by the program.
-/
namespace Go.Proofs.Ytmjcijhbhdfhdaa
open Go.RowKit

theorem Items.litcell {w : World} {ao : Option Addr} {xs : List Itm} {cap : Nat} (h : Items w (.slice ao xs.length cap) xs) : ∀ k (_ : k < xs.length), ∃ b o, ao = some ⟨b, o, none⟩ ∧ b < w.heap.size ∧ w.cell? ⟨b, o + k * 2, none⟩ = some (.string xs[k].1) ∧ w.cell? ⟨b, o + k * 2 + 1, none⟩ = some (.int .i64 xs[k].2) := by
  obtain ⟨ao', cap', e, _, _, _, hcell⟩ := h
  simp only [Value.slice.injEq] at e
  obtain ⟨rfl, _, rfl⟩ := e
  exact hcell
theorem sord_no {a b : List Itm} (H : Hid (okB a b = false)) : false = sordB a b := by unfold sordB; rw [H.out]; rfl
theorem sord_yes {a b : List Itm} (H : Hid (okB a b = true)) : sordB a b = decide (a = b) := by unfold sordB; rw [H.out]; rfl

set_option maxHeartbeats 1600000 in
set_option maxRecDepth 100000 in
theorem slEqual_any (va vb : Value) (a b : List Itm) (w : World) (ha : Items w va a) (hb : Items w vb b) :
    Calls Try.prog 89 #[va, vb] w (RetQ (.bool (decide (a = b))) w) := by
  obtain ⟨ao, cap, rfl, hlc, hcm, hok, hcell⟩ := ha
  obtain ⟨ao', cap', rfl, hlc', hcm', hok', hcell'⟩ := hb
  have hg1 := item_neq
  have hg2 := item_guard
  go_enter Try.func89, Try.ntmps89
  by_cases hl : a.length = b.length
  · have hlb := eqLen_lit hl
    have HL := Lib.hid hl
    clear hl
    go_wp2
    go_loopw [13] (fun i wr => ∃ k : Nat, k ≤ a.length ∧ i = .int .i64 k ∧ Hid (decide (a = b) = eqFrom k a b) ∧ Below w.heap.size w wr) (fun i _ => a.length - (intOf i).toNat)
    case atStart => exact ⟨0, Nat.zero_le _, rfl, rfl, Below.refl _ _⟩
    case round =>
      obtain ⟨k, hk, rfl, HQ, hbl⟩ := hrel
      by_cases hlt : k < a.length
      · obtain ⟨b1, o1, rfl, hb1', h1, h2⟩ := hcell k hlt
        have hlt' : k < b.length := by have := HL.out; omega
        obtain ⟨b2, o2, rfl, hb2', h1', h2'⟩ := hcell' k hlt'
        have c1 := (hbl.cell (p := ⟨b1, _, none⟩) hb1').trans h1
        have c2 := (hbl.cell (p := ⟨b1, _, none⟩) hb1').trans h2
        have c3 := (hbl.cell (p := ⟨b2, _, none⟩) hb2').trans h1'
        have c4 := (hbl.cell (p := ⟨b2, _, none⟩) hb2').trans h2'
        have e1 := Lib.hid (eqFrom_step hlt hlt')
        have e2 := Lib.hid (eqI_parts a[k] b[k])
        clear h1 h2 h1' h2'
        go_wp2_with fail
        refine wp_region_still_tail 8 (by kernel_rfl) (by kernel_rfl) ?_
        simp only [List.take_succ_cons, List.take_zero, List.drop_succ_cons, List.drop_zero]
        repeat still_step
        refine wpStill_nil ?_
        change wpList _ _ _ _ _ wr.drew
        go_wp2
        · have ht : (!a[k].fst.toList == b[k].fst.toList) = true ∨ (!a[k].snd == b[k].snd) = true := by assumption
          go_ret
          refine ⟨ret_bool ?_, hbl.drew⟩
          have e3 : eqIB a[k] b[k] = false := by
            unfold eqIB
            rw [e2.out]
            rcases ht with ht | ht
            · simp only [Bool.not_eq_true'] at ht
              rw [ht, Bool.false_and]
            · simp only [Bool.not_eq_true'] at ht
              rw [ht, Bool.and_false]
          skip
          rw [HQ.out, e1.out, e3, Bool.false_and]
        · have ht : (!a[k].fst.toList == b[k].fst.toList) = false ∧ (!a[k].snd == b[k].snd) = false := by assumption
          have e3 : eqIB a[k] b[k] = true := by
            unfold eqIB
            rw [e2.out]
            simp only [Bool.not_eq_false'] at ht
            rw [ht.1, ht.2, Bool.true_and]
          have hq : Hid (decide (a = b) = eqFrom (k + 1) a b) := by unfold Hid; rw [HQ.out, e1.out, e3, Bool.true_and]
          clear ht c1 c2 c3 c4
          go_roundw
          case rel => exact ⟨k + 1, by omega, by go_num, hq, hbl.drew⟩
          case measure => simp [intOf]; omega
      · obtain rfl : k = a.length := by omega
        go_wp2
        go_ret
        refine ⟨ret_bool ?_, hbl⟩
        skip
        rw [HQ.out]
        unfold eqFrom
        rw [List.drop_length, HL.out, List.drop_length]
        rfl
  · go_wp2
    go_ret
    refine ⟨ret_bool ?_, Below.refl _ _⟩
    skip
    symm
    rw [decide_eq_false_iff_not]
    rintro rfl
    exact hl rfl

set_option maxHeartbeats 1600000 in
set_option maxRecDepth 100000 in
theorem SameOrder_any (va vb : Value) (a b : List Itm) (w : World) (ha : Items w va a) (hb : Items w vb b) :
    Calls Try.prog 59 #[va, vb] w (RetQ (.bool (sordB a b)) w) := by
  go_enter Try.func59, Try.ntmps59
  cases hv : okB a b
  all_goals
    have H := Lib.hid hv
    clear hv
    go_wp2_with fail
    refine (bothValid_v _ ha hb H.out).mono ?_
    rintro e w1 ⟨rfl, hb1⟩
  · go_wp2
    go_ret
    exact ⟨ret_bool (sord_no H), hb1⟩
  · go_wp2_with fail
    refine (slEqual_any _ _ _ _ _ (ha.mono hb1 (Nat.le_refl _)) (hb.mono hb1 (Nat.le_refl _))).mono ?_
    rintro e w2 ⟨rfl, hb2⟩
    rw [← sord_yes H]
    go_wp2
    all_goals go_ret
    all_goals exact ⟨rfl, hb1.trans (hb2.mono hb1.size)⟩

end Go.Proofs.Ytmjcijhbhdfhdaa
