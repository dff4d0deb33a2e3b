/-
  Law1, Valid, ImplV, Fresh.
-/
import Derived.BigQuiet
import Derived.Deep.QuietTactic
import Derived.StillTailTactics
import Derived.Test.YthblobjemaooeaaR3
/-
  The statements' own helpers over items: how much they hold, a copy, equality.
-/
namespace Go.Proofs.Ythblobjemaooeaa
open Go.RowKit

def SzPost (left : Int) (xs : List Itm) (w : World) (e : Ending) (w' : World) : Prop :=
  ∃ r : Int, e = .returned (.int .i64 r) ∧ -1 ≤ r ∧ r ≤ left ∧ (0 ≤ r → (xs.length : Int) ≤ left ∧ ∀ x ∈ xs, (x.1.size : Int) ≤ left) ∧ Below w.heap.size w w'

theorem take_sizes {xs : List Itm} {k : Nat} {left : Int} (hlt : k < xs.length) (h : ∀ x ∈ xs.take k, (x.1.size : Int) ≤ left) (hk : (xs[k].1.size : Int) ≤ left) : ∀ x ∈ xs.take (k + 1), (x.1.size : Int) ≤ left := by
  intro x hx
  rw [List.take_succ_eq_append_getElem hlt] at hx
  rcases List.mem_append.1 hx with hx | hx
  · exact h x hx
  · rw [List.mem_singleton.1 hx]; exact hk

/-! ### a copy -/
theorem cellsI_snoc (xs : List Itm) (x : Itm) : cellsI (xs ++ [x]) = cellsI xs ++ [.string x.1, .int .i64 x.2] := by simp [cellsI]

/-- Two cells more. -/
theorem copy_step {w : World} {B E g n : Nat} {xs : List Itm} {k : Nat} {zs : List Value} (hlt : k < xs.length) (hn : n = xs.length) (hz : zs.length = (n - k) * 2)
    (hown : w.ownsRow B E 2 (.slice (some ⟨g, 0, none⟩) n n) n (cellsI (xs.take k) ++ zs)) :
    ∃ zs', zs'.length = (n - (k + 1)) * 2 ∧
      ((w.setCell ⟨g, k * 2, none⟩ (.string xs[k].1)).setCell ⟨g, k * 2 + 1, none⟩ (.int .i64 xs[k].2)).ownsRow B E 2 (.slice (some ⟨g, 0, none⟩) n n) n (cellsI (xs.take (k + 1)) ++ zs') := by
  have h1 := (hown.stored (k * 2) (.string xs[k].1)).1
  have h2 := (h1.stored (k * 2 + 1) (.int .i64 xs[k].2)).1
  refine ⟨zs.drop 2, by simp [hz]; omega, ?_⟩
  have hlen : (cellsI (xs.take k)).length = k * 2 := by rw [cellsI_length]; simp; omega
  match zs, hz with
  | [], hz => simp at hz; omega
  | [_], hz => simp at hz; omega
  | z0 :: z1 :: r, hz =>
    have e : ((cellsI (xs.take k) ++ z0 :: z1 :: r).set (k * 2) (.string xs[k].1)).set (k * 2 + 1) (.int .i64 xs[k].2) = cellsI (xs.take (k + 1)) ++ r := by
      rw [List.set_append_right _ _ (by omega), List.set_append_right _ _ (by omega), hlen, Nat.sub_self, show k * 2 + 1 - k * 2 = 1 from by omega, List.take_succ_eq_append_getElem hlt, cellsI_snoc]
      simp
    rw [e] at h2
    exact h2

theorem row_cell {w : World} {B E S g n c m : Nat} {xs : List Value} (h : w.ownsRow B E S (.slice (some ⟨g, 0, none⟩) n c) m xs) {j : Nat} (hj : j < m * S) : ∃ u, w.cell? ⟨g, j, none⟩ = some u := by
  rcases h.2 with ⟨h', _⟩ | ⟨g', cap', cur, h', hb, hg, hnc, hcm, hcs, htake⟩
  · simp at h'
  · simp only [Value.slice.injEq, Option.some.injEq, Addr.mk.injEq, and_true] at h'
    obtain ⟨rfl, rfl, rfl⟩ := h'
    have hj' : j < cur.size := by rw [hcs]; exact Nat.lt_of_lt_of_le hj (Nat.mul_le_mul_right _ hnc)
    exact ⟨cur[j], by rw [cell_of_row w g j cur E (0, 0) hg]; simp [hj']⟩

/-! ### equality -/
theorem eqLen_lit {a b : Nat} (h : a = b) : ((a : Int) != (b : Int)) = false := by simp [h]

def eqFrom (k : Nat) (xs ys : List Itm) : Bool := decide (xs.drop k = ys.drop k)
def eqIB (x y : Itm) : Bool := decide (x = y)
theorem eqFrom_step {k : Nat} {xs ys : List Itm} (h1 : k < xs.length) (h2 : k < ys.length) : eqFrom k xs ys = (eqIB xs[k] ys[k] && eqFrom (k + 1) xs ys) := by
  unfold eqFrom eqIB
  have e1 := List.drop_eq_getElem_cons h1
  have e2 := List.drop_eq_getElem_cons h2
  rw [e1, e2, Bool.eq_iff_iff, Bool.and_eq_true, decide_eq_true_eq, decide_eq_true_eq, decide_eq_true_eq, List.cons.injEq]

end Go.Proofs.Ythblobjemaooeaa
/-
  Keys and valid items: the model's and the program's.
-/
namespace Go.Proofs.Ythblobjemaooeaa
open Go.RowKit

theorem letters_step {s : ByteArray} {k : Nat} (h : k < s.size) : lettersB (s.data.toList.take (k + 1)) = (lettersB (s.data.toList.take k) && letterB s[k]) := by
  have : s.data.toList.take (k + 1) = s.data.toList.take k ++ [s[k]] := by
    rw [List.take_succ_eq_append_getElem (by simpa using h)]; rfl
  rw [this]
  simp [lettersB]

theorem letters_bad {s : ByteArray} {k : Nat} (h : k < s.size) (hb : letterB s[k] = false) : lettersB s.data.toList = false := by
  have := letters_step h
  rw [hb, Bool.and_false] at this
  unfold lettersB at this ⊢
  rw [List.all_eq_false] at this ⊢
  obtain ⟨x, hx, h'⟩ := this
  exact ⟨x, List.mem_of_mem_take hx, h'⟩

theorem letter_lt {c : UInt8} (h : (c.toNat : Int) < 97) : letterB c = false := by
  unfold letterB; rw [decide_eq_false (by omega)]; rfl
theorem letter_gt {c : UInt8} (h : 122 < (c.toNat : Int)) : letterB c = false := by
  unfold letterB; rw [decide_eq_false (p := c.toNat ≤ 122) (by omega), Bool.and_false]
theorem letter_in {c : UInt8} (h : 97 ≤ (c.toNat : Int)) (h' : (c.toNat : Int) ≤ 122) : letterB c = true := by
  unfold letterB; rw [decide_eq_true (by omega), decide_eq_true (by omega)]; rfl

theorem keyB_bad {s : ByteArray} {k : Nat} (h : k < s.size) (hb : (s[k].toNat : Int) < 97 ∨ 122 < (s[k].toNat : Int)) : false = keyB s := by
  unfold keyB
  rw [letters_bad h (hb.elim letter_lt letter_gt), Bool.false_and]
theorem letters_go {s : ByteArray} {k : Nat} (h : k < s.size) (H : Hid (lettersB (s.data.toList.take k) = true)) (h1 : 97 ≤ (s[k].toNat : Int)) (h2 : (s[k].toNat : Int) ≤ 122) : Hid (lettersB (s.data.toList.take (k + 1)) = true) := by
  unfold Hid
  rw [letters_step h, H.out, letter_in h1 h2]
  rfl
theorem keyB_end {s : ByteArray} (H : Hid (lettersB (s.data.toList.take s.size) = true)) : (decide (1 ≤ (s.size : Int)) && decide ((s.size : Int) ≤ 4)) = keyB s := by
  have h := H.out
  rw [List.take_of_length_le (by simp)] at h
  unfold keyB
  rw [h, Bool.true_and]
  congr 1
  · rw [decide_eq_decide]; omega
  · rw [decide_eq_decide]; omega

/-! ### the place of a key -/
def placeI : List Itm → ByteArray → Nat → Int
  | [], _, _ => -1
  | x :: r, k, i => if x.1 = k then i else placeI r k (i + 1)

theorem placeI_has (l : List Itm) (k : ByteArray) : ∀ i : Nat, (hasI l k = false → placeI l k i = -1) ∧ (hasI l k = true → (i : Int) ≤ placeI l k i ∧ placeI l k i < i + l.length) := by
  induction l with
  | nil => intro i; simp [placeI, hasI]
  | cons x r ih =>
    intro i
    have := ih (i + 1)
    unfold placeI hasI
    by_cases h : x.1 = k
    · simp [h]; omega
    · simp only [h, decide_false, Bool.false_or, if_false, List.length_cons]
      refine ⟨this.1, fun h => ?_⟩
      have := this.2 h
      omega

theorem keys_eq {a b : ByteArray} (h : (a.toList == b.toList) = true) : a = b := by rw [beq_keys] at h; simpa using h
theorem keys_ne {a b : ByteArray} (h : (a.toList == b.toList) = false) : a ≠ b := by rw [beq_keys] at h; simpa using h

theorem inRange_v {n lo hi : Int} {b : Bool} (w : World) (h : (decide (lo ≤ n) && decide (n ≤ hi)) = b) : Calls Try.prog 88 #[.int .i64 n, .int .i64 lo, .int .i64 hi] w fun e w' => e = .returned (.bool b) ∧ w' = w :=
  (inRange_any n lo hi w).mono fun _ _ ⟨he, hw⟩ => ⟨h ▸ he, hw.symm⟩
theorem Items.take {w : World} {ao : Option Addr} {n cap : Nat} {xs : List Itm} (h : Items w (.slice ao n cap) xs) {k : Nat} (hk : k ≤ xs.length) : Items w (.slice ao k cap) (xs.take k) := by
  obtain ⟨ao', cap', hv, hlc, hcm, hok, hcell⟩ := h
  simp only [Value.slice.injEq] at hv
  obtain ⟨rfl, rfl, rfl⟩ := hv
  have hl : (xs.take k).length = k := by simp; omega
  refine ⟨ao, cap, by rw [hl], by omega, hcm, fun x hx => hok x (List.mem_of_mem_take hx), fun j hj => ?_⟩
  have hj' : j < xs.length := by omega
  obtain ⟨b, o, ha, hb, h1, h2⟩ := hcell j hj'
  exact ⟨b, o, ha, hb, by simpa using h1, by simpa using h2⟩

theorem good_snoc (l : List Itm) (x : Itm) : ∀ seen, goodI seen (l ++ [x]) = (goodI seen l && (keyB x.1 && !hasI (seen ++ l) x.1 && numB x.2)) := by
  induction l with
  | nil => intro seen; simp [goodI]
  | cons y r ih => intro seen; simp only [List.cons_append, goodI, ih, List.append_assoc, List.cons_append, List.nil_append, Bool.and_assoc]
theorem good_app (l m : List Itm) : ∀ seen, goodI seen (l ++ m) = (goodI seen l && goodI (seen ++ l) m) := by
  induction l with
  | nil => intro seen; simp [goodI]
  | cons y r ih => intro seen; simp only [List.cons_append, goodI, ih, List.append_assoc, List.cons_append, List.nil_append, Bool.and_assoc]
theorem good_step {xs : List Itm} {k : Nat} (h : k < xs.length) : goodI [] (xs.take (k + 1)) = (goodI [] (xs.take k) && (keyB xs[k].1 && !hasI (xs.take k) xs[k].1 && numB xs[k].2)) := by
  rw [List.take_succ_eq_append_getElem h, good_snoc]
  rfl
theorem good_bad {xs : List Itm} {k : Nat} (h : k < xs.length) (hb : (keyB xs[k].1 && !hasI (xs.take k) xs[k].1 && numB xs[k].2) = false) : false = validI xs := by
  have h1 := good_step h
  rw [hb, Bool.and_false] at h1
  have h2 := good_app (xs.take (k + 1)) (xs.drop (k + 1)) []
  rw [List.take_append_drop, h1, Bool.false_and] at h2
  unfold validI
  rw [h2, Bool.false_and]

theorem drewN_go {w wr : World} (h : ∃ n, wr = w.drewN n) (m : Nat) : ∃ n, wr.drewN m = w.drewN n := by
  obtain ⟨n, rfl⟩ := h
  exact ⟨n + m, by simp [World.drewN, Nat.add_assoc]⟩

end Go.Proofs.Ythblobjemaooeaa
/-
  The program's valid items.
-/
namespace Go.Proofs.Ythblobjemaooeaa
open Go.RowKit

theorem zeroB (w : World) : (zeroValue 4).run Try.prog w = .ok (.bool false) w := by kernel_rfl

theorem isNumber_v {n : Int} {b : Bool} (w : World) (h : numB n = b) : Calls Try.prog 95 #[.int .i64 n] w fun e w' => e = .returned (.bool b) ∧ w = w' :=
  (isNumber_any n w).mono fun _ _ ⟨he, hw⟩ => ⟨h ▸ he, hw⟩

theorem long_bad {xs : List Itm} (h : 8 < xs.length) : false = validI xs := by
  unfold validI
  rw [decide_eq_false (by omega), Bool.and_false]

end Go.Proofs.Ythblobjemaooeaa
/-
  A region that draws its order, whose operations only read, and whose callees lay blocks of their own: walked once, in the class of the worlds that are as the first one was below its own size.
-/
namespace Go.Proofs.Ythblobjemaooeaa
open Go.RowKit

structure Fresh (W : World) where
  at' : World
  is : Below W.heap.size W at'

instance {W : World} : Inhabited (Fresh W) := ⟨⟨W, Below.refl _ _⟩⟩
theorem region_fresh {P : Program} {id : Nat} {Q : Exit → Act → World → Prop} {a : Act} {w : World} {l : List Oper} (hm : P.follows .mixedOrders = true) (hB : Region.lexB .any l.toArray = true)
    (h : wpQuiet P l.toArray (fun w' => ∃ p : Fresh w, w' = p.at') (fun a' => ∀ w', (∃ p : Fresh w, w' = p.at') → Q .normal a' w') l a) : (Code.region id l.toArray true).wp P Q a w :=
  wp_region_quiet (C := fun w' => ∃ p : Fresh w, w' = p.at') hm hB ⟨⟨w.drew, (Below.refl _ _).drew⟩, rfl⟩ (by simpa using h)
theorem fresh_of {f : Nat} {us : Array Value} {v : Value} {w : World} {p : Fresh w} (h : Calls Try.prog f us p.at' (fun e w' => e = .returned v ∧ Below p.at'.heap.size p.at' w')) :
    Calls Try.prog f us p.at' fun e w'' => e = .returned v ∧ ∃ p' : Fresh w, w'' = p'.at' :=
  h.mono fun _ w'' ⟨he, hb⟩ => ⟨he, ⟨w'', p.is.trans (hb.mono p.is.size)⟩, rfl⟩
theorem fresh_cell {w : World} {a : Addr} {v : Value} (h : w.cell? a = some v) (p : Fresh w) : p.at'.cell? a = some v :=
  (p.is.cell (World.block_lt_of_cell? w a h)).trans h
end Go.Proofs.Ythblobjemaooeaa
