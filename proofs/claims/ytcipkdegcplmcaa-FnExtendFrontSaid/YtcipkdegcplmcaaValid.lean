/-
  Keys and valid items: the model's and the program's.
-/
import Derived.Test.YtcipkdegcplmcaaLaw1
namespace Go.Proofs.Ytcipkdegcplmcaa
open Go.RowKit

theorem letters_step {s : ByteArray} {k : Nat} (h : k < s.size) : lettersB (s.data.toList.take (k + 1)) = (lettersB (s.data.toList.take k) && letterB s[k]) := by
  have : s.data.toList.take (k + 1) = s.data.toList.take k ++ [s[k]] := by
    rw [List.take_succ_eq_append_getElem (by simpa using h)]; rfl
  rw [this]
  simp [lettersB]

theorem letters_bad {s : ByteArray} {k : Nat} (h : k < s.size) (hb : letterB s[k] = false) : lettersB s.data.toList = false := by
  have := letters_step h
  rw [hb, Bool.and_false] at this
  unfold lettersB at this ⊢
  rw [List.all_eq_false] at this ⊢
  obtain ⟨x, hx, h'⟩ := this
  exact ⟨x, List.mem_of_mem_take hx, h'⟩

theorem letter_lt {c : UInt8} (h : (c.toNat : Int) < 97) : letterB c = false := by
  unfold letterB; rw [decide_eq_false (by omega)]; rfl
theorem letter_gt {c : UInt8} (h : 122 < (c.toNat : Int)) : letterB c = false := by
  unfold letterB; rw [decide_eq_false (p := c.toNat ≤ 122) (by omega), Bool.and_false]
theorem letter_in {c : UInt8} (h : 97 ≤ (c.toNat : Int)) (h' : (c.toNat : Int) ≤ 122) : letterB c = true := by
  unfold letterB; rw [decide_eq_true (by omega), decide_eq_true (by omega)]; rfl

theorem keyB_bad {s : ByteArray} {k : Nat} (h : k < s.size) (hb : (s[k].toNat : Int) < 97 ∨ 122 < (s[k].toNat : Int)) : false = keyB s := by
  unfold keyB
  rw [letters_bad h (hb.elim letter_lt letter_gt), Bool.false_and]
theorem letters_go {s : ByteArray} {k : Nat} (h : k < s.size) (H : Hid (lettersB (s.data.toList.take k) = true)) (h1 : 97 ≤ (s[k].toNat : Int)) (h2 : (s[k].toNat : Int) ≤ 122) : Hid (lettersB (s.data.toList.take (k + 1)) = true) := by
  unfold Hid
  rw [letters_step h, H.out, letter_in h1 h2]
  rfl
theorem keyB_end {s : ByteArray} (H : Hid (lettersB (s.data.toList.take s.size) = true)) : (decide (1 ≤ (s.size : Int)) && decide ((s.size : Int) ≤ 4)) = keyB s := by
  have h := H.out
  rw [List.take_of_length_le (by simp)] at h
  unfold keyB
  rw [h, Bool.true_and]
  congr 1
  · rw [decide_eq_decide]; omega
  · rw [decide_eq_decide]; omega

/-! ### the place of a key -/
def placeI : List Itm → ByteArray → Nat → Int
  | [], _, _ => -1
  | x :: r, k, i => if x.1 = k then i else placeI r k (i + 1)

theorem placeI_has (l : List Itm) (k : ByteArray) : ∀ i : Nat, (hasI l k = false → placeI l k i = -1) ∧ (hasI l k = true → (i : Int) ≤ placeI l k i ∧ placeI l k i < i + l.length) := by
  induction l with
  | nil => intro i; simp [placeI, hasI]
  | cons x r ih =>
    intro i
    have := ih (i + 1)
    unfold placeI hasI
    by_cases h : x.1 = k
    · simp [h]; omega
    · simp only [h, decide_false, Bool.false_or, if_false, List.length_cons]
      refine ⟨this.1, fun h => ?_⟩
      have := this.2 h
      omega

theorem keys_eq {a b : ByteArray} (h : (a.toList == b.toList) = true) : a = b := by rw [beq_keys] at h; simpa using h
theorem keys_ne {a b : ByteArray} (h : (a.toList == b.toList) = false) : a ≠ b := by rw [beq_keys] at h; simpa using h

theorem inRange_v {n lo hi : Int} {b : Bool} (w : World) (h : (decide (lo ≤ n) && decide (n ≤ hi)) = b) : Calls Try.prog 82 #[.int .i64 n, .int .i64 lo, .int .i64 hi] w fun e w' => e = .returned (.bool b) ∧ w' = w :=
  (inRange_any n lo hi w).mono fun _ _ ⟨he, hw⟩ => ⟨h ▸ he, hw.symm⟩
theorem Items.take {w : World} {ao : Option Addr} {n cap : Nat} {xs : List Itm} (h : Items w (.slice ao n cap) xs) {k : Nat} (hk : k ≤ xs.length) : Items w (.slice ao k cap) (xs.take k) := by
  obtain ⟨ao', cap', hv, hlc, hcm, hok, hcell⟩ := h
  simp only [Value.slice.injEq] at hv
  obtain ⟨rfl, rfl, rfl⟩ := hv
  have hl : (xs.take k).length = k := by simp; omega
  refine ⟨ao, cap, by rw [hl], by omega, hcm, fun x hx => hok x (List.mem_of_mem_take hx), fun j hj => ?_⟩
  have hj' : j < xs.length := by omega
  obtain ⟨b, o, ha, hb, h1, h2⟩ := hcell j hj'
  exact ⟨b, o, ha, hb, by simpa using h1, by simpa using h2⟩

theorem good_snoc (l : List Itm) (x : Itm) : ∀ seen, goodI seen (l ++ [x]) = (goodI seen l && (keyB x.1 && !hasI (seen ++ l) x.1 && numB x.2)) := by
  induction l with
  | nil => intro seen; simp [goodI]
  | cons y r ih => intro seen; simp only [List.cons_append, goodI, ih, List.append_assoc, List.cons_append, List.nil_append, Bool.and_assoc]
theorem good_app (l m : List Itm) : ∀ seen, goodI seen (l ++ m) = (goodI seen l && goodI (seen ++ l) m) := by
  induction l with
  | nil => intro seen; simp [goodI]
  | cons y r ih => intro seen; simp only [List.cons_append, goodI, ih, List.append_assoc, List.cons_append, List.nil_append, Bool.and_assoc]
theorem good_step {xs : List Itm} {k : Nat} (h : k < xs.length) : goodI [] (xs.take (k + 1)) = (goodI [] (xs.take k) && (keyB xs[k].1 && !hasI (xs.take k) xs[k].1 && numB xs[k].2)) := by
  rw [List.take_succ_eq_append_getElem h, good_snoc]
  rfl
theorem good_bad {xs : List Itm} {k : Nat} (h : k < xs.length) (hb : (keyB xs[k].1 && !hasI (xs.take k) xs[k].1 && numB xs[k].2) = false) : false = validI xs := by
  have h1 := good_step h
  rw [hb, Bool.and_false] at h1
  have h2 := good_app (xs.take (k + 1)) (xs.drop (k + 1)) []
  rw [List.take_append_drop, h1, Bool.false_and] at h2
  unfold validI
  rw [h2, Bool.false_and]

theorem drewN_go {w wr : World} (h : ∃ n, wr = w.drewN n) (m : Nat) : ∃ n, wr.drewN m = w.drewN n := by
  obtain ⟨n, rfl⟩ := h
  exact ⟨n + m, by simp [World.drewN, Nat.add_assoc]⟩

end Go.Proofs.Ytcipkdegcplmcaa
