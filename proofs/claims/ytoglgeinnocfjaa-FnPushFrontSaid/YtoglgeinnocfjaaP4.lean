/-
  Law1, Valid, ImplV, Fresh.
-/
import Derived.BigQuiet
import Derived.Deep.QuietTactic
import Derived.StillTailTactics
import Derived.Test.YtoglgeinnocfjaaP3
/-
  The statements' own helpers over items: how much they hold, a copy, equality.
-/
namespace Go.Proofs.Ytoglgeinnocfjaa
open Go.RowKit

def SzPost (left : Int) (xs : List Itm) (w : World) (e : Ending) (w' : World) : Prop :=
  ∃ r : Int, e = .returned (.int .i64 r) ∧ -1 ≤ r ∧ r ≤ left ∧ (0 ≤ r → (xs.length : Int) ≤ left ∧ ∀ x ∈ xs, (x.1.size : Int) ≤ left) ∧ Below w.heap.size w w'

theorem take_sizes {xs : List Itm} {k : Nat} {left : Int} (hlt : k < xs.length) (h : ∀ x ∈ xs.take k, (x.1.size : Int) ≤ left) (hk : (xs[k].1.size : Int) ≤ left) : ∀ x ∈ xs.take (k + 1), (x.1.size : Int) ≤ left := by
  intro x hx
  rw [List.take_succ_eq_append_getElem hlt] at hx
  rcases List.mem_append.1 hx with hx | hx
  · exact h x hx
  · rw [List.mem_singleton.1 hx]; exact hk

/-! ### a copy -/
theorem Try.infoI : (Try.prog.info? 74).map (fun i => (i.zero, i.size, i.bytes)) = some (some (.agg #[.string ⟨#[]⟩, .int .i64 0]), 2, 24) := by kernel_rfl

theorem cellsI_snoc (xs : List Itm) (x : Itm) : cellsI (xs ++ [x]) = cellsI xs ++ [.string x.1, .int .i64 x.2] := by simp [cellsI]

/-- Two cells more. -/
theorem copy_step {w : World} {B E g n : Nat} {xs : List Itm} {k : Nat} {zs : List Value} (hlt : k < xs.length) (hn : n = xs.length) (hz : zs.length = (n - k) * 2)
    (hown : w.ownsRow B E 2 (.slice (some ⟨g, 0, none⟩) n n) n (cellsI (xs.take k) ++ zs)) :
    ∃ zs', zs'.length = (n - (k + 1)) * 2 ∧
      ((w.setCell ⟨g, k * 2, none⟩ (.string xs[k].1)).setCell ⟨g, k * 2 + 1, none⟩ (.int .i64 xs[k].2)).ownsRow B E 2 (.slice (some ⟨g, 0, none⟩) n n) n (cellsI (xs.take (k + 1)) ++ zs') := by
  have h1 := (hown.stored (k * 2) (.string xs[k].1)).1
  have h2 := (h1.stored (k * 2 + 1) (.int .i64 xs[k].2)).1
  refine ⟨zs.drop 2, by simp [hz]; omega, ?_⟩
  have hlen : (cellsI (xs.take k)).length = k * 2 := by rw [cellsI_length]; simp; omega
  match zs, hz with
  | [], hz => simp at hz; omega
  | [_], hz => simp at hz; omega
  | z0 :: z1 :: r, hz =>
    have e : ((cellsI (xs.take k) ++ z0 :: z1 :: r).set (k * 2) (.string xs[k].1)).set (k * 2 + 1) (.int .i64 xs[k].2) = cellsI (xs.take (k + 1)) ++ r := by
      rw [List.set_append_right _ _ (by omega), List.set_append_right _ _ (by omega), hlen, Nat.sub_self, show k * 2 + 1 - k * 2 = 1 from by omega, List.take_succ_eq_append_getElem hlt, cellsI_snoc]
      simp
    rw [e] at h2
    exact h2

theorem row_cell {w : World} {B E S g n c m : Nat} {xs : List Value} (h : w.ownsRow B E S (.slice (some ⟨g, 0, none⟩) n c) m xs) {j : Nat} (hj : j < m * S) : ∃ u, w.cell? ⟨g, j, none⟩ = some u := by
  rcases h.2 with ⟨h', _⟩ | ⟨g', cap', cur, h', hb, hg, hnc, hcm, hcs, htake⟩
  · simp at h'
  · simp only [Value.slice.injEq, Option.some.injEq, Addr.mk.injEq, and_true] at h'
    obtain ⟨rfl, rfl, rfl⟩ := h'
    have hj' : j < cur.size := by rw [hcs]; exact Nat.lt_of_lt_of_le hj (Nat.mul_le_mul_right _ hnc)
    exact ⟨cur[j], by rw [cell_of_row w g j cur E (0, 0) hg]; simp [hj']⟩

def FreshI (xs : List Itm) (w : World) (e : Ending) (w' : World) : Prop :=
  ∃ v, e = .returned v ∧ OwnI 74 w' w.heap.size v xs ∧ Below w.heap.size w w'

/-! ### equality -/
theorem eqLen_lit {a b : Nat} (h : a = b) : ((a : Int) != (b : Int)) = false := by simp [h]

def eqFrom (k : Nat) (xs ys : List Itm) : Bool := decide (xs.drop k = ys.drop k)
def eqIB (x y : Itm) : Bool := decide (x = y)
theorem eqFrom_step {k : Nat} {xs ys : List Itm} (h1 : k < xs.length) (h2 : k < ys.length) : eqFrom k xs ys = (eqIB xs[k] ys[k] && eqFrom (k + 1) xs ys) := by
  unfold eqFrom eqIB
  have e1 := List.drop_eq_getElem_cons h1
  have e2 := List.drop_eq_getElem_cons h2
  rw [e1, e2, Bool.eq_iff_iff, Bool.and_eq_true, decide_eq_true_eq, decide_eq_true_eq, decide_eq_true_eq, List.cons.injEq]

end Go.Proofs.Ytoglgeinnocfjaa
/-
  Keys and valid items: the model's and the program's.
-/
namespace Go.Proofs.Ytoglgeinnocfjaa
open Go.RowKit

theorem letters_step {s : ByteArray} {k : Nat} (h : k < s.size) : lettersB (s.data.toList.take (k + 1)) = (lettersB (s.data.toList.take k) && letterB s[k]) := by
  have : s.data.toList.take (k + 1) = s.data.toList.take k ++ [s[k]] := by
    rw [List.take_succ_eq_append_getElem (by simpa using h)]; rfl
  rw [this]
  simp [lettersB]

theorem letters_bad {s : ByteArray} {k : Nat} (h : k < s.size) (hb : letterB s[k] = false) : lettersB s.data.toList = false := by
  have := letters_step h
  rw [hb, Bool.and_false] at this
  unfold lettersB at this ⊢
  rw [List.all_eq_false] at this ⊢
  obtain ⟨x, hx, h'⟩ := this
  exact ⟨x, List.mem_of_mem_take hx, h'⟩

theorem letter_lt {c : UInt8} (h : (c.toNat : Int) < 97) : letterB c = false := by
  unfold letterB; rw [decide_eq_false (by omega)]; rfl
theorem letter_gt {c : UInt8} (h : 122 < (c.toNat : Int)) : letterB c = false := by
  unfold letterB; rw [decide_eq_false (p := c.toNat ≤ 122) (by omega), Bool.and_false]
theorem letter_in {c : UInt8} (h : 97 ≤ (c.toNat : Int)) (h' : (c.toNat : Int) ≤ 122) : letterB c = true := by
  unfold letterB; rw [decide_eq_true (by omega), decide_eq_true (by omega)]; rfl

theorem keyB_bad {s : ByteArray} {k : Nat} (h : k < s.size) (hb : (s[k].toNat : Int) < 97 ∨ 122 < (s[k].toNat : Int)) : false = keyB s := by
  unfold keyB
  rw [letters_bad h (hb.elim letter_lt letter_gt), Bool.false_and]
theorem letters_go {s : ByteArray} {k : Nat} (h : k < s.size) (H : Hid (lettersB (s.data.toList.take k) = true)) (h1 : 97 ≤ (s[k].toNat : Int)) (h2 : (s[k].toNat : Int) ≤ 122) : Hid (lettersB (s.data.toList.take (k + 1)) = true) := by
  unfold Hid
  rw [letters_step h, H.out, letter_in h1 h2]
  rfl
theorem keyB_end {s : ByteArray} (H : Hid (lettersB (s.data.toList.take s.size) = true)) : (decide (1 ≤ (s.size : Int)) && decide ((s.size : Int) ≤ 4)) = keyB s := by
  have h := H.out
  rw [List.take_of_length_le (by simp)] at h
  unfold keyB
  rw [h, Bool.true_and]
  congr 1
  · rw [decide_eq_decide]; omega
  · rw [decide_eq_decide]; omega

set_option maxHeartbeats 400000 in
theorem validKey_any (s : ByteArray) (w : World) (hs : s.size ≤ 9223372036854775807) :
    Calls Try.prog 138 #[.string s] w fun e w' => e = .returned (.bool (keyB s)) ∧ w = w' := by
  go_enter Try.func138, Try.ntmps138
  go_wp2
  go_loop [3] (fun i => ∃ k : Nat, k ≤ s.size ∧ i = .int .i64 k ∧ Hid (lettersB (s.data.toList.take k) = true)) (fun i => s.size - (intOf i).toNat)
  case atStart => exact ⟨0, Nat.zero_le _, rfl, rfl⟩
  case round =>
    obtain ⟨k, hk, rfl, HL⟩ := hrel
    by_cases hlt : k < s.size
    · go_wp2
      · have h : (s[k].toNat : Int) < 97 ∨ 122 < (s[k].toNat : Int) := by assumption
        go_ret
        exact ⟨ret_bool (keyB_bad hlt h), rfl⟩
      · have h : 97 ≤ (s[k].toNat : Int) ∧ (s[k].toNat : Int) ≤ 122 := by assumption
        have H := letters_go hlt HL h.1 h.2
        go_round
        case rel => exact ⟨k + 1, by omega, by go_num, H⟩
        case measure => simp [intOf]; omega
      · have h : (s[k].toNat : Int) < 97 := by assumption
        go_ret
        exact ⟨ret_bool (keyB_bad hlt (.inl h)), rfl⟩
    · obtain rfl : k = s.size := by omega
      go_wp2_with (go_at_call 92; refine (inRange_any _ _ _ _).mono ?_; rintro e w1 ⟨rfl, rfl⟩)
      go_ret
      exact ⟨ret_bool (keyB_end HL), rfl⟩

set_option maxHeartbeats 400000 in
theorem isKey_any (s : ByteArray) (w : World) (hs : s.size ≤ 9223372036854775807) :
    Calls Try.prog 96 #[.string s] w fun e w' => e = .returned (.bool (keyB s)) ∧ w = w' := by
  go_enter Try.func96, Try.ntmps96
  by_cases hn : 1 ≤ s.size ∧ s.size ≤ 4
  · obtain ⟨hn1, hn2⟩ := hn
    go_wp2
    go_loop [14, 3] (fun i _ => ∃ k : Nat, k ≤ s.size ∧ i = .int .i64 k ∧ Hid (lettersB (s.data.toList.take k) = true)) (fun i _ => s.size - (intOf i).toNat)
    case atStart => exact ⟨0, Nat.zero_le _, rfl, rfl⟩
    case round =>
      obtain ⟨k, hk, rfl, HL⟩ := hrel
      by_cases hlt : k < s.size
      · go_wp2
        · have h : (s[k].toNat : Int) < 97 ∨ 122 < (s[k].toNat : Int) := by assumption
          go_ret
          exact ⟨ret_bool (keyB_bad hlt h), rfl⟩
        · have h : 97 ≤ (s[k].toNat : Int) ∧ (s[k].toNat : Int) ≤ 122 := by assumption
          have H := letters_go hlt HL h.1 h.2
          go_round
          case rel => exact ⟨k + 1, by omega, by go_num, H⟩
          case measure => simp [intOf]; omega
        · have h : (s[k].toNat : Int) < 97 := by assumption
          go_ret
          exact ⟨ret_bool (keyB_bad hlt (.inl h)), rfl⟩
      · obtain rfl : k = s.size := by omega
        go_wp2
        go_ret
        refine ⟨ret_bool ?_, rfl⟩
        rw [← keyB_end HL, decide_eq_true (by omega), decide_eq_true (by omega)]
        rfl
  · have hk : keyB s = false := by
      unfold keyB
      by_cases h1 : 1 ≤ s.size
      · rw [decide_eq_false (p := s.size ≤ 4) (by omega)]; simp
      · rw [decide_eq_false (p := 1 ≤ s.size) h1]; simp
    go_wp2
    all_goals go_ret
    all_goals first | exact ⟨ret_bool hk.symm, rfl⟩ | exact ⟨rfl, rfl⟩

/-! ### the place of a key -/
def placeI : List Itm → ByteArray → Nat → Int
  | [], _, _ => -1
  | x :: r, k, i => if x.1 = k then i else placeI r k (i + 1)

theorem placeI_has (l : List Itm) (k : ByteArray) : ∀ i : Nat, (hasI l k = false → placeI l k i = -1) ∧ (hasI l k = true → (i : Int) ≤ placeI l k i ∧ placeI l k i < i + l.length) := by
  induction l with
  | nil => intro i; simp [placeI, hasI]
  | cons x r ih =>
    intro i
    have := ih (i + 1)
    unfold placeI hasI
    by_cases h : x.1 = k
    · simp [h]; omega
    · simp only [h, decide_false, Bool.false_or, if_false, List.length_cons]
      refine ⟨this.1, fun h => ?_⟩
      have := this.2 h
      omega

theorem keys_eq {a b : ByteArray} (h : (a.toList == b.toList) = true) : a = b := by rw [beq_keys] at h; simpa using h
theorem keys_ne {a b : ByteArray} (h : (a.toList == b.toList) = false) : a ≠ b := by rw [beq_keys] at h; simpa using h

set_option maxHeartbeats 400000 in
theorem place_any (v : Value) (xs : List Itm) (s : ByteArray) (w : World) (h : Items w v xs) :
    Calls Try.prog 113 #[v, .string s] w fun e w' => e = .returned (.int .i64 (placeI xs s 0)) ∧ w = w' := by
  obtain ⟨ao, cap, rfl, hlc, hcm, hok, hcell⟩ := h
  go_enter Try.func113, Try.ntmps113
  go_wp2
  go_loop [5] (fun i => ∃ k : Nat, k ≤ xs.length ∧ i = .int .i64 k ∧ Hid (placeI xs s 0 = placeI (xs.drop k) s k)) (fun i => xs.length - (intOf i).toNat)
  case atStart => exact ⟨0, Nat.zero_le _, rfl, rfl⟩
  case round =>
    obtain ⟨k, hk, rfl, HP⟩ := hrel
    by_cases hlt : k < xs.length
    · obtain ⟨b, o, rfl, hb, h1, h2⟩ := hcell k hlt
      go_wp2
      · have ht : (xs[k].1.toList == s.toList) = true := by assumption
        go_ret
        refine ⟨ret_int ?_, rfl⟩
        rw [HP.out, List.drop_eq_getElem_cons hlt]
        simp [placeI, keys_eq ht]
      · have ht : (xs[k].1.toList == s.toList) = false := by assumption
        have H : Hid (placeI xs s 0 = placeI (xs.drop (k + 1)) s (k + 1)) := by
          unfold Hid
          rw [HP.out, List.drop_eq_getElem_cons hlt]
          simp [placeI, keys_ne ht]
        go_round
        case rel => exact ⟨k + 1, by omega, by go_num, H⟩
        case measure => simp [intOf]; omega
    · obtain rfl : k = xs.length := by omega
      go_wp2
      go_ret
      refine ⟨ret_int ?_, rfl⟩
      rw [HP.out]
      simp [placeI]

theorem validKey_v {s : ByteArray} {b : Bool} (w : World) (hs : s.size ≤ 9223372036854775807) (h : keyB s = b) : Calls Try.prog 138 #[.string s] w fun e w' => e = .returned (.bool b) ∧ w' = w :=
  (validKey_any s w hs).mono fun _ _ ⟨he, hw⟩ => ⟨h ▸ he, hw.symm⟩
theorem inRange_v {n lo hi : Int} {b : Bool} (w : World) (h : (decide (lo ≤ n) && decide (n ≤ hi)) = b) : Calls Try.prog 92 #[.int .i64 n, .int .i64 lo, .int .i64 hi] w fun e w' => e = .returned (.bool b) ∧ w' = w :=
  (inRange_any n lo hi w).mono fun _ _ ⟨he, hw⟩ => ⟨h ▸ he, hw.symm⟩
theorem place_v {v : Value} {xs : List Itm} {s : ByteArray} (w : World) (h : Items w v xs) : Calls Try.prog 113 #[v, .string s] w fun e w' => e = .returned (.int .i64 (placeI xs s 0)) ∧ w' = w :=
  (place_any v xs s w h).mono fun _ _ ⟨he, hw⟩ => ⟨he, hw.symm⟩

theorem Items.take {w : World} {ao : Option Addr} {n cap : Nat} {xs : List Itm} (h : Items w (.slice ao n cap) xs) {k : Nat} (hk : k ≤ xs.length) : Items w (.slice ao k cap) (xs.take k) := by
  obtain ⟨ao', cap', hv, hlc, hcm, hok, hcell⟩ := h
  simp only [Value.slice.injEq] at hv
  obtain ⟨rfl, rfl, rfl⟩ := hv
  have hl : (xs.take k).length = k := by simp; omega
  refine ⟨ao, cap, by rw [hl], by omega, hcm, fun x hx => hok x (List.mem_of_mem_take hx), fun j hj => ?_⟩
  have hj' : j < xs.length := by omega
  obtain ⟨b, o, ha, hb, h1, h2⟩ := hcell j hj'
  exact ⟨b, o, ha, hb, by simpa using h1, by simpa using h2⟩

theorem good_snoc (l : List Itm) (x : Itm) : ∀ seen, goodI seen (l ++ [x]) = (goodI seen l && (keyB x.1 && !hasI (seen ++ l) x.1 && numB x.2)) := by
  induction l with
  | nil => intro seen; simp [goodI]
  | cons y r ih => intro seen; simp only [List.cons_append, goodI, ih, List.append_assoc, List.cons_append, List.nil_append, Bool.and_assoc]
theorem good_app (l m : List Itm) : ∀ seen, goodI seen (l ++ m) = (goodI seen l && goodI (seen ++ l) m) := by
  induction l with
  | nil => intro seen; simp [goodI]
  | cons y r ih => intro seen; simp only [List.cons_append, goodI, ih, List.append_assoc, List.cons_append, List.nil_append, Bool.and_assoc]
theorem good_step {xs : List Itm} {k : Nat} (h : k < xs.length) : goodI [] (xs.take (k + 1)) = (goodI [] (xs.take k) && (keyB xs[k].1 && !hasI (xs.take k) xs[k].1 && numB xs[k].2)) := by
  rw [List.take_succ_eq_append_getElem h, good_snoc]
  rfl
theorem good_bad {xs : List Itm} {k : Nat} (h : k < xs.length) (hb : (keyB xs[k].1 && !hasI (xs.take k) xs[k].1 && numB xs[k].2) = false) : false = validI xs := by
  have h1 := good_step h
  rw [hb, Bool.and_false] at h1
  have h2 := good_app (xs.take (k + 1)) (xs.drop (k + 1)) []
  rw [List.take_append_drop, h1, Bool.false_and] at h2
  unfold validI
  rw [h2, Bool.false_and]

theorem drewN_go {w wr : World} (h : ∃ n, wr = w.drewN n) (m : Nat) : ∃ n, wr.drewN m = w.drewN n := by
  obtain ⟨n, rfl⟩ := h
  exact ⟨n + m, by simp [World.drewN, Nat.add_assoc]⟩

set_option maxHeartbeats 800000 in
theorem validItems_any (v : Value) (xs : List Itm) (w : World) (h : Items w v xs) :
    Calls Try.prog 125 #[v] w fun e w' => e = .returned (.bool (validI xs)) ∧ ∃ n, w' = w.drewN n := by
  have h0 := h
  obtain ⟨ao, cap, rfl, hlc, hcm, hok, hcell⟩ := h
  go_enter Try.func125, Try.ntmps125
  go_wp2
  go_loopw [3] (fun i wr => ∃ k : Nat, k ≤ xs.length ∧ i = .int .i64 k ∧ Hid (goodI [] (xs.take k) = true) ∧ Hid (∃ n, wr = w.drewN n)) (fun i _ => xs.length - (intOf i).toNat)
  case atStart => exact ⟨0, Nat.zero_le _, rfl, rfl, ⟨0, rfl⟩⟩
  case round =>
    obtain ⟨k, hk, rfl, HG, HW⟩ := hrel
    have hI : Items wr (.slice ao xs.length cap) xs := by obtain ⟨n, hn⟩ := HW.out; rw [hn]; exact h0
    by_cases hlt : k < xs.length
    · obtain ⟨b, o, rfl, hb, h1, h2⟩ := hcell k hlt
      have c1 : wr.cell? ⟨b, o + k * 2, none⟩ = some (.string xs[k].1) := by obtain ⟨n, hn⟩ := HW.out; rw [hn]; exact h1
      have c2 : wr.cell? ⟨b, o + k * 2 + 1, none⟩ = some (.int .i64 xs[k].2) := by obtain ⟨n, hn⟩ := HW.out; rw [hn]; exact h2
      have hT := Lib.hid (hI.take hk)
      have hs := (hok _ (List.getElem_mem hlt)).1
      have hkc : k ≤ cap := by omega
      clear h1 h2 hI
      cases hkey : keyB xs[k].1
      · have HK := Lib.hid hkey
        clear hkey
        go_wp2_with fail
        go_quiet ((go_at_call 138; exact Calls.quiet_of_same (validKey_v _ hs HK.out)))
        go_wp2
        go_ret
        exact ⟨ret_bool (good_bad hlt (by rw [HK.out]; rfl)), drewN_go HW.out _⟩
      · have HK := Lib.hid hkey
        clear hkey
        have HP := Lib.hid (placeI_has (xs.take k) xs[k].1 0)
        cases hhas : hasI (xs.take k) xs[k].1
        · have hp : placeI (xs.take k) xs[k].1 0 < 0 := by have := HP.out.1 hhas; omega
          have HH := Lib.hid hhas
          clear hhas
          cases hnum : numB xs[k].2
          all_goals
            have HN := Lib.hid hnum
            clear hnum
            go_wp2_with fail
            go_quiet ((first | (go_at_call 138; exact Calls.quiet_of_same (validKey_v _ hs HK.out)) | (go_at_call 113; exact Calls.quiet_of_same (place_v _ hT.out)) | (go_at_call 92; exact Calls.quiet_of_same (inRange_v _ HN.out))))
            go_wp2
          · go_ret
            exact ⟨ret_bool (good_bad hlt (by rw [HN.out, Bool.and_false])), drewN_go HW.out _⟩
          · have HG' : Hid (goodI [] (xs.take (k + 1)) = true) := by
              unfold Hid
              rw [good_step hlt, HG.out, HK.out, HH.out, HN.out]
              rfl
            clear c1 c2 hp
            go_roundw
            case rel => exact ⟨k + 1, by omega, by go_num, HG', drewN_go HW.out _⟩
            case measure => simp [intOf]; omega
        · have hp : 0 ≤ placeI (xs.take k) xs[k].1 0 := by have := HP.out.2 hhas; omega
          have HH := Lib.hid hhas
          clear hhas
          go_wp2_with fail
          go_quiet ((first | (go_at_call 138; exact Calls.quiet_of_same (validKey_v _ hs HK.out)) | (go_at_call 113; exact Calls.quiet_of_same (place_v _ hT.out))))
          go_wp2
          go_ret
          exact ⟨ret_bool (good_bad hlt (by rw [HH.out, HK.out]; rfl)), drewN_go HW.out _⟩
    · obtain rfl : k = xs.length := by omega
      go_wp2
      go_ret
      refine ⟨ret_bool ?_, HW.out⟩
      unfold validI
      have hg := HG.out
      rw [List.take_length] at hg
      rw [hg, Bool.true_and, decide_eq_decide]
      omega

end Go.Proofs.Ytoglgeinnocfjaa
/-
  The program's valid items.
-/
namespace Go.Proofs.Ytoglgeinnocfjaa
open Go.RowKit

theorem zeroB (w : World) : (zeroValue 4).run Try.prog w = .ok (.bool false) w := by kernel_rfl

theorem isKey_v {s : ByteArray} {b : Bool} (w : World) (hs : s.size ≤ 9223372036854775807) (h : keyB s = b) : Calls Try.prog 96 #[.string s] w fun e w' => e = .returned (.bool b) ∧ w = w' :=
  (isKey_any s w hs).mono fun _ _ ⟨he, hw⟩ => ⟨h ▸ he, hw⟩
theorem isNumber_v {n : Int} {b : Bool} (w : World) (h : numB n = b) : Calls Try.prog 97 #[.int .i64 n] w fun e w' => e = .returned (.bool b) ∧ w = w' :=
  (isNumber_any n w).mono fun _ _ ⟨he, hw⟩ => ⟨h ▸ he, hw⟩

theorem long_bad {xs : List Itm} (h : 8 < xs.length) : false = validI xs := by
  unfold validI
  rw [decide_eq_false (by omega), Bool.and_false]

set_option maxHeartbeats 800000 in
theorem ValidItems_any (v : Value) (xs : List Itm) (w : World) (h : Items w v xs) :
    Calls Try.prog 44 #[v] w fun e w' => e = .returned (.bool (validI xs)) ∧ Below w.heap.size w w' := by
  obtain ⟨ao, cap, rfl, hlc, hcm, hok, hcell⟩ := h
  have hmm := @run_makeMap Try.prog
  go_enter Try.func44, Try.ntmps44
  by_cases hlen : xs.length ≤ 8
  · go_wp2
    go_loopw [12] (fun i wr => ∃ k : Nat, k ≤ xs.length ∧ i = .int .i64 k ∧ Hid (goodI [] (xs.take k) = true) ∧ MapB 4 wr w.heap.size (xs.take k) ∧ Below w.heap.size w wr ∧ w.heap.size < wr.heap.size) (fun i _ => xs.length - (intOf i).toNat)
    case atStart => exact ⟨0, Nat.zero_le _, rfl, rfl, MapB_made _ _, (Below.refl _ _).alloc (Nat.le_refl _) _, by simp⟩
    case round =>
      obtain ⟨k, hk, rfl, HG, hown, hbl, hsz⟩ := hrel
      by_cases hlt : k < xs.length
      · obtain ⟨b, o, rfl, hb, h1, h2⟩ := hcell k hlt
        have c1 := (hbl.cell (p := ⟨b, _, none⟩) hb).trans h1
        have c2 := (hbl.cell (p := ⟨b, _, none⟩) hb).trans h2
        have hs := (hok _ (List.getElem_mem hlt)).1
        clear h1 h2
        cases hkey : keyB xs[k].1
        · have HK := Lib.hid hkey
          clear hkey
          go_wp2_with (go_at_call 96; refine (isKey_v _ hs HK.out).mono ?_; rintro e w1 ⟨rfl, rfl⟩)
          go_ret
          exact ⟨ret_bool (good_bad hlt (by rw [HK.out]; rfl)), hbl.alloc (Nat.le_of_lt hsz) _⟩
        · have HK := Lib.hid hkey
          clear hkey
          cases hnum : numB xs[k].2
          · have HN := Lib.hid hnum
            clear hnum
            go_wp2_with (first | (go_at_call 96; refine (isKey_v _ hs HK.out).mono ?_; rintro e w1 ⟨rfl, rfl⟩) | (go_at_call 97; refine (isNumber_v _ HN.out).mono ?_; rintro e w1 ⟨rfl, rfl⟩))
            go_ret
            exact ⟨ret_bool (good_bad hlt (by rw [HN.out, Bool.and_false])), hbl.alloc (Nat.le_of_lt hsz) _⟩
          · have HN := Lib.hid hnum
            clear hnum
            cases hhas : hasI (xs.take k) xs[k].1
            all_goals
              have HH := Lib.hid hhas
              clear hhas
            · go_wp2_with (first | (go_at_call 96; refine (isKey_v _ hs HK.out).mono ?_; rintro e w1 ⟨rfl, rfl⟩) | (go_at_call 97; refine (isNumber_v _ HN.out).mono ?_; rintro e w1 ⟨rfl, rfl⟩) | (at_lookup; refine wpl_lookB _ rfl _ _ 97 rfl (hown.alloc _) Try.underlying97 Try.underlying4 (zeroB _) rfl _ rfl hs ?_; rw [HH.out]) | (at_mapUpdate; refine wpl_storeB _ rfl _ _ _ 97 rfl (hown.alloc _) Try.underlying97 Try.underlying4 rfl _ rfl rfl xs[k].2 hs (by simp; omega) ?_; intro w2 hown2 hgrow2))
              have HG' : Hid (goodI [] (xs.take (k + 1)) = true) := by
                unfold Hid
                rw [good_step hlt, HG.out, HK.out, HH.out, HN.out]
                rfl
              have hs2 := hgrow2.size
              simp at hs2
              clear c1 c2
              go_roundw
              case rel => exact ⟨k + 1, by omega, by go_num, HG', by rw [List.take_succ_eq_append_getElem hlt]; exact hown2, (hbl.alloc (Nat.le_of_lt hsz) _).grown hgrow2 (by simp; omega) (fun j hj => by cases hj; exact Nat.le_refl _), by omega⟩
              case measure => simp [intOf]; omega
            · go_wp2_with (first | (go_at_call 96; refine (isKey_v _ hs HK.out).mono ?_; rintro e w1 ⟨rfl, rfl⟩) | (go_at_call 97; refine (isNumber_v _ HN.out).mono ?_; rintro e w1 ⟨rfl, rfl⟩) | (at_lookup; refine wpl_lookB _ rfl _ _ 97 rfl (hown.alloc _) Try.underlying97 Try.underlying4 (zeroB _) rfl _ rfl hs ?_; rw [HH.out]) | (at_mapUpdate; refine wpl_storeB _ rfl _ _ _ 97 rfl (hown.alloc _) Try.underlying97 Try.underlying4 rfl _ rfl rfl xs[k].2 hs (by simp; omega) ?_; intro w2 hown2 hgrow2))
              go_ret
              exact ⟨ret_bool (good_bad hlt (by rw [HH.out, HK.out]; rfl)), hbl.alloc (Nat.le_of_lt hsz) _⟩
      · obtain rfl : k = xs.length := by omega
        go_wp2
        go_ret
        refine ⟨ret_bool ?_, hbl⟩
        unfold validI
        have hg := HG.out
        rw [List.take_length] at hg
        rw [hg, decide_eq_true hlen]
        rfl
  · go_wp2
    go_ret
    exact ⟨ret_bool (long_bad (by omega)), Below.refl _ _⟩
end Go.Proofs.Ytoglgeinnocfjaa
/-
  A region that draws its order, whose operations only read, and whose callees lay blocks of their own: walked once, in the class of the worlds that are as the first one was below its own size.
-/
namespace Go.Proofs.Ytoglgeinnocfjaa
open Go.RowKit

structure Fresh (W : World) where
  at' : World
  is : Below W.heap.size W at'

instance {W : World} : Inhabited (Fresh W) := ⟨⟨W, Below.refl _ _⟩⟩
theorem region_fresh {P : Program} {id : Nat} {Q : Exit → Act → World → Prop} {a : Act} {w : World} {l : List Oper} (hm : P.follows .mixedOrders = true) (hB : Region.lexB .any l.toArray = true)
    (h : wpQuiet P l.toArray (fun w' => ∃ p : Fresh w, w' = p.at') (fun a' => ∀ w', (∃ p : Fresh w, w' = p.at') → Q .normal a' w') l a) : (Code.region id l.toArray true).wp P Q a w :=
  wp_region_quiet (C := fun w' => ∃ p : Fresh w, w' = p.at') hm hB ⟨⟨w.drew, (Below.refl _ _).drew⟩, rfl⟩ (by simpa using h)
theorem fresh_of {f : Nat} {us : Array Value} {v : Value} {w : World} {p : Fresh w} (h : Calls Try.prog f us p.at' (fun e w' => e = .returned v ∧ Below p.at'.heap.size p.at' w')) :
    Calls Try.prog f us p.at' fun e w'' => e = .returned v ∧ ∃ p' : Fresh w, w'' = p'.at' :=
  h.mono fun _ w'' ⟨he, hb⟩ => ⟨he, ⟨w'', p.is.trans (hb.mono p.is.size)⟩, rfl⟩
theorem fresh_cell {w : World} {a : Addr} {v : Value} (h : w.cell? a = some v) (p : Fresh w) : p.at'.cell? a = some v :=
  (p.is.cell (World.block_lt_of_cell? w a h)).trans h
end Go.Proofs.Ytoglgeinnocfjaa
