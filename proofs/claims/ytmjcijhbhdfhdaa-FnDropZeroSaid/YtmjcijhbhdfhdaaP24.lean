/-
  Total.
-/
import Derived.Maps.RangeWalk
import Derived.Test.YtmjcijhbhdfhdaaP5
import Derived.Test.YtmjcijhbhdfhdaaP7
/-
  The total: the model's function and the program's, which ranges over a map.
-/
namespace Go.Proofs.Ytmjcijhbhdfhdaa
open Go.RowKit Go.Maps Go.WideMaps
/-- The sum of what is still to come. -/
def leftSum (l : List Itm) (left : Lit → Bool) : Int := sumI (l.filter fun x => left (kl x.1))
theorem leftSum_bd {l : List Itm} (left : Lit → Bool) (hb : ∀ x ∈ l, -9999 ≤ x.2 ∧ x.2 ≤ 9999) : -9999 * (l.length : Int) ≤ leftSum l left ∧ leftSum l left ≤ 9999 * (l.length : Int) := by
  unfold leftSum
  induction l with
  | nil => simp [sumI]
  | cons x r ih =>
    have ih := ih (fun y hy => hb y (by simp [hy]))
    have hx := hb x (by simp)
    rw [List.filter_cons]
    split
    · simp only [sumI, List.length_cons]; omega
    · simp only [List.length_cons]; omega
theorem leftSum_all {l : List Itm} {left : Lit → Bool} (h : ∀ x ∈ l, left (kl x.1) = true) : leftSum l left = sumI l := by
  unfold leftSum
  rw [List.filter_eq_self.2 h]
theorem leftSum_none {l : List Itm} {left : Lit → Bool} (h : ∀ z, left z = false) : leftSum l left = 0 := by
  unfold leftSum
  rw [List.filter_eq_nil_iff.2 (fun x _ => by rw [h]; simp)]
  rfl
theorem same_kl (a b : ByteArray) : (kl a).sameKey (kl b) = decide (a = b) := by
  by_cases h : a = b
  · subst h
    rw [WideAt.sameKey_self (kl_key a)]
    simp
  · rw [Maps.sameKey_ne (kl_ne h)]
    simp [h]
theorem leftSum_cons (x : Itm) (r : List Itm) (left : Lit → Bool) : leftSum (x :: r) left = if left (kl x.1) = true then x.2 + leftSum r left else leftSum r left := by
  unfold leftSum
  rw [List.filter_cons]
  split <;> rfl
theorem leftSum_strike {l : List Itm} {left left' : Lit → Bool} {s : ByteArray} (h' : ∀ k, left' (kl k) = (left (kl k) && !decide (k = s))) (hu : uniqI l = true) (hh : hasI l s = true) (hl : left (kl s) = true) :
    leftSum l left = cnt l s + leftSum l left' := by
  induction l with
  | nil => simp [hasI] at hh
  | cons x r ih =>
    simp only [uniqI, Bool.and_eq_true, Bool.not_eq_true'] at hu
    rw [leftSum_cons, leftSum_cons, h']
    by_cases h : x.1 = s
    · subst h
      have e1 : leftSum r left = leftSum r left' := by
        unfold leftSum
        congr 1
        refine List.filter_congr fun y hy => ?_
        have hne : y.1 ≠ x.1 := fun e => by
          have := hasI_mem.2 ⟨y, hy, e⟩
          rw [hu.1] at this
          cases this
        rw [h', decide_eq_false hne]
        simp
      simp [hl, cnt, e1]
    · have hh' : hasI r s = true := by simpa [hasI, h] using hh
      have ih := ih hu.2 hh'
      simp only [cnt, if_neg h, decide_eq_false h, Bool.not_false, Bool.and_true]
      split
      · omega
      · exact ih
theorem leftSum_step {l : List Itm} {left : Lit → Bool} {s : ByteArray} (hu : uniqI l = true) (hh : hasI l s = true) (hl : left (kl s) = true) :
    leftSum l left = cnt l s + leftSum l (fun z => left z && !z.sameKey (kl s)) :=
  leftSum_strike (fun k => by show (left (kl k) && !(kl k).sameKey (kl s)) = _; rw [same_kl]) hu hh hl

theorem keyS_inv {s : ByteArray} {z : Lit} (h : keyOf Try.prog 9 (.string s) = some z) : z = kl s := by
  simp [keyOf, Try.underlying9, mapKey] at h
  exact h.2.symm
theorem keyS_form {key : Value} {z : Lit} (h : keyOf Try.prog 9 key = some z) : ∃ s : ByteArray, key = .string s := by
  cases key <;> simp [keyOf, Try.underlying9, mapKey] at h
  exact ⟨_, rfl⟩

set_option maxHeartbeats 1600000 in
theorem total_any (K : Nat → Prop) (t : Nat) (l : List Itm) (w : World) (h : TallyAt K w t l) (hn : l.length ≤ 100) (hb : ∀ x ∈ l, -9999 ≤ x.2 ∧ x.2 ≤ 9999) :
    Calls Try.prog 80 #[.pointer (some ⟨t, 0, none⟩)] w fun e w' => e = .returned (.int .i64 (sumI l)) ∧ Below w.heap.size w w' := by
  obtain ⟨v, mb, hblk, hBt, hBm, hBv, hown, hmap⟩ := h
  obtain ⟨D, hmo, hhas, hat, hsz, hu⟩ := hmap
  clear hBt hBm hBv hown
  have c0 := two_cell0 hblk
  have c1 := two_cell1 hblk
  have hmlt := hmo.lt
  go_enter Try.func80, Try.ntmps80
  go_wp2_with (at_range; refine wpList_range_own _ rfl _ 66 rfl 9 3 keyedS Try.underlying66 _ mb _ D rfl hmo ?_; intro w0 hrg0 hg0 hs0)
  go_frame
  have hb0 : Below w.heap.size w w0 := (Below.refl _ _).grown hg0 (Nat.le_refl _) (fun k hk => by cases hk)
  go_loopw [3] (fun s wr => ∃ (left : Lit → Bool) (n : Nat) (q : Int), wr.ranges Try.prog 9 (plainElem Try.prog 3) mb w.heap.size l.length D left n ∧ s = .int .i64 q ∧ Hid (q + leftSum l left = sumI l) ∧ Hid (∀ s, left (kl s) = true → hasI l s = true) ∧ Below w.heap.size w wr) (fun _ wr => wr.rangeLeft mb w.heap.size)
  case atStart =>
    refine ⟨_, _, 0, hrg0, rfl, ?_, ?_, hb0⟩
    · unfold Hid
      rw [leftSum_all (fun x hx => by rw [hhas]; exact hasI_mem.2 ⟨x, hx, rfl⟩)]
      omega
    · intro s hs
      rw [hhas] at hs
      exact hs
  case round =>
    obtain ⟨left, n, q, hrg, rfl, HQ, HL, hbl⟩ := hrel
    have hb1 := leftSum_bd left hb
    have hb2 := leftSum_bd (fun _ => true) hb
    rw [leftSum_all (fun _ _ => rfl)] at hb2
    go_wp2_with (at_next; refine wpList_next_ranges _ rfl _ rfl 9 keyedS (plainElem Try.prog 3) Value.string (Value.int .i64) (fun key z hk => keyS_form hk) (fun v y hv => by obtain ⟨c, rfl, _⟩ := plainElem_int_inv Try.underlying3 hv; exact ⟨c, rfl⟩) mb w.heap.size l.length D left n rfl hrg ?_ ?_)
    · intro hc0 hl0
      have hq : q = sumI l := by have := HQ.out; rw [leftSum_none hl0] at this; omega
      go_wp2
      go_ret
      exact ⟨ret_int hq, hbl⟩
    · intro x c z y1 y2 w1 n1 hkey hlk hel hzd hrg1 hlt hg1 hs1 hen
      obtain rfl := keyS_inv hkey
      obtain ⟨c', ec, hy, _⟩ := plainElem_int_inv Try.underlying3 hel
      cases ec
      cases hy
      have hc : c = cnt l x := by
        have h1 := hat x
        rw [hzd] at h1
        cases h1
        rfl
      have hst := leftSum_step hu (HL.out x hlk) hlk
      rw [← hc] at hst
      have hb3 := leftSum_bd (fun z => left z && !z.sameKey (kl x)) hb
      have hq1 : q + c + leftSum l (fun z => left z && !z.sameKey (kl x)) = sumI l := by have := HQ.out; omega
      have e1 : IntKind.i64.wrap (q + c) = q + c := IntWalk.i64_in _ (by omega)
      have HL1 : Hid (∀ s, (left (kl s) && !(kl s).sameKey (kl x)) = true → hasI l s = true) := fun s hs => HL.out s (by simp only [Bool.and_eq_true] at hs; exact hs.1)
      have HQ1 := Lib.hid hq1
      have hbl1 := hbl.grown hg1 hbl.size (fun k hk => by cases hk; exact Nat.le_refl _)
      have hle0 := hrg.left_eq
      clear hb1 hb2 hb3 hst hq1 hrg hzd hel hkey hc
      go_wp2
      go_roundw
      case rel => exact ⟨_, n1, q + c, hrg1, rfl, HQ1, HL1, hbl1⟩
      case measure => rw [hrg1.left_eq, hle0]; omega

theorem TotalCount_any (va : Value) (a : List Itm) (w : World) (ha : Items w va a) :
    Calls Try.prog 29 #[va] w fun e w' => e = .returned (.int .i64 (if validI a = true then sumI (sumL a [] 1) else 0)) ∧ Below w.heap.size w w' := by
  go_enter Try.func29, Try.ntmps29
  cases hv : validI a
  · have H := Lib.hid hv
    clear hv
    go_wp2_with fail
    refine (Vi_v _ ha H.out).mono ?_
    rintro e w1 ⟨rfl, hb1⟩
    go_wp2
    go_ret
    exact ⟨rfl, hb1⟩
  · have H := Lib.hid hv
    clear hv
    have hsa := valid_small (m := 1) H.out (by omega) (by omega)
    have HS := Lib.hid (sumL_one H.out)
    go_wp2_with fail
    refine (Vi_v _ ha H.out).mono ?_
    rintro e w1 ⟨rfl, hb1⟩
    have ha1 := ha.mono hb1 (Nat.le_refl _)
    go_wp2_with fail
    refine (sumOf_any (· < w1.heap.size) va (.slice none 0 0) a [] 1 w1 (fun _ h => h) ha1 (Items.nil _) ha1.inK (InK.nil _) hsa (small_nil 1)).mono ?_
    rintro e w2 ⟨t, rfl, hT, hk2⟩
    go_wp2_with fail
    refine (total_any (· < w1.heap.size) t _ w2 hT (by rw [HS.out]; have := valid_len H.out; omega) (by rw [HS.out]; exact valid_num H.out)).mono ?_
    rintro e w3 ⟨rfl, hb3⟩
    have h12 : Below w1.heap.size w1 w2 := hk2.below (fun _ h => h)
    go_wp2
    go_ret
    exact ⟨rfl, hb1.trans ((h12.trans (hb3.mono hk2.size)).mono hb1.size)⟩
end Go.Proofs.Ytmjcijhbhdfhdaa
