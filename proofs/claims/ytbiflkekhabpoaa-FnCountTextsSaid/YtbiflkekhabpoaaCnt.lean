/-
  Texts counted: the model's function and the program's.
-/
import Derived.Test.YtbiflkekhabpoaaStr
import Derived.Test.YtbiflkekhabpoaaImpl2
namespace Go.Proofs.Ytbiflkekhabpoaa
open Go.RowKit

def oneI (ts : List ByteArray) : List Itm := ts.map fun s => (s, 1)
theorem oneI_length (ts : List ByteArray) : (oneI ts).length = ts.length := by simp [oneI]
theorem oneI_get {ts : List ByteArray} {k : Nat} (h : k < ts.length) : (oneI ts)[k]'(by rw [oneI_length]; exact h) = (ts[k], 1) := by simp [oneI]
theorem oneI_small {ts : List ByteArray} (h : ts.length ≤ 40) : smallI (oneI ts) 1 := ⟨by rw [oneI_length]; exact h, fun x hx => by
  obtain ⟨s, _, rfl⟩ := List.mem_map.1 hx
  exact ⟨by show (-1000000000 : Int) ≤ 1 * 1; decide, by show (1 * 1 : Int) ≤ 1000000000; decide⟩⟩
theorem oneI_ok {ts : List ByteArray} (h : okT ts) : okI (oneI ts) := fun x hx => by
  obtain ⟨s, hs, rfl⟩ := List.mem_map.1 hx
  exact ⟨h s hs, by show (-9223372036854775808 : Int) ≤ 1; decide, by show (1 : Int) ≤ 9223372036854775807; decide⟩
/-- One text more. -/
theorem one_step {ts : List ByteArray} {k : Nat} (h : k < ts.length) : addAll [] ((oneI ts).take (k + 1)) 1 = putI (addAll [] ((oneI ts).take k) 1) ts[k] (cnt (addAll [] ((oneI ts).take k) 1) ts[k] + 1) := by
  have hk : k < (oneI ts).length := by rw [oneI_length]; exact h
  rw [addAll_take hk, oneI_get h, Int.mul_one]
theorem one_bound {ts : List ByteArray} {k : Nat} (h : k < ts.length) (h40 : ts.length ≤ 40) : -100000000000 ≤ cnt (addAll [] ((oneI ts).take k) 1) ts[k] + 1 ∧ cnt (addAll [] ((oneI ts).take k) 1) ts[k] + 1 ≤ 100000000000 := by
  have hk : k < (oneI ts).length := by rw [oneI_length]; exact h
  have := sum_step (t := []) (m := 1) (oneI_small h40) cntLe_nil hk
  rw [oneI_get h] at this
  simp only [Int.mul_one] at this
  omega

set_option maxHeartbeats 1600000 in
set_option maxRecDepth 100000 in
theorem sCountTexts_any (v : Value) (ts : List ByteArray) (w : World) (h : Texts w v ts) :
    Calls Try.prog 33 #[v] w (NewI2 (if decide (ts.length ≤ 40) = true then chkI (sumL [] (oneI ts) 1) else []) (decide (ts.length ≤ 40) && validI (sumL [] (oneI ts) 1)) w) := by
  obtain ⟨ao, cap, rfl, hlc, hcm, hok, hcell⟩ := h
  go_enter Try.func33, Try.ntmps33
  by_cases h40 : ts.length ≤ 40
  · have HD := Lib.hid (decide_eq_true h40)
    rw [HD.out]
    have hlit : OwnI 54 (w.alloc (.cells #[] 54)) w.heap.size (.slice (some ⟨w.heap.size, 0, none⟩) 0 0) [] :=
      ⟨World.ownsRow_lit (base := w.heap.size) (e := 54) (size := 2) w #[] 0 (Nat.le_refl _) (by unfold maxLen; omega) rfl, fun x hx => by simp at hx⟩
    have hcmp : ¬ ((40 : Int) < (ts.length : Int)) := by omega
    go_wp2
    go_loopw [4, 5] (fun x i wr => ∃ k : Nat, k ≤ ts.length ∧ i = .int .i64 k ∧ OwnI 54 wr w.heap.size x (addAll [] ((oneI ts).take k) 1) ∧ Below w.heap.size w wr) (fun _ i _ => ts.length - (intOf i).toNat)
    case atStart => exact ⟨0, Nat.zero_le _, rfl, hlit, (Below.refl _ _).alloc (Nat.le_refl _) _⟩
    case round =>
      obtain ⟨k, hk, rfl, hrow, hbl⟩ := hrel
      by_cases hlt : k < ts.length
      · obtain ⟨b1, o1, rfl, hb1', h1⟩ := hcell k hlt
        have c1 := (hbl.cell (p := ⟨b1, _, none⟩) hb1').trans h1
        have hs := hok _ (List.getElem_mem hlt)
        have hsm := one_bound hlt h40
        have hln := addAll_length ((oneI ts).take k) 1 []
        have htk : ((oneI ts).take k).length ≤ 40 := (take_small (oneI_small h40) k).1
        have hI := Lib.hid hrow.items
        have e2 : IntKind.i64.wrap (cnt (addAll [] ((oneI ts).take k) 1) ts[k] + 1) = cnt (addAll [] ((oneI ts).take k) 1) ts[k] + 1 := IntWalk.i64_in _ (by omega)
        obtain ⟨xo, xcap, rfl, _, _⟩ := own_slice hrow.1
        clear h1 hrow
        go_wp2_with fail
        refine wp_region_still_tail 12 (by kernel_rfl) (by kernel_rfl) ?_
        simp only [List.take_succ_cons, List.take_zero, List.drop_succ_cons, List.drop_zero]
        repeat still_step
        still_call (count_v _ hI.out.drew)
        repeat still_step
        refine wpStill_nil ?_
        change wpList _ _ _ _ _ wr.drew
        go_wp2_with fail
        refine (put_any _ _ _ _ _ hI.out.drew (by simp at hln; omega) hs (by omega)).mono ?_
        rintro e w2 ⟨v2, rfl, ho2, hb2⟩
        have ho3 := Lib.hid (ho2.base (show w.heap.size ≤ wr.drew.heap.size from hbl.size))
        have hb3 := Lib.hid (hbl.drew.trans (hb2.mono hbl.size))
        have ht := Lib.hid (one_step hlt)
        clear ho2 hb2 c1 e2 hln htk hsm
        go_wp2
        go_roundw
        case rel => exact ⟨k + 1, by omega, by go_num, by rw [ht.out]; exact ho3.out, hb3.out⟩
        case measure => simp [intOf]; omega
      · obtain rfl : k = ts.length := by omega
        have e1 : (oneI ts).take ts.length = oneI ts := by rw [← oneI_length ts, List.take_length]
        rw [e1] at hrow
        have hrow' : OwnI 54 wr w.heap.size _ (sumL [] (oneI ts) 1) := hrow
        go_wp2_with fail
        refine (schecked_any _ hrow').mono ?_
        rintro e w4 ⟨v4, rfl, ho4, hb4⟩
        go_wp2
        go_ret2
        exact ⟨_, rfl, ho4, hbl.trans (hb4.mono hbl.size)⟩
  · have HD := Lib.hid (decide_eq_false h40)
    rw [HD.out]
    have hcmp : ((40 : Int) < (ts.length : Int)) := by omega
    go_wp2
    go_ret2
    exact ⟨_, rfl, OwnI_nil _ _ _, Below.refl _ _⟩

set_option maxHeartbeats 1600000 in
set_option maxRecDepth 100000 in
theorem CountTexts_any (v : Value) (ts : List ByteArray) (w : World) (h : Texts w v ts) :
    Calls Try.prog 35 #[v] w (NewI2 (if decide (ts.length ≤ 40) = true then chkI (sumL [] (oneI ts) 1) else []) (decide (ts.length ≤ 40) && validI (sumL [] (oneI ts) 1)) w) := by
  obtain ⟨ao, cap, rfl, hlc, hcm, hok, hcell⟩ := h
  go_enter Try.func35, Try.ntmps35
  by_cases h40 : ts.length ≤ 40
  · have HD := Lib.hid (decide_eq_true h40)
    rw [HD.out]
    have hcmp : ¬ ((40 : Int) < (ts.length : Int)) := by omega
    go_wp2_with fail
    refine (newTally_any (· < w.heap.size) w (fun _ h => h)).mono ?_
    rintro e w1 ⟨t, rfl, hT1, hk1⟩
    go_wp2
    go_loopw [13] (fun i wr => ∃ k : Nat, k ≤ ts.length ∧ i = .int .i64 k ∧ TallyAt (· < w.heap.size) wr t (addAll [] ((oneI ts).take k) 1) ∧ Keeps (· < w.heap.size) w wr) (fun i _ => ts.length - (intOf i).toNat)
    case atStart => exact ⟨0, Nat.zero_le _, rfl, hT1, hk1⟩
    case round =>
      obtain ⟨k, hk, rfl, hT, hkp⟩ := hrel
      by_cases hlt : k < ts.length
      · obtain ⟨b1, o1, rfl, hb1, h1⟩ := hcell k hlt
        have c1 := (hkp.cell (a := ⟨b1, o1 + k, none⟩) hb1).trans h1
        have hs := hok _ (List.getElem_mem hlt)
        have hsm := one_bound hlt h40
        have hln := addAll_length ((oneI ts).take k) 1 []
        have htk : ((oneI ts).take k).length ≤ 40 := (take_small (oneI_small h40) k).1
        clear h1
        go_wp2_with fail
        refine (add_any (· < w.heap.size) t _ _ _ _ (fun j hj => Nat.lt_of_lt_of_le hj hkp.size) hT hs (by simp at hln; omega) (by omega)).mono ?_
        rintro e w2 ⟨rfl, hT2, hk2⟩
        have hT3 := Lib.hid hT2
        have ht := Lib.hid (one_step hlt)
        have hk3 := Lib.hid (hkp.trans hk2)
        clear hT2 hT c1 hln hsm hk2
        go_wp2
        go_roundw
        case rel => exact ⟨k + 1, by omega, by go_num, by rw [ht.out]; exact hT3.out, hk3.out⟩
        case measure => simp [intOf]; omega
      · obtain rfl : k = ts.length := by omega
        have e1 : (oneI ts).take ts.length = oneI ts := by rw [← oneI_length ts, List.take_length]
        rw [e1] at hT
        have hT' : TallyAt (· < w.heap.size) wr t (sumL [] (oneI ts) 1) := hT
        have hsb := oneI_small h40
        have hok2 := sumL_ok (small_nil 1) hsb (fun x hx => by simp at hx) (oneI_ok hok)
        have hlen := sumL_length (small_nil 1) hsb
        go_wp2_with fail
        refine (items_any _ t _ wr hT' (by omega) hok2).mono ?_
        rintro e w3 ⟨v3, rfl, ho3, hb3⟩
        go_wp2_with fail
        refine (checked_any _ ho3).mono ?_
        rintro e w4 ⟨v4, rfl, ho4, hb4⟩
        have h12 : Below w.heap.size w wr := hkp.below (fun _ h => h)
        have h13 : Below w.heap.size w w3 := h12.trans (hb3.mono hkp.size)
        go_wp2
        go_ret2
        exact ⟨_, rfl, ho4.base hkp.size, h13.trans (hb4.mono h13.size)⟩
  · have HD := Lib.hid (decide_eq_false h40)
    rw [HD.out]
    have hcmp : ((40 : Int) < (ts.length : Int)) := by omega
    go_wp2
    go_ret2
    exact ⟨_, rfl, OwnI_nil _ _ _, Below.refl _ _⟩
end Go.Proofs.Ytbiflkekhabpoaa
