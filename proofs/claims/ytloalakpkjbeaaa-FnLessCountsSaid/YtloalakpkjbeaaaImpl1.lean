/-
  The program's functions over one list of items.
-/
import Derived.Test.YtloalakpkjbeaaaImpl
namespace Go.Proofs.Ytloalakpkjbeaaa
open Go.RowKit

theorem KeepCounts_any (va : Value) (a : List Itm) (w : World) (ha : Items w va a) :
    Calls Try.prog 34 #[va] w (NewI (if validI a = true then posI (sumL a [] 1) else []) w) := by
  go_enter Try.func34, Try.ntmps34
  cases hv : validI a
  · have H := Lib.hid hv
    clear hv
    go_wp2_with fail
    refine (Vi_v _ ha H.out).mono ?_
    rintro e w1 ⟨rfl, hb1⟩
    go_wp2
    go_ret
    exact ⟨_, rfl, OwnI_nil _ _ _, hb1⟩
  · have H := Lib.hid hv
    clear hv
    go_wp2_with fail
    refine (Vi_v _ ha H.out).mono ?_
    rintro e w1 ⟨rfl, hb1⟩
    have ha1 := ha.mono hb1 (Nat.le_refl _)
    go_wp2_with fail
    refine (newTally_any (· < w1.heap.size) w1 (fun _ h => h)).mono ?_
    rintro e w2 ⟨t, rfl, hT, hk2⟩
    go_wp2_with fail
    refine (positive_any (· < w1.heap.size) t [] va (.slice none 0 0) a [] 1 w2 (fun _ h => Nat.lt_of_lt_of_le h hk2.size) hT (ha1.keeps hk2 ha1.inK) (Items.nil _) ha1.inK (InK.nil _) (valid_small H.out (by omega) (by omega)) (small_nil _)).mono ?_
    rintro e w3 ⟨v3, rfl, ho3, hT3, hk3⟩
    have h13 : Below w1.heap.size w1 w3 := (hk2.trans hk3).below (fun _ h => h)
    go_wp2
    go_ret
    exact ⟨_, rfl, ho3.base (Nat.le_trans hb1.size hk2.size), hb1.trans (h13.mono hb1.size)⟩

theorem TurnCounts_any (va : Value) (a : List Itm) (w : World) (ha : Items w va a) :
    Calls Try.prog 47 #[va] w (NewI (if validI a = true then posI (sumL [] a (-1)) else []) w) := by
  go_enter Try.func47, Try.ntmps47
  cases hv : validI a
  · have H := Lib.hid hv
    clear hv
    go_wp2_with fail
    refine (Vi_v _ ha H.out).mono ?_
    rintro e w1 ⟨rfl, hb1⟩
    go_wp2
    go_ret
    exact ⟨_, rfl, OwnI_nil _ _ _, hb1⟩
  · have H := Lib.hid hv
    clear hv
    go_wp2_with fail
    refine (Vi_v _ ha H.out).mono ?_
    rintro e w1 ⟨rfl, hb1⟩
    have ha1 := ha.mono hb1 (Nat.le_refl _)
    go_wp2_with fail
    refine (newTally_any (· < w1.heap.size) w1 (fun _ h => h)).mono ?_
    rintro e w2 ⟨t, rfl, hT, hk2⟩
    go_wp2_with fail
    refine (positive_any (· < w1.heap.size) t [] (.slice none 0 0) va [] a (-1) w2 (fun _ h => Nat.lt_of_lt_of_le h hk2.size) hT (Items.nil _) (ha1.keeps hk2 ha1.inK) (InK.nil _) ha1.inK (small_nil _) (valid_small H.out (by omega) (by omega))).mono ?_
    rintro e w3 ⟨v3, rfl, ho3, hT3, hk3⟩
    have h13 : Below w1.heap.size w1 w3 := (hk2.trans hk3).below (fun _ h => h)
    go_wp2
    go_ret
    exact ⟨_, rfl, ho3.base (Nat.le_trans hb1.size hk2.size), hb1.trans (h13.mono hb1.size)⟩

theorem ScaleCounts_any (va : Value) (a : List Itm) (m : Int) (w : World) (ha : Items w va a) :
    Calls Try.prog 50 #[va, .int .i64 m] w (NewI2 (if (validI a && numB m) = true then chkI (sumL [] a m) else []) ((validI a && numB m) && validI (sumL [] a m)) w) := by
  go_enter Try.func50, Try.ntmps50
  cases hv : validI a
  · have H := Lib.hid hv
    clear hv
    go_wp2_with fail
    refine (Vi_v _ ha H.out).mono ?_
    rintro e w1 ⟨rfl, hb1⟩
    go_wp2
    go_ret2
    exact ⟨_, rfl, OwnI_nil _ _ _, hb1⟩
  · have H := Lib.hid hv
    clear hv
    cases hm : numB m
    · have HM := Lib.hid hm
      clear hm
      go_wp2_with fail
      refine (Vi_v _ ha H.out).mono ?_
      rintro e w1 ⟨rfl, hb1⟩
      go_wp2_with fail
      refine (isNumber_v _ HM.out).mono ?_
      rintro e w2 ⟨rfl, rfl⟩
      go_wp2
      go_ret2
      exact ⟨_, rfl, OwnI_nil _ _ _, hb1⟩
    · have HM := Lib.hid hm
      clear hm
      have hmb := numB_iff.1 HM.out
      have hsb := valid_small (m := m) H.out hmb.1 hmb.2
      have hok := sumL_ok (small_nil 1) hsb (fun x hx => by simp at hx) ha.ok
      have hlen := sumL_length (small_nil 1) hsb
      go_wp2_with fail
      refine (Vi_v _ ha H.out).mono ?_
      rintro e w1 ⟨rfl, hb1⟩
      have ha1 := ha.mono hb1 (Nat.le_refl _)
      go_wp2_with fail
      refine (isNumber_v _ HM.out).mono ?_
      rintro e w2 ⟨rfl, rfl⟩
      go_wp2_with fail
      refine (sumOf_any (· < w1.heap.size) (.slice none 0 0) va [] a m w1 (fun _ h => h) (Items.nil _) ha1 (InK.nil _) ha1.inK (small_nil 1) hsb).mono ?_
      rintro e w2 ⟨t, rfl, hT, hk2⟩
      go_wp2_with fail
      refine (items_any _ t _ w2 hT (by omega) hok).mono ?_
      rintro e w3 ⟨v3, rfl, ho3, hb3⟩
      go_wp2_with fail
      refine (checked_any _ ho3).mono ?_
      rintro e w4 ⟨v4, rfl, ho4, hb4⟩
      have h12 : Below w1.heap.size w1 w2 := hk2.below (fun _ h => h)
      have h13 : Below w1.heap.size w1 w3 := h12.trans (hb3.mono hk2.size)
      have hB : Below w.heap.size w w4 := hb1.trans ((h13.trans (hb4.mono h13.size)).mono hb1.size)
      go_wp2
      go_ret2
      exact ⟨_, rfl, ho4.base (Nat.le_trans hb1.size hk2.size), hB⟩

theorem DropZero_any (va : Value) (a : List Itm) (w : World) (ha : Items w va a) :
    Calls Try.prog 27 #[va] w (NewI (if validI a = true then nzI (sumL a [] 1) else []) w) := by
  go_enter Try.func27, Try.ntmps27
  cases hv : validI a
  · have H := Lib.hid hv
    clear hv
    go_wp2_with fail
    refine (Vi_v _ ha H.out).mono ?_
    rintro e w1 ⟨rfl, hb1⟩
    go_wp2
    go_ret
    exact ⟨_, rfl, OwnI_nil _ _ _, hb1⟩
  · have H := Lib.hid hv
    clear hv
    have hsa := valid_small (m := 1) H.out (by omega) (by omega)
    have hok := sumL_ok hsa (small_nil 1) ha.ok (fun x hx => by simp at hx)
    have hlen := sumL_length hsa (small_nil 1)
    go_wp2_with fail
    refine (Vi_v _ ha H.out).mono ?_
    rintro e w1 ⟨rfl, hb1⟩
    have ha1 := ha.mono hb1 (Nat.le_refl _)
    go_wp2_with fail
    refine (sumOf_any (· < w1.heap.size) va (.slice none 0 0) a [] 1 w1 (fun _ h => h) ha1 (Items.nil _) ha1.inK (InK.nil _) hsa (small_nil 1)).mono ?_
    rintro e w2 ⟨t, rfl, hT, hk2⟩
    go_wp2_with fail
    refine (keepNz_any (· < w1.heap.size) t _ (fun n => decide (n ≠ 0)) w2 (fun _ h => Nat.lt_of_lt_of_le h hk2.size) hT (by omega) hok isNotZero_any).mono ?_
    rintro e w3 ⟨rfl, hT3, hk3⟩
    go_wp2_with fail
    refine (items_any _ t _ w3 hT3 (Nat.le_trans (List.length_filter_le _ _) (by omega)) (okI_filter hok _)).mono ?_
    rintro e w4 ⟨v4, rfl, ho4, hb4⟩
    have h13 : Below w1.heap.size w1 w3 := (hk2.trans hk3).below (fun _ h => h)
    go_wp2
    go_ret
    exact ⟨_, rfl, ho4.base (Nat.le_trans hb1.size h13.size), hb1.trans ((h13.trans (hb4.mono h13.size)).mono hb1.size)⟩

end Go.Proofs.Ytloalakpkjbeaaa
