/-
  The program's functions over two lists of items.
-/
import Derived.Test.YtloalakpkjbeaaaTally3
namespace Go.Proofs.Ytloalakpkjbeaaa
open Go.RowKit

theorem mul_bound {a b A B : Int} (h1 : -A ≤ a) (h2 : a ≤ A) (h3 : -B ≤ b) (h4 : b ≤ B) : -(A * B) ≤ a * b ∧ a * b ≤ A * B := by
  have hA : 0 ≤ A := by omega
  have hB : 0 ≤ B := by omega
  have e1 : (a.natAbs : Int) ≤ A := by omega
  have e2 : (b.natAbs : Int) ≤ B := by omega
  have e3 : ((a * b).natAbs : Int) ≤ A * B := by
    rw [Int.natAbs_mul, Int.natCast_mul]
    exact Int.mul_le_mul e1 e2 (by omega) hA
  omega
theorem valid_small {l : List Itm} {m : Int} (h : validI l = true) (h1 : -9999 ≤ m) (h2 : m ≤ 9999) : smallI l m :=
  ⟨by have := valid_len h; omega, fun x hx => by
    have hx := valid_num h x hx
    have := mul_bound hx.1 hx.2 h1 h2
    omega⟩

theorem small_nil (m : Int) : smallI [] m := ⟨by simp, fun x hx => by simp at hx⟩
theorem AddCounts_any (va vb : Value) (a b : List Itm) (w : World) (ha : Items w va a) (hb : Items w vb b) :
    Calls Try.prog 31 #[va, vb] w (NewI2 (if (validI a && validI b) = true then chkI (posI (sumL a b 1)) else []) ((validI a && validI b) && validI (posI (sumL a b 1))) w) := by
  go_enter Try.func31, Try.ntmps31
  cases hv : (validI a && validI b)
  · have H := Lib.hid hv
    clear hv
    go_wp2_with fail
    refine (bothValid_v _ ha hb H.out).mono ?_
    rintro e w1 ⟨rfl, hb1⟩
    go_wp2
    go_ret2
    exact ⟨_, rfl, OwnI_nil _ _ _, hb1⟩
  · have H := Lib.hid hv
    clear hv
    have HV := both_yes H.out
    go_wp2_with fail
    refine (bothValid_v _ ha hb H.out).mono ?_
    rintro e w1 ⟨rfl, hb1⟩
    have ha1 := ha.mono hb1 (Nat.le_refl _)
    have hb1' := hb.mono hb1 (Nat.le_refl _)
    go_wp2_with fail
    refine (newTally_any (· < w1.heap.size) w1 (fun _ h => h)).mono ?_
    rintro e w2 ⟨t, rfl, hT, hk2⟩
    go_wp2_with fail
    refine (positive_any (· < w1.heap.size) t [] va vb a b 1 w2 (fun _ h => Nat.lt_of_lt_of_le h hk2.size) hT (ha1.keeps hk2 ha1.inK) (hb1'.keeps hk2 hb1'.inK) ha1.inK hb1'.inK (valid_small HV.1 (by omega) (by omega)) (valid_small HV.2 (by omega) (by omega))).mono ?_
    rintro e w3 ⟨v3, rfl, ho3, hT3, hk3⟩
    go_wp2_with fail
    refine (checked_any _ ho3).mono ?_
    rintro e w4 ⟨v4, rfl, ho4, hb4⟩
    have h13 : Below w1.heap.size w1 w3 := (hk2.trans hk3).below (fun _ h => h)
    have hB : Below w.heap.size w w4 := hb1.trans ((h13.trans (hb4.mono h13.size)).mono hb1.size)
    go_wp2
    go_ret2
    exact ⟨_, rfl, ho4.base (Nat.le_trans hb1.size hk2.size), hB⟩
theorem LessCounts_any (va vb : Value) (a b : List Itm) (w : World) (ha : Items w va a) (hb : Items w vb b) :
    Calls Try.prog 36 #[va, vb] w (NewI2 (if (validI a && validI b) = true then chkI (posI (sumL a b (-1))) else []) ((validI a && validI b) && validI (posI (sumL a b (-1)))) w) := by
  go_enter Try.func36, Try.ntmps36
  cases hv : (validI a && validI b)
  · have H := Lib.hid hv
    clear hv
    go_wp2_with fail
    refine (bothValid_v _ ha hb H.out).mono ?_
    rintro e w1 ⟨rfl, hb1⟩
    go_wp2
    go_ret2
    exact ⟨_, rfl, OwnI_nil _ _ _, hb1⟩
  · have H := Lib.hid hv
    clear hv
    have HV := both_yes H.out
    go_wp2_with fail
    refine (bothValid_v _ ha hb H.out).mono ?_
    rintro e w1 ⟨rfl, hb1⟩
    have ha1 := ha.mono hb1 (Nat.le_refl _)
    have hb1' := hb.mono hb1 (Nat.le_refl _)
    go_wp2_with fail
    refine (newTally_any (· < w1.heap.size) w1 (fun _ h => h)).mono ?_
    rintro e w2 ⟨t, rfl, hT, hk2⟩
    go_wp2_with fail
    refine (positive_any (· < w1.heap.size) t [] va vb a b (-1) w2 (fun _ h => Nat.lt_of_lt_of_le h hk2.size) hT (ha1.keeps hk2 ha1.inK) (hb1'.keeps hk2 hb1'.inK) ha1.inK hb1'.inK (valid_small HV.1 (by omega) (by omega)) (valid_small HV.2 (by omega) (by omega))).mono ?_
    rintro e w3 ⟨v3, rfl, ho3, hT3, hk3⟩
    go_wp2_with fail
    refine (checked_any _ ho3).mono ?_
    rintro e w4 ⟨v4, rfl, ho4, hb4⟩
    have h13 : Below w1.heap.size w1 w3 := (hk2.trans hk3).below (fun _ h => h)
    have hB : Below w.heap.size w w4 := hb1.trans ((h13.trans (hb4.mono h13.size)).mono hb1.size)
    go_wp2
    go_ret2
    exact ⟨_, rfl, ho4.base (Nat.le_trans hb1.size hk2.size), hB⟩
theorem UpdateCounts_any (va vb : Value) (a b : List Itm) (w : World) (ha : Items w va a) (hb : Items w vb b) :
    Calls Try.prog 54 #[va, vb] w (NewI2 (if (validI a && validI b) = true then chkI (sumL a b 1) else []) ((validI a && validI b) && validI (sumL a b 1)) w) := by
  go_enter Try.func54, Try.ntmps54
  cases hv : (validI a && validI b)
  · have H := Lib.hid hv
    clear hv
    go_wp2_with fail
    refine (bothValid_v _ ha hb H.out).mono ?_
    rintro e w1 ⟨rfl, hb1⟩
    go_wp2
    go_ret2
    exact ⟨_, rfl, OwnI_nil _ _ _, hb1⟩
  · have H := Lib.hid hv
    clear hv
    have HV := both_yes H.out
    have hsa := valid_small (m := 1) HV.1 (by omega) (by omega)
    have hsb := valid_small (m := 1) HV.2 (by omega) (by omega)
    have hok := sumL_ok hsa hsb ha.ok hb.ok
    have hlen := sumL_length hsa hsb
    go_wp2_with fail
    refine (bothValid_v _ ha hb H.out).mono ?_
    rintro e w1 ⟨rfl, hb1⟩
    have ha1 := ha.mono hb1 (Nat.le_refl _)
    have hb1' := hb.mono hb1 (Nat.le_refl _)
    go_wp2_with fail
    refine (sumOf_any (· < w1.heap.size) va vb a b 1 w1 (fun _ h => h) ha1 hb1' ha1.inK hb1'.inK hsa hsb).mono ?_
    rintro e w2 ⟨t, rfl, hT, hk2⟩
    go_wp2_with fail
    refine (items_any _ t _ w2 hT (by omega) hok).mono ?_
    rintro e w3 ⟨v3, rfl, ho3, hb3⟩
    go_wp2_with fail
    refine (checked_any _ ho3).mono ?_
    rintro e w4 ⟨v4, rfl, ho4, hb4⟩
    have h12 : Below w1.heap.size w1 w2 := hk2.below (fun _ h => h)
    have h13 : Below w1.heap.size w1 w3 := h12.trans (hb3.mono hk2.size)
    have hB : Below w.heap.size w w4 := hb1.trans ((h13.trans (hb4.mono h13.size)).mono hb1.size)
    go_wp2
    go_ret2
    exact ⟨_, rfl, ho4.base (Nat.le_trans hb1.size hk2.size), hB⟩

theorem SubtractCounts_any (va vb : Value) (a b : List Itm) (w : World) (ha : Items w va a) (hb : Items w vb b) :
    Calls Try.prog 24 #[va, vb] w (NewI2 (if (validI a && validI b) = true then chkI (sumL a b (-1)) else []) ((validI a && validI b) && validI (sumL a b (-1))) w) := by
  go_enter Try.func24, Try.ntmps24
  cases hv : (validI a && validI b)
  · have H := Lib.hid hv
    clear hv
    go_wp2_with fail
    refine (bothValid_v _ ha hb H.out).mono ?_
    rintro e w1 ⟨rfl, hb1⟩
    go_wp2
    go_ret2
    exact ⟨_, rfl, OwnI_nil _ _ _, hb1⟩
  · have H := Lib.hid hv
    clear hv
    have HV := both_yes H.out
    have hsa := valid_small (m := 1) HV.1 (by omega) (by omega)
    have hsb := valid_small (m := -1) HV.2 (by omega) (by omega)
    have hok := sumL_ok hsa hsb ha.ok hb.ok
    have hlen := sumL_length hsa hsb
    go_wp2_with fail
    refine (bothValid_v _ ha hb H.out).mono ?_
    rintro e w1 ⟨rfl, hb1⟩
    have ha1 := ha.mono hb1 (Nat.le_refl _)
    have hb1' := hb.mono hb1 (Nat.le_refl _)
    go_wp2_with fail
    refine (sumOf_any (· < w1.heap.size) va vb a b (-1) w1 (fun _ h => h) ha1 hb1' ha1.inK hb1'.inK hsa hsb).mono ?_
    rintro e w2 ⟨t, rfl, hT, hk2⟩
    go_wp2_with fail
    refine (items_any _ t _ w2 hT (by omega) hok).mono ?_
    rintro e w3 ⟨v3, rfl, ho3, hb3⟩
    go_wp2_with fail
    refine (checked_any _ ho3).mono ?_
    rintro e w4 ⟨v4, rfl, ho4, hb4⟩
    have h12 : Below w1.heap.size w1 w2 := hk2.below (fun _ h => h)
    have h13 : Below w1.heap.size w1 w3 := h12.trans (hb3.mono hk2.size)
    have hB : Below w.heap.size w w4 := hb1.trans ((h13.trans (hb4.mono h13.size)).mono hb1.size)
    go_wp2
    go_ret2
    exact ⟨_, rfl, ho4.base (Nat.le_trans hb1.size hk2.size), hB⟩

end Go.Proofs.Ytloalakpkjbeaaa
