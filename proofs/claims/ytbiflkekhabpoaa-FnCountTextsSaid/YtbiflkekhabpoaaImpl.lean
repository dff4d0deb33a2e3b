/-
  The program's functions over two lists of items.
-/
import Derived.Test.YtbiflkekhabpoaaTally3
namespace Go.Proofs.Ytbiflkekhabpoaa
open Go.RowKit

/-- Items, or none where they are not valid. -/
def chkI (l : List Itm) : List Itm := if validI l = true then l else []

/-- A new list. -/
def NewI (l : List Itm) (w : World) (e : Ending) (w' : World) : Prop :=
  ∃ v, e = .returned v ∧ OwnI 54 w' w.heap.size v l ∧ Below w.heap.size w w'
/-- A new list and whether it is one. -/
def NewI2 (l : List Itm) (ok : Bool) (w : World) (e : Ending) (w' : World) : Prop :=
  ∃ v, e = .returned (.tuple #[v, .bool ok]) ∧ OwnI 54 w' w.heap.size v l ∧ Below w.heap.size w w'

theorem OwnI_nil (E : Nat) (w : World) (B : Nat) : OwnI E w B (.slice none 0 0) [] := ⟨World.ownsRow_nil _ _ _ _, fun x hx => by simp at hx⟩

theorem valid_num {l : List Itm} (h : validI l = true) : ∀ x ∈ l, -9999 ≤ x.2 ∧ x.2 ≤ 9999 := fun x hx => numB_iff.1 (((validI_iff l).1 h).1 x hx).2
theorem valid_len {l : List Itm} (h : validI l = true) : l.length ≤ 8 := ((validI_iff l).1 h).2.2
theorem valid_uniq {l : List Itm} (h : validI l = true) : uniqI l = true := ((validI_iff l).1 h).2.1
theorem mul_bound {a b A B : Int} (h1 : -A ≤ a) (h2 : a ≤ A) (h3 : -B ≤ b) (h4 : b ≤ B) : -(A * B) ≤ a * b ∧ a * b ≤ A * B := by
  have hA : 0 ≤ A := by omega
  have hB : 0 ≤ B := by omega
  have e1 : (a.natAbs : Int) ≤ A := by omega
  have e2 : (b.natAbs : Int) ≤ B := by omega
  have e3 : ((a * b).natAbs : Int) ≤ A * B := by
    rw [Int.natAbs_mul, Int.natCast_mul]
    exact Int.mul_le_mul e1 e2 (by omega) hA
  omega
theorem valid_small {l : List Itm} {m : Int} (h : validI l = true) (h1 : -9999 ≤ m) (h2 : m ≤ 9999) : smallI l m :=
  ⟨by have := valid_len h; omega, fun x hx => by
    have hx := valid_num h x hx
    have := mul_bound hx.1 hx.2 h1 h2
    omega⟩

theorem Vi_v {v : Value} {xs : List Itm} {b : Bool} (w : World) (h : Items w v xs) (hb : validI xs = b) : Calls Try.prog 28 #[v] w fun e w' => e = .returned (.bool b) ∧ Below w.heap.size w w' :=
  (ValidItems_any v xs w h).mono fun _ _ ⟨he, hw⟩ => ⟨hb ▸ he, hw⟩

theorem bothValid_v {va vb : Value} {a b : List Itm} {r : Bool} (w : World) (ha : Items w va a) (hb : Items w vb b) (hr : (validI a && validI b) = r) :
    Calls Try.prog 92 #[va, vb] w fun e w' => e = .returned (.bool r) ∧ Below w.heap.size w w' := by
  go_enter Try.func92, Try.ntmps92
  cases hva : validI a
  · have H := Lib.hid hva
    clear hva
    rw [H.out, Bool.false_and] at hr
    subst hr
    go_wp2_with (go_at_call 28; refine (Vi_v _ ha H.out).mono ?_; rintro e w1 ⟨rfl, hb1⟩)
    go_ret
    exact ⟨rfl, hb1⟩
  · have H := Lib.hid hva
    clear hva
    rw [H.out, Bool.true_and] at hr
    have HR := Lib.hid hr
    clear hr
    go_wp2_with fail
    refine (Vi_v _ ha H.out).mono ?_
    rintro e w1 ⟨rfl, hb1⟩
    go_wp2_with fail
    refine (Vi_v _ (hb.mono hb1 (Nat.le_refl _)) HR.out).mono ?_
    rintro e w2 ⟨rfl, hb2⟩
    go_wp2
    go_ret
    exact ⟨rfl, hb1.trans (hb2.mono hb1.size)⟩

theorem checked_any {B : Nat} {v : Value} {l : List Itm} (w : World) (h : OwnI 54 w B v l) :
    Calls Try.prog 87 #[v] w fun e w' => ∃ v', e = .returned (.tuple #[v', .bool (validI l)]) ∧ OwnI 54 w' B v' (chkI l) ∧ Below w.heap.size w w' := by
  go_enter Try.func87, Try.ntmps87
  cases hv : validI l
  all_goals
    have H := Lib.hid hv
    clear hv
    go_wp2_with fail
    refine (Vi_v _ h.items H.out).mono ?_
    rintro e w1 ⟨rfl, hb1⟩
    go_wp2
    go_ret2
  · exact ⟨_, rfl, by unfold chkI; rw [H.out]; exact OwnI_nil _ _ _, hb1⟩
  · exact ⟨_, rfl, by unfold chkI; rw [H.out]; exact h.below hb1 (Nat.le_refl _), hb1⟩

/-- Both valid: what follows is asked of small lists. -/
theorem both_yes {a b : List Itm} (h : (validI a && validI b) = true) : validI a = true ∧ validI b = true := by simpa using h

theorem small_nil (m : Int) : smallI [] m := ⟨by simp, fun x hx => by simp at hx⟩
theorem AddCounts_any (va vb : Value) (a b : List Itm) (w : World) (ha : Items w va a) (hb : Items w vb b) :
    Calls Try.prog 45 #[va, vb] w (NewI2 (if (validI a && validI b) = true then chkI (posI (sumL a b 1)) else []) ((validI a && validI b) && validI (posI (sumL a b 1))) w) := by
  go_enter Try.func45, Try.ntmps45
  cases hv : (validI a && validI b)
  · have H := Lib.hid hv
    clear hv
    go_wp2_with fail
    refine (bothValid_v _ ha hb H.out).mono ?_
    rintro e w1 ⟨rfl, hb1⟩
    go_wp2
    go_ret2
    exact ⟨_, rfl, OwnI_nil _ _ _, hb1⟩
  · have H := Lib.hid hv
    clear hv
    have HV := both_yes H.out
    go_wp2_with fail
    refine (bothValid_v _ ha hb H.out).mono ?_
    rintro e w1 ⟨rfl, hb1⟩
    have ha1 := ha.mono hb1 (Nat.le_refl _)
    have hb1' := hb.mono hb1 (Nat.le_refl _)
    go_wp2_with fail
    refine (newTally_any (· < w1.heap.size) w1 (fun _ h => h)).mono ?_
    rintro e w2 ⟨t, rfl, hT, hk2⟩
    go_wp2_with fail
    refine (positive_any (· < w1.heap.size) t [] va vb a b 1 w2 (fun _ h => Nat.lt_of_lt_of_le h hk2.size) hT (ha1.keeps hk2 ha1.inK) (hb1'.keeps hk2 hb1'.inK) ha1.inK hb1'.inK (valid_small HV.1 (by omega) (by omega)) (valid_small HV.2 (by omega) (by omega))).mono ?_
    rintro e w3 ⟨v3, rfl, ho3, hT3, hk3⟩
    go_wp2_with fail
    refine (checked_any _ ho3).mono ?_
    rintro e w4 ⟨v4, rfl, ho4, hb4⟩
    have h13 : Below w1.heap.size w1 w3 := (hk2.trans hk3).below (fun _ h => h)
    have hB : Below w.heap.size w w4 := hb1.trans ((h13.trans (hb4.mono h13.size)).mono hb1.size)
    go_wp2
    go_ret2
    exact ⟨_, rfl, ho4.base (Nat.le_trans hb1.size hk2.size), hB⟩
theorem LessCounts_any (va vb : Value) (a b : List Itm) (w : World) (ha : Items w va a) (hb : Items w vb b) :
    Calls Try.prog 47 #[va, vb] w (NewI2 (if (validI a && validI b) = true then chkI (posI (sumL a b (-1))) else []) ((validI a && validI b) && validI (posI (sumL a b (-1)))) w) := by
  go_enter Try.func47, Try.ntmps47
  cases hv : (validI a && validI b)
  · have H := Lib.hid hv
    clear hv
    go_wp2_with fail
    refine (bothValid_v _ ha hb H.out).mono ?_
    rintro e w1 ⟨rfl, hb1⟩
    go_wp2
    go_ret2
    exact ⟨_, rfl, OwnI_nil _ _ _, hb1⟩
  · have H := Lib.hid hv
    clear hv
    have HV := both_yes H.out
    go_wp2_with fail
    refine (bothValid_v _ ha hb H.out).mono ?_
    rintro e w1 ⟨rfl, hb1⟩
    have ha1 := ha.mono hb1 (Nat.le_refl _)
    have hb1' := hb.mono hb1 (Nat.le_refl _)
    go_wp2_with fail
    refine (newTally_any (· < w1.heap.size) w1 (fun _ h => h)).mono ?_
    rintro e w2 ⟨t, rfl, hT, hk2⟩
    go_wp2_with fail
    refine (positive_any (· < w1.heap.size) t [] va vb a b (-1) w2 (fun _ h => Nat.lt_of_lt_of_le h hk2.size) hT (ha1.keeps hk2 ha1.inK) (hb1'.keeps hk2 hb1'.inK) ha1.inK hb1'.inK (valid_small HV.1 (by omega) (by omega)) (valid_small HV.2 (by omega) (by omega))).mono ?_
    rintro e w3 ⟨v3, rfl, ho3, hT3, hk3⟩
    go_wp2_with fail
    refine (checked_any _ ho3).mono ?_
    rintro e w4 ⟨v4, rfl, ho4, hb4⟩
    have h13 : Below w1.heap.size w1 w3 := (hk2.trans hk3).below (fun _ h => h)
    have hB : Below w.heap.size w w4 := hb1.trans ((h13.trans (hb4.mono h13.size)).mono hb1.size)
    go_wp2
    go_ret2
    exact ⟨_, rfl, ho4.base (Nat.le_trans hb1.size hk2.size), hB⟩
theorem UpdateCounts_any (va vb : Value) (a b : List Itm) (w : World) (ha : Items w va a) (hb : Items w vb b) :
    Calls Try.prog 41 #[va, vb] w (NewI2 (if (validI a && validI b) = true then chkI (sumL a b 1) else []) ((validI a && validI b) && validI (sumL a b 1)) w) := by
  go_enter Try.func41, Try.ntmps41
  cases hv : (validI a && validI b)
  · have H := Lib.hid hv
    clear hv
    go_wp2_with fail
    refine (bothValid_v _ ha hb H.out).mono ?_
    rintro e w1 ⟨rfl, hb1⟩
    go_wp2
    go_ret2
    exact ⟨_, rfl, OwnI_nil _ _ _, hb1⟩
  · have H := Lib.hid hv
    clear hv
    have HV := both_yes H.out
    have hsa := valid_small (m := 1) HV.1 (by omega) (by omega)
    have hsb := valid_small (m := 1) HV.2 (by omega) (by omega)
    have hok := sumL_ok hsa hsb ha.ok hb.ok
    have hlen := sumL_length hsa hsb
    go_wp2_with fail
    refine (bothValid_v _ ha hb H.out).mono ?_
    rintro e w1 ⟨rfl, hb1⟩
    have ha1 := ha.mono hb1 (Nat.le_refl _)
    have hb1' := hb.mono hb1 (Nat.le_refl _)
    go_wp2_with fail
    refine (sumOf_any (· < w1.heap.size) va vb a b 1 w1 (fun _ h => h) ha1 hb1' ha1.inK hb1'.inK hsa hsb).mono ?_
    rintro e w2 ⟨t, rfl, hT, hk2⟩
    go_wp2_with fail
    refine (items_any _ t _ w2 hT (by omega) hok).mono ?_
    rintro e w3 ⟨v3, rfl, ho3, hb3⟩
    go_wp2_with fail
    refine (checked_any _ ho3).mono ?_
    rintro e w4 ⟨v4, rfl, ho4, hb4⟩
    have h12 : Below w1.heap.size w1 w2 := hk2.below (fun _ h => h)
    have h13 : Below w1.heap.size w1 w3 := h12.trans (hb3.mono hk2.size)
    have hB : Below w.heap.size w w4 := hb1.trans ((h13.trans (hb4.mono h13.size)).mono hb1.size)
    go_wp2
    go_ret2
    exact ⟨_, rfl, ho4.base (Nat.le_trans hb1.size hk2.size), hB⟩

theorem SubtractCounts_any (va vb : Value) (a b : List Itm) (w : World) (ha : Items w va a) (hb : Items w vb b) :
    Calls Try.prog 43 #[va, vb] w (NewI2 (if (validI a && validI b) = true then chkI (sumL a b (-1)) else []) ((validI a && validI b) && validI (sumL a b (-1))) w) := by
  go_enter Try.func43, Try.ntmps43
  cases hv : (validI a && validI b)
  · have H := Lib.hid hv
    clear hv
    go_wp2_with fail
    refine (bothValid_v _ ha hb H.out).mono ?_
    rintro e w1 ⟨rfl, hb1⟩
    go_wp2
    go_ret2
    exact ⟨_, rfl, OwnI_nil _ _ _, hb1⟩
  · have H := Lib.hid hv
    clear hv
    have HV := both_yes H.out
    have hsa := valid_small (m := 1) HV.1 (by omega) (by omega)
    have hsb := valid_small (m := -1) HV.2 (by omega) (by omega)
    have hok := sumL_ok hsa hsb ha.ok hb.ok
    have hlen := sumL_length hsa hsb
    go_wp2_with fail
    refine (bothValid_v _ ha hb H.out).mono ?_
    rintro e w1 ⟨rfl, hb1⟩
    have ha1 := ha.mono hb1 (Nat.le_refl _)
    have hb1' := hb.mono hb1 (Nat.le_refl _)
    go_wp2_with fail
    refine (sumOf_any (· < w1.heap.size) va vb a b (-1) w1 (fun _ h => h) ha1 hb1' ha1.inK hb1'.inK hsa hsb).mono ?_
    rintro e w2 ⟨t, rfl, hT, hk2⟩
    go_wp2_with fail
    refine (items_any _ t _ w2 hT (by omega) hok).mono ?_
    rintro e w3 ⟨v3, rfl, ho3, hb3⟩
    go_wp2_with fail
    refine (checked_any _ ho3).mono ?_
    rintro e w4 ⟨v4, rfl, ho4, hb4⟩
    have h12 : Below w1.heap.size w1 w2 := hk2.below (fun _ h => h)
    have h13 : Below w1.heap.size w1 w3 := h12.trans (hb3.mono hk2.size)
    have hB : Below w.heap.size w w4 := hb1.trans ((h13.trans (hb4.mono h13.size)).mono hb1.size)
    go_wp2
    go_ret2
    exact ⟨_, rfl, ho4.base (Nat.le_trans hb1.size hk2.size), hB⟩

end Go.Proofs.Ytbiflkekhabpoaa
