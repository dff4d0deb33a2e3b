/-
  The model's functions that are asked of the program, one by one.
-/
import Derived.Test.YtloalakpkjbeaaaSpec2
namespace Go.Proofs.Ytloalakpkjbeaaa
open Go.RowKit

theorem addAll_nil_uniq (l : List Itm) : ∀ t : List Itm, uniqI (t ++ l) = true → addAll t l 1 = t ++ l := by
  induction l with
  | nil => intro t _; simp [addAll]
  | cons x r ih =>
    intro t h
    have h1 := (hasI_of_uniq h).1
    have e : addAll t (x :: r) 1 = addAll (putI t x.1 (cnt t x.1 + x.2 * 1)) r 1 := rfl
    rw [e, cnt_none h1, Int.zero_add, Int.mul_one, putI_new h1, ih _ (by simpa using h)]
    simp
theorem sumL_valid {a : List Itm} (h : validI a = true) (b : List Itm) (m : Int) : sumL a b m = addAll a b m := by
  unfold sumL
  rw [addAll_nil_uniq a [] (by simpa using valid_uniq h)]
  rfl
theorem sumL_one {a : List Itm} (h : validI a = true) : sumL a [] 1 = a := by rw [sumL_valid h]; rfl
theorem valid_cnt {a : List Itm} (h : validI a = true) : cntLe a 1000000000 := by
  have h1 := addAll_leD a 1 9999 (fun x hx => by have := valid_num h x hx; omega) [] 0 cntLe_nil
  rw [addAll_nil_uniq a [] (by simpa using valid_uniq h)] at h1
  have h2 := valid_len h
  intro s
  have h3 := h1 s
  simp only [List.nil_append] at h3
  omega

theorem sAddCounts_any (va vb : Value) (a b : List Itm) (w : World) (ha : Items w va a) (hb : Items w vb b) :
    Calls Try.prog 32 #[va, vb] w (NewI2 (if (validI a && validI b) = true then chkI (posI (sumL a b 1)) else []) ((validI a && validI b) && validI (posI (sumL a b 1))) w) := by
  go_enter Try.func32, Try.ntmps32
  cases hv : (validI a && validI b)
  · have H := Lib.hid hv
    clear hv
    go_wp2_with fail
    refine (both_v _ ha hb H.out).mono ?_
    rintro e w1 ⟨rfl, hb1⟩
    go_wp2
    go_ret2
    exact ⟨_, rfl, OwnI_nil _ _ _, hb1⟩
  · have H := Lib.hid hv
    clear hv
    have HV := both_yes H.out
    have HS := Lib.hid (sumL_valid HV.1 b 1)
    have hlen := sumL_length (valid_small (m := 1) HV.1 (by omega) (by omega)) (valid_small (m := 1) HV.2 (by omega) (by omega))
    go_wp2_with fail
    refine (both_v _ ha hb H.out).mono ?_
    rintro e w1 ⟨rfl, hb1⟩
    go_wp2_with fail
    refine (updated_any va vb a b 1 w1 (ha.mono hb1 (Nat.le_refl _)) (hb.mono hb1 (Nat.le_refl _)) (by have := valid_len HV.1; omega) (valid_cnt HV.1) (valid_small HV.2 (by omega) (by omega))).mono ?_
    rintro e w2 ⟨v2, rfl, ho2, hb2⟩
    rw [← HS.out] at ho2
    go_wp2_with fail
    refine (spositive_any v2 _ w2 ho2.items (by omega)).mono ?_
    rintro e w3 ⟨v3, rfl, ho3, hb3⟩
    go_wp2_with fail
    refine (schecked_any _ ho3).mono ?_
    rintro e w4 ⟨v4, rfl, ho4, hb4⟩
    have h13 := hb2.trans (hb3.mono hb2.size)
    have hB : Below w.heap.size w w4 := hb1.trans ((h13.trans (hb4.mono h13.size)).mono hb1.size)
    go_wp2
    go_ret2
    exact ⟨_, rfl, ho4.base (Nat.le_trans hb1.size hb2.size), hB⟩

theorem sLessCounts_any (va vb : Value) (a b : List Itm) (w : World) (ha : Items w va a) (hb : Items w vb b) :
    Calls Try.prog 37 #[va, vb] w (NewI2 (if (validI a && validI b) = true then chkI (posI (sumL a b (-1))) else []) ((validI a && validI b) && validI (posI (sumL a b (-1)))) w) := by
  go_enter Try.func37, Try.ntmps37
  cases hv : (validI a && validI b)
  · have H := Lib.hid hv
    clear hv
    go_wp2_with fail
    refine (both_v _ ha hb H.out).mono ?_
    rintro e w1 ⟨rfl, hb1⟩
    go_wp2
    go_ret2
    exact ⟨_, rfl, OwnI_nil _ _ _, hb1⟩
  · have H := Lib.hid hv
    clear hv
    have HV := both_yes H.out
    have HS := Lib.hid (sumL_valid HV.1 b (-1))
    have hlen := sumL_length (valid_small (m := 1) HV.1 (by omega) (by omega)) (valid_small (m := -1) HV.2 (by omega) (by omega))
    go_wp2_with fail
    refine (both_v _ ha hb H.out).mono ?_
    rintro e w1 ⟨rfl, hb1⟩
    go_wp2_with fail
    refine (updated_any va vb a b (-1) w1 (ha.mono hb1 (Nat.le_refl _)) (hb.mono hb1 (Nat.le_refl _)) (by have := valid_len HV.1; omega) (valid_cnt HV.1) (valid_small HV.2 (by omega) (by omega))).mono ?_
    rintro e w2 ⟨v2, rfl, ho2, hb2⟩
    rw [← HS.out] at ho2
    go_wp2_with fail
    refine (spositive_any v2 _ w2 ho2.items (by omega)).mono ?_
    rintro e w3 ⟨v3, rfl, ho3, hb3⟩
    go_wp2_with fail
    refine (schecked_any _ ho3).mono ?_
    rintro e w4 ⟨v4, rfl, ho4, hb4⟩
    have h13 := hb2.trans (hb3.mono hb2.size)
    have hB : Below w.heap.size w w4 := hb1.trans ((h13.trans (hb4.mono h13.size)).mono hb1.size)
    go_wp2
    go_ret2
    exact ⟨_, rfl, ho4.base (Nat.le_trans hb1.size hb2.size), hB⟩

theorem sSubtractCounts_any (va vb : Value) (a b : List Itm) (w : World) (ha : Items w va a) (hb : Items w vb b) :
    Calls Try.prog 25 #[va, vb] w (NewI2 (if (validI a && validI b) = true then chkI (sumL a b (-1)) else []) ((validI a && validI b) && validI (sumL a b (-1))) w) := by
  go_enter Try.func25, Try.ntmps25
  cases hv : (validI a && validI b)
  · have H := Lib.hid hv
    clear hv
    go_wp2_with fail
    refine (both_v _ ha hb H.out).mono ?_
    rintro e w1 ⟨rfl, hb1⟩
    go_wp2
    go_ret2
    exact ⟨_, rfl, OwnI_nil _ _ _, hb1⟩
  · have H := Lib.hid hv
    clear hv
    have HV := both_yes H.out
    have HS := Lib.hid (sumL_valid HV.1 b (-1))
    go_wp2_with fail
    refine (both_v _ ha hb H.out).mono ?_
    rintro e w1 ⟨rfl, hb1⟩
    go_wp2_with fail
    refine (updated_any va vb a b (-1) w1 (ha.mono hb1 (Nat.le_refl _)) (hb.mono hb1 (Nat.le_refl _)) (by have := valid_len HV.1; omega) (valid_cnt HV.1) (valid_small HV.2 (by omega) (by omega))).mono ?_
    rintro e w2 ⟨v2, rfl, ho2, hb2⟩
    rw [← HS.out] at ho2
    go_wp2_with fail
    refine (schecked_any _ ho2).mono ?_
    rintro e w4 ⟨v4, rfl, ho4, hb4⟩
    have hB : Below w.heap.size w w4 := hb1.trans ((hb2.trans (hb4.mono hb2.size)).mono hb1.size)
    go_wp2
    go_ret2
    exact ⟨_, rfl, ho4.base hb1.size, hB⟩

theorem sKeepCounts_any (va : Value) (a : List Itm) (w : World) (ha : Items w va a) :
    Calls Try.prog 46 #[va] w (NewI (if validI a = true then posI (sumL a [] 1) else []) w) := by
  go_enter Try.func46, Try.ntmps46
  cases hv : validI a
  · have H := Lib.hid hv
    clear hv
    go_wp2_with fail
    refine (sVi_v _ ha H.out).mono ?_
    rintro e w1 ⟨rfl, hb1⟩
    go_wp2
    go_ret
    exact ⟨_, rfl, OwnI_nil _ _ _, hb1⟩
  · have H := Lib.hid hv
    clear hv
    have HS := Lib.hid (sumL_one H.out)
    go_wp2_with fail
    refine (sVi_v _ ha H.out).mono ?_
    rintro e w1 ⟨rfl, hb1⟩
    go_wp2_with fail
    refine (spositive_any va a w1 (ha.mono hb1 (Nat.le_refl _)) (by have := valid_len H.out; omega)).mono ?_
    rintro e w2 ⟨v2, rfl, ho2, hb2⟩
    rw [← HS.out] at ho2
    go_wp2
    go_ret
    exact ⟨_, rfl, ho2.base hb1.size, hb1.trans (hb2.mono hb1.size)⟩

theorem sTurnCounts_any (va : Value) (a : List Itm) (w : World) (ha : Items w va a) :
    Calls Try.prog 49 #[va] w (NewI (if validI a = true then posI (sumL [] a (-1)) else []) w) := by
  go_enter Try.func49, Try.ntmps49
  cases hv : validI a
  · have H := Lib.hid hv
    clear hv
    go_wp2_with fail
    refine (sVi_v _ ha H.out).mono ?_
    rintro e w1 ⟨rfl, hb1⟩
    go_wp2
    go_ret
    exact ⟨_, rfl, OwnI_nil _ _ _, hb1⟩
  · have H := Lib.hid hv
    clear hv
    have hsb := valid_small (m := -1) H.out (by omega) (by omega)
    have hlen := sumL_length (small_nil 1) hsb
    go_wp2_with fail
    refine (sVi_v _ ha H.out).mono ?_
    rintro e w1 ⟨rfl, hb1⟩
    have hlit : OwnI 39 (w1.alloc (.cells #[] 39)) w1.heap.size (.slice (some ⟨w1.heap.size, 0, none⟩) 0 0) [] :=
      ⟨World.ownsRow_lit (base := w1.heap.size) (e := 39) (size := 2) w1 #[] 0 (Nat.le_refl _) (by unfold maxLen; omega) rfl, fun x hx => by simp at hx⟩
    have hbl : Below w1.heap.size w1 (w1.alloc (.cells #[] 39)) := (Below.refl _ _).alloc (Nat.le_refl _) _
    go_wp2_with fail
    refine (updated_any _ va [] a (-1) _ hlit.items ((ha.mono hb1 (Nat.le_refl _)).mono hbl (Nat.le_refl _)) (by simp) (fun s => by simp [cnt]) hsb).mono ?_
    rintro e w2 ⟨v2, rfl, ho2, hb2⟩
    have ho2' : OwnI 39 w2 _ v2 (sumL [] a (-1)) := ho2
    go_wp2_with fail
    refine (spositive_any v2 _ w2 ho2'.items (by omega)).mono ?_
    rintro e w3 ⟨v3, rfl, ho3, hb3⟩
    have h12 := hbl.trans (hb2.mono hbl.size)
    have h13 := h12.trans (hb3.mono h12.size)
    go_wp2
    go_ret
    exact ⟨_, rfl, ho3.base (Nat.le_trans hb1.size h12.size), hb1.trans (h13.mono hb1.size)⟩

theorem sCountOf_any (va : Value) (a : List Itm) (s : ByteArray) (w : World) (ha : Items w va a) :
    Calls Try.prog 21 #[va, .string s] w fun e w' => e = .returned (.int .i64 (if validI a = true then cnt (sumL a [] 1) s else 0)) ∧ Below w.heap.size w w' := by
  go_enter Try.func21, Try.ntmps21
  cases hv : validI a
  · have H := Lib.hid hv
    clear hv
    go_wp2_with fail
    refine (sVi_v _ ha H.out).mono ?_
    rintro e w1 ⟨rfl, hb1⟩
    go_wp2
    go_ret
    exact ⟨rfl, hb1⟩
  · have H := Lib.hid hv
    clear hv
    rw [sumL_one H.out]
    go_wp2_with fail
    refine (sVi_v _ ha H.out).mono ?_
    rintro e w1 ⟨rfl, hb1⟩
    go_wp2_with fail
    refine (count_any va a s w1 (ha.mono hb1 (Nat.le_refl _))).mono ?_
    rintro e w2 ⟨rfl, rfl⟩
    go_wp2
    go_ret
    exact ⟨rfl, hb1⟩

end Go.Proofs.Ytloalakpkjbeaaa
