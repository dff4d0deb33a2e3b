/-
  Whether a cache is valid, by the model and by the program.
-/
import Derived.Test.YtojepjpmegbdmaaBox
import Derived.Test.YtojepjpmegbdmaaKeep
namespace Go.Proofs.Ytojepjpmegbdmaa
open Go.RowKit

def rgB (n lo hi : Int) : Bool := decide (lo ≤ n) && decide (n ≤ hi)
def vcB (xs : List Itm) (m g s : Int) : Bool := validI xs && rgB m 1 8 && decide ((xs.length : Int) ≤ m) && rgB g 0 9999 && rgB s 0 9999
def cacheV (v : Value) (m g s : Int) : Value := .agg #[v, .int .i64 m, .int .i64 g, .int .i64 s]

theorem isMost_v {n : Int} {b : Bool} (w : World) (h : rgB n 1 8 = b) :
    Calls Try.prog 159 #[.int .i64 n] w fun e w' => e = .returned (.bool b) ∧ w = w' := by
  subst h
  go_enter Try.func159, Try.ntmps159
  go_wp2
  all_goals go_ret
  all_goals refine ⟨ret_bool ?_, rfl⟩
  all_goals simp [rgB, *]
  all_goals omega
theorem isCount_v {n : Int} {b : Bool} (w : World) (h : rgB n 0 9999 = b) :
    Calls Try.prog 160 #[.int .i64 n] w fun e w' => e = .returned (.bool b) ∧ w = w' := by
  subst h
  go_enter Try.func160, Try.ntmps160
  go_wp2
  all_goals go_ret
  all_goals refine ⟨ret_bool ?_, rfl⟩
  all_goals simp [rgB, *]
  all_goals omega
theorem rg_v {n lo hi : Int} {b : Bool} (w : World) (h : rgB n lo hi = b) : Calls Try.prog 120 #[.int .i64 n, .int .i64 lo, .int .i64 hi] w fun e w' => e = .returned (.bool b) ∧ w = w' :=
  (inRange_v w h).mono fun _ _ ⟨he, hw⟩ => ⟨he, hw.symm⟩
theorem vc_a {xs : List Itm} {m g s : Int} (H : Hid (validI xs = false)) : false = vcB xs m g s := by unfold vcB; rw [H.out]; rfl
theorem vc_b {xs : List Itm} {m g s : Int} (H : Hid (rgB m 1 8 = false)) : false = vcB xs m g s := by unfold vcB; rw [H.out]; simp
theorem vc_c {xs : List Itm} {m g s : Int} (H : ¬ ((xs.length : Int) ≤ m)) : false = vcB xs m g s := by unfold vcB; rw [decide_eq_false H]; simp
theorem vc_d {xs : List Itm} {m g s : Int} (H : Hid (rgB g 0 9999 = false)) : false = vcB xs m g s := by unfold vcB; rw [H.out]; simp
theorem vc_e {xs : List Itm} {m g s : Int} {b : Bool} (h1 : Hid (validI xs = true)) (h2 : Hid (rgB m 1 8 = true)) (h3 : (xs.length : Int) ≤ m) (h4 : Hid (rgB g 0 9999 = true)) (h5 : Hid (rgB s 0 9999 = b)) : b = vcB xs m g s := by
  unfold vcB
  rw [h1.out, h2.out, h4.out, h5.out, decide_eq_true h3]
  cases b <;> rfl

set_option maxHeartbeats 1600000 in
set_option maxRecDepth 100000 in
theorem svc_v {v : Value} {xs : List Itm} {m g s : Int} {b : Bool} (w : World) (h : Items w v xs) (hb : vcB xs m g s = b) :
    Calls Try.prog 124 #[.agg #[v, .int .i64 m, .int .i64 g, .int .i64 s]] w fun e w' => e = .returned (.bool b) ∧ Below w.heap.size w w' := by
  subst hb
  have hok := Lib.hid h
  obtain ⟨ao, cap, rfl, hlc, hcm, _, _⟩ := h
  go_enter Try.func124, Try.ntmps124
  have HA : Hid (Below w.heap.size w (w.alloc (.cells #[.slice ao xs.length cap, .int .i64 m, .int .i64 g, .int .i64 s] 67))) := (Below.refl _ _).alloc (Nat.le_refl _) _
  have HF := Lib.hid (Four.new w 67 (.slice ao xs.length cap) (.int .i64 m) (.int .i64 g) (.int .i64 s))
  cases hv : validI xs
  all_goals
    have HV := Lib.hid hv
    clear hv
    go_wp2_with fail
    refine (sVi_v _ (hok.out.mono HA.out (Nat.le_refl _)) HV.out).mono ?_
    rintro e w1 ⟨rfl, hb1⟩
    obtain ⟨c0, c1, c2, c3⟩ := (HF.out.below hb1 HF.out.lt).cells
    have HB : Hid (Below w.heap.size w w1) := HA.out.trans (hb1.mono (by simp))
    clear hb1
  · go_wp2
    go_ret
    exact ⟨ret_bool (vc_a HV), HB.out⟩
  · cases hm : rgB m 1 8
    all_goals
      have HM := Lib.hid hm
      clear hm
      go_wp2_with fail
      refine (rg_v _ HM.out).mono ?_
      rintro e w2 ⟨rfl, rfl⟩
    · go_wp2
      go_ret
      exact ⟨ret_bool (vc_b HM), HB.out⟩
    · by_cases hl : (xs.length : Int) ≤ m
      · cases hg : rgB g 0 9999
        all_goals
          have HG := Lib.hid hg
          clear hg
          go_wp2_with fail
          refine (rg_v _ HG.out).mono ?_
          rintro e w2 ⟨rfl, rfl⟩
        · go_wp2
          go_ret
          exact ⟨ret_bool (vc_d HG), HB.out⟩
        · cases hs : rgB s 0 9999
          all_goals
            have HS := Lib.hid hs
            clear hs
            go_wp2_with fail
            refine (rg_v _ HS.out).mono ?_
            rintro e w2 ⟨rfl, rfl⟩
            go_wp2
            go_ret
            exact ⟨ret_bool (vc_e HV HM hl HG HS), HB.out⟩
      · go_wp2
        go_ret
        exact ⟨ret_bool (vc_c (by omega)), HB.out⟩

set_option maxHeartbeats 1600000 in
set_option maxRecDepth 100000 in
theorem VC_v {v : Value} {xs : List Itm} {m g s : Int} {b : Bool} (w : World) (h : Items w v xs) (hb : vcB xs m g s = b) :
    Calls Try.prog 126 #[.agg #[v, .int .i64 m, .int .i64 g, .int .i64 s]] w fun e w' => e = .returned (.bool b) ∧ Below w.heap.size w w' := by
  subst hb
  have hok := Lib.hid h
  obtain ⟨ao, cap, rfl, hlc, hcm, _, _⟩ := h
  go_enter Try.func126, Try.ntmps126
  have HA : Hid (Below w.heap.size w (w.alloc (.cells #[.slice ao xs.length cap, .int .i64 m, .int .i64 g, .int .i64 s] 67))) := (Below.refl _ _).alloc (Nat.le_refl _) _
  have HF := Lib.hid (Four.new w 67 (.slice ao xs.length cap) (.int .i64 m) (.int .i64 g) (.int .i64 s))
  cases hv : validI xs
  all_goals
    have HV := Lib.hid hv
    clear hv
    go_wp2_with fail
    refine (Vi_v _ (hok.out.mono HA.out (Nat.le_refl _)) HV.out).mono ?_
    rintro e w1 ⟨rfl, hb1⟩
    obtain ⟨c0, c1, c2, c3⟩ := (HF.out.below hb1 HF.out.lt).cells
    have HB : Hid (Below w.heap.size w w1) := HA.out.trans (hb1.mono (by simp))
    clear hb1
  · go_wp2
    go_ret
    exact ⟨ret_bool (vc_a HV), HB.out⟩
  · cases hm : rgB m 1 8
    all_goals
      have HM := Lib.hid hm
      clear hm
      go_wp2_with fail
      refine (isMost_v _ HM.out).mono ?_
      rintro e w2 ⟨rfl, rfl⟩
    · go_wp2
      go_ret
      exact ⟨ret_bool (vc_b HM), HB.out⟩
    · by_cases hl : (xs.length : Int) ≤ m
      · cases hg : rgB g 0 9999
        all_goals
          have HG := Lib.hid hg
          clear hg
          go_wp2_with fail
          refine (isCount_v _ HG.out).mono ?_
          rintro e w2 ⟨rfl, rfl⟩
        · go_wp2
          go_ret
          exact ⟨ret_bool (vc_d HG), HB.out⟩
        · cases hs : rgB s 0 9999
          all_goals
            have HS := Lib.hid hs
            clear hs
            go_wp2_with fail
            refine (isCount_v _ HS.out).mono ?_
            rintro e w2 ⟨rfl, rfl⟩
            go_wp2
            go_ret
            exact ⟨ret_bool (vc_e HV HM hl HG HS), HB.out⟩
      · go_wp2
        go_ret
        exact ⟨ret_bool (vc_c (by omega)), HB.out⟩

end Go.Proofs.Ytojepjpmegbdmaa
