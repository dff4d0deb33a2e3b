/-
  Whether a chain is valid, by the model and by the program.
-/
import Derived.Test.YtfocobgceelnoaaChnO
import Derived.Test.YtfocobgceelnoaaVCache
namespace Go.Proofs.Ytfocobgceelnoaa
open Go.RowKit

def validC (ls : List (List Itm)) : Bool := ls.all validI && rgB ls.length 1 4
theorem validC_bad {ls : List (List Itm)} {k : Nat} (h : k < ls.length) (hb : validI ls[k] = false) : false = validC ls := by
  unfold validC
  have : ls.all validI = false := by
    rw [← Bool.not_eq_true, List.all_eq_true]
    intro ha
    have := ha _ (List.getElem_mem h)
    rw [hb] at this
    cases this
  rw [this]
  rfl
theorem all_step {ls : List (List Itm)} {k : Nat} (h : k < ls.length) (H : Hid ((ls.take k).all validI = true)) (hb : Hid (validI ls[k] = true)) : Hid ((ls.take (k + 1)).all validI = true) := by
  unfold Hid
  rw [List.take_succ_eq_append_getElem h, List.all_append, H.out]
  simp [hb.out]
theorem validC_iff {ls : List (List Itm)} : validC ls = true ↔ (∀ l ∈ ls, validI l = true) ∧ 1 ≤ ls.length ∧ ls.length ≤ 4 := by
  unfold validC rgB
  rw [Bool.and_eq_true, Bool.and_eq_true, List.all_eq_true, decide_eq_true_eq, decide_eq_true_eq]
  constructor
  · rintro ⟨a, b, c⟩; exact ⟨a, by omega, by omega⟩
  · rintro ⟨a, b, c⟩; exact ⟨a, by omega, by omega⟩

set_option maxHeartbeats 800000 in
set_option maxRecDepth 100000 in
theorem svC_v {v : Value} {ls : List (List Itm)} {b : Bool} (w : World) (h : Maps w v ls) (hb : validC ls = b) :
    Calls Try.prog 54 #[.agg #[v]] w fun e w' => e = .returned (.bool b) ∧ Below w.heap.size w w' := by
  subst hb
  have hM := Lib.hid h
  obtain ⟨ao, cap, rfl, hlc, hcm⟩ := h.slice
  clear h
  go_enter Try.func54, Try.ntmps54
  have HA : Hid (Below w.heap.size w (w.alloc (.cells #[.slice ao ls.length cap] 30))) := (Below.refl _ _).alloc (Nat.le_refl _) _
  have HF := Lib.hid (One.new w 30 (.slice ao ls.length cap))
  go_wp2_with fail
  go_loopw [3] (fun i wr => ∃ k : Nat, k ≤ ls.length ∧ i = .int .i64 k ∧ Hid ((ls.take k).all validI = true) ∧ Hid (Below w.heap.size w wr) ∧ Hid (One wr w.heap.size 30 (.slice ao ls.length cap))) (fun i _ => ls.length - (intOf i).toNat)
  case atStart => exact ⟨0, Nat.zero_le _, rfl, rfl, HA.out, HF.out⟩
  case round =>
    obtain ⟨k, hk, rfl, HG, HB, HO⟩ := hrel
    have c0 := HO.out.cell
    by_cases hlt : k < ls.length
    · obtain ⟨b, o, cap', u, e, hb, h1, hI⟩ := hM.out.at hlt
      simp only [Value.slice.injEq] at e
      obtain ⟨rfl, _, rfl⟩ := e
      have c1 := (HB.out.cell (p := ⟨b, _, none⟩) hb).trans h1
      have HI := Lib.hid (hI.mono HB.out (Nat.le_refl _))
      clear h1 hI
      cases hv : validI ls[k]
      all_goals
        have HV := Lib.hid hv
        clear hv
        go_wp2_with fail
        refine (sVi_v _ HI.out HV.out).mono ?_
        rintro e w1 ⟨rfl, hb1⟩
        have HB1 := Lib.hid (HB.out.trans (hb1.mono HB.out.size))
        have HO1 := Lib.hid (HO.out.below hb1 HO.out.lt)
        clear c0 c1 hb1
      · go_wp2
        go_ret
        exact ⟨ret_bool (validC_bad hlt HV.out), HB1.out⟩
      · have HG1 := all_step hlt HG HV
        go_wp2
        go_roundw
        case rel => exact ⟨k + 1, by omega, by go_num, HG1, HB1, HO1⟩
        case measure => simp [intOf]; omega
    · obtain rfl : k = ls.length := by omega
      have hg := HG.out
      rw [List.take_length] at hg
      have HGG := Lib.hid hg
      clear hg
      cases hr : rgB ls.length 1 4
      all_goals
        have HR := Lib.hid hr
        clear hr
        go_wp2_with fail
        refine (rg_v _ HR.out).mono ?_
        rintro e w1 ⟨rfl, rfl⟩
        clear c0
        go_wp2
        go_ret
        exact ⟨ret_bool (by unfold validC; rw [HGG.out, HR.out]; rfl), HB.out⟩

set_option maxHeartbeats 800000 in
set_option maxRecDepth 100000 in
theorem vC_v {v : Value} {ls : List (List Itm)} {b : Bool} (w : World) (h : Maps w v ls) (hb : validC ls = b) :
    Calls Try.prog 41 #[.agg #[v]] w fun e w' => e = .returned (.bool b) ∧ Below w.heap.size w w' := by
  subst hb
  have hM := Lib.hid h
  obtain ⟨ao, cap, rfl, hlc, hcm⟩ := h.slice
  clear h
  go_enter Try.func41, Try.ntmps41
  have HA : Hid (Below w.heap.size w (w.alloc (.cells #[.slice ao ls.length cap] 30))) := (Below.refl _ _).alloc (Nat.le_refl _) _
  have c0 := (One.new w 30 (.slice ao ls.length cap)).cell
  by_cases h1 : ls.length < 1
  · have hz1 : ((ls.length : Nat) : Int) < 1 := by omega
    go_wp2
    go_ret
    exact ⟨ret_bool (by unfold validC rgB; rw [show decide ((1 : Int) ≤ (ls.length : Int)) = false by simp; omega]; simp), HA.out⟩
  by_cases h4 : 4 < ls.length
  · have hz1 : ¬ ((ls.length : Nat) : Int) < 1 := by omega
    have hz4 : (4 : Int) < ((ls.length : Nat) : Int) := by omega
    go_wp2
    go_ret
    exact ⟨ret_bool (by unfold validC rgB; rw [show decide ((ls.length : Int) ≤ 4) = false by simp; omega]; simp), HA.out⟩
  have hz1 : ¬ ((ls.length : Nat) : Int) < 1 := by omega
  have hz4 : ¬ (4 : Int) < ((ls.length : Nat) : Int) := by omega
  go_wp2_with fail
  go_loopw [18] (fun i wr => ∃ k : Nat, k ≤ ls.length ∧ i = .int .i64 k ∧ Hid ((ls.take k).all validI = true) ∧ Hid (Below w.heap.size w wr)) (fun i _ => ls.length - (intOf i).toNat)
  case atStart => exact ⟨0, Nat.zero_le _, rfl, rfl, HA.out⟩
  case round =>
    obtain ⟨k, hk, rfl, HG, HB⟩ := hrel
    clear c0
    by_cases hlt : k < ls.length
    · obtain ⟨b, o, cap', u, e, hb, h1, hI⟩ := hM.out.at hlt
      simp only [Value.slice.injEq] at e
      obtain ⟨rfl, _, rfl⟩ := e
      have c1 := (HB.out.cell (p := ⟨b, _, none⟩) hb).trans h1
      have HI := Lib.hid (hI.mono HB.out (Nat.le_refl _))
      clear h1 hI
      cases hv : validI ls[k]
      all_goals
        have HV := Lib.hid hv
        clear hv
        go_wp2_with fail
        refine (Vi_v _ HI.out HV.out).mono ?_
        rintro e w1 ⟨rfl, hb1⟩
        have HB1 := Lib.hid (HB.out.trans (hb1.mono HB.out.size))
        clear c1 hb1
      · go_wp2
        go_ret
        exact ⟨ret_bool (validC_bad hlt HV.out), HB1.out⟩
      · have HG1 := all_step hlt HG HV
        go_wp2
        go_roundw
        case rel => exact ⟨k + 1, by omega, by go_num, HG1, HB1⟩
        case measure => simp [intOf]; omega
    · obtain rfl : k = ls.length := by omega
      have hg := HG.out
      rw [List.take_length] at hg
      go_wp2
      go_ret
      refine ⟨ret_bool ?_, HB.out⟩
      unfold validC rgB
      rw [hg, show decide ((1 : Int) ≤ (ls.length : Int)) = true by simp; omega, show decide ((ls.length : Int) ≤ 4) = true by simp; omega]
      rfl
theorem sVC_any (v : Value) (ls : List (List Itm)) (w : World) (h : Maps w v ls) : Calls Try.prog 42 #[.agg #[v]] w (RetQ (.bool (validC ls)) w) := by
  go_enter Try.func42, Try.ntmps42
  have HA : Hid (Below w.heap.size w (w.alloc (.cells #[v] 30))) := (Below.refl _ _).alloc (Nat.le_refl _) _
  go_wp2_with fail
  refine (svC_v _ (h.mono HA.out (Nat.le_refl _)) rfl).mono ?_
  rintro e w1 ⟨rfl, hb1⟩
  go_wp2
  go_ret
  exact ⟨rfl, HA.out.trans (hb1.mono (by simp))⟩
theorem VC_any (v : Value) (ls : List (List Itm)) (w : World) (h : Maps w v ls) : Calls Try.prog 41 #[.agg #[v]] w (RetQ (.bool (validC ls)) w) := vC_v w h rfl
end Go.Proofs.Ytfocobgceelnoaa
