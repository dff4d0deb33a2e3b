/-
  The first map that has a key, how many have it: by the model and by the program.
-/
import Derived.Test.YtojepjpmegbdmaaFind
import Derived.Test.YtojepjpmegbdmaaChnP
namespace Go.Proofs.Ytojepjpmegbdmaa
open Go.RowKit

/-- The first map that has a key, counted from i. -/
def whQ : List (List Itm) → ByteArray → Nat → Int
  | [], _, _ => -1
  | l :: r, s, i => if hasI l s = true then i else whQ r s (i + 1)
theorem whQ_eq (ls : List (List Itm)) (s : ByteArray) : ∀ i : Nat, whQ ls s i = if 0 ≤ whP ls s then whP ls s + i else whP ls s := by
  induction ls with
  | nil => intro i; rfl
  | cons l r ih =>
    intro i
    rw [whP_cons]
    unfold whQ
    rw [ih]
    have := whP_lt r s
    split
    · simp
    · by_cases hw : 0 ≤ whP r s
      · rw [if_pos hw, if_pos hw, if_pos (by omega)]
        push_cast
        omega
      · rw [if_neg hw, if_neg hw, if_neg hw]
theorem whQ_zero (ls : List (List Itm)) (s : ByteArray) : whQ ls s 0 = whP ls s := by
  rw [whQ_eq]
  split <;> simp
def whC (ls : List (List Itm)) (s : ByteArray) : Int := if validC ls = true then whP ls s else -1
theorem whC_no {ls : List (List Itm)} {s : ByteArray} (h : validC ls = false) : whC ls s = -1 := by unfold whC; rw [h]; rfl
theorem whC_yes {ls : List (List Itm)} {s : ByteArray} (h : validC ls = true) : whC ls s = whP ls s := by unfold whC; rw [h]; rfl
theorem whQ_step {ls : List (List Itm)} {s : ByteArray} {k : Nat} (h : k < ls.length) (H : Hid (whP ls s = whQ (ls.drop k) s k)) (hh : hasI ls[k] s = false) : Hid (whP ls s = whQ (ls.drop (k + 1)) s (k + 1)) := by
  unfold Hid
  rw [H.out, List.drop_eq_getElem_cons h]
  show (if hasI ls[k] s = true then (k : Int) else whQ (ls.drop (k + 1)) s (k + 1)) = _
  rw [hh]
  rfl
theorem whQ_at {ls : List (List Itm)} {s : ByteArray} {k : Nat} (h : k < ls.length) (H : Hid (whP ls s = whQ (ls.drop k) s k)) (hh : hasI ls[k] s = true) : (k : Int) = whP ls s := by
  rw [H.out, List.drop_eq_getElem_cons h]
  show _ = (if hasI ls[k] s = true then (k : Int) else whQ (ls.drop (k + 1)) s (k + 1))
  rw [hh]
  rfl

set_option maxHeartbeats 1600000 in
set_option maxRecDepth 100000 in
theorem where_any {v : Value} {ls : List (List Itm)} {s : ByteArray} {r : Int} (w : World) (h : Maps w v ls) (hr : whP ls s = r) :
    Calls Try.prog 94 #[.agg #[v], .string s] w fun e w' => e = .returned (.int .i64 r) ∧ Below w.heap.size w w' := by
  subst hr
  have hM := Lib.hid h
  obtain ⟨ao, cap, rfl, hlc, hcm⟩ := h.slice
  clear h
  go_enter Try.func94, Try.ntmps94
  have HA : Hid (Below w.heap.size w (w.alloc (.cells #[.slice ao ls.length cap] 29))) := (Below.refl _ _).alloc (Nat.le_refl _) _
  have HF := Lib.hid (One.new w 29 (.slice ao ls.length cap))
  go_wp2_with fail
  go_loopw [5] (fun i wr => ∃ k : Nat, k ≤ ls.length ∧ i = .int .i64 k ∧ Hid (whP ls s = whQ (ls.drop k) s k) ∧ Hid (Below w.heap.size w wr) ∧ Hid (One wr w.heap.size 29 (.slice ao ls.length cap))) (fun i _ => ls.length - (intOf i).toNat)
  case atStart => exact ⟨0, Nat.zero_le _, rfl, (whQ_zero ls s).symm, HA.out, HF.out⟩
  case round =>
    obtain ⟨k, hk, rfl, HG, HB, HO⟩ := hrel
    have c0 := HO.out.cell
    by_cases hlt : k < ls.length
    · obtain ⟨b, o, cap', u, e, hb, h1, hI⟩ := hM.out.at hlt
      simp only [Value.slice.injEq] at e
      obtain ⟨rfl, _, rfl⟩ := e
      have c1 := (HB.out.cell (p := ⟨b, _, none⟩) hb).trans h1
      have HI := Lib.hid (hI.mono HB.out (Nat.le_refl _))
      clear h1 hI
      cases hh : hasI ls[k] s
      · have HS := whQ_step hlt HG hh
        go_wp2_with fail
        refine (place_no _ HI.out hh).mono ?_
        rintro e w1 ⟨rfl, rfl⟩
        go_wp2
        go_roundw
        case rel => exact ⟨k + 1, by omega, by go_num, HS, HB, HO⟩
        case measure => simp [intOf]; omega
      · have HS := Lib.hid (whQ_at hlt HG hh)
        obtain ⟨j, hj, hpj, -⟩ := placeI_at ls[k] s 0 hh
        simp only [Nat.add_zero] at hpj
        go_wp2_with fail
        refine (place_at _ HI.out hpj).mono ?_
        rintro e w1 ⟨rfl, rfl⟩
        go_wp2
        go_ret
        exact ⟨ret_i HS.out, HB.out⟩
    · obtain rfl : k = ls.length := by omega
      have HS : Hid ((-1 : Int) = whP ls s) := by
        have := HG.out
        rw [List.drop_length] at this
        exact this.symm
      go_wp2
      go_ret
      exact ⟨ret_i HS.out, HB.out⟩

set_option maxHeartbeats 800000 in
set_option maxRecDepth 100000 in
theorem sWhereIs_any (v : Value) (ls : List (List Itm)) (s : ByteArray) (w : World) (h : Maps w v ls) :
    Calls Try.prog 30 #[.agg #[v], .string s] w (RetQ (.int .i64 (whC ls s)) w) := by
  have hM := Lib.hid h
  obtain ⟨ao, cap, rfl, hlc, hcm⟩ := h.slice
  clear h
  go_enter Try.func30, Try.ntmps30
  have HA : Hid (Below w.heap.size w (w.alloc (.cells #[.slice ao ls.length cap] 29))) := (Below.refl _ _).alloc (Nat.le_refl _) _
  have F0 := Lib.hid (One.new w 29 (.slice ao ls.length cap))
  cases hv : validC ls
  all_goals
    have HV := Lib.hid hv
    clear hv
    go_wp2_with fail
    refine (svC_v _ (hM.out.mono HA.out (Nat.le_refl _)) HV.out).mono ?_
    rintro e w1 ⟨rfl, hb1⟩
    have hw1 := Lib.hid (HA.out.trans (hb1.mono HA.out.size))
    have c0 := (F0.out.below hb1 F0.out.lt).cell
    clear hb1
  · have HC := Lib.hid (whC_no (s := s) HV.out)
    go_wp2
    go_ret
    exact ⟨ret_i HC.out.symm, hw1.out⟩
  · have HC := Lib.hid (whC_yes (s := s) HV.out)
    go_wp2_with fail
    refine (where_any _ (hM.out.mono hw1.out (Nat.le_refl _)) rfl).mono ?_
    rintro e w2 ⟨rfl, hb2⟩
    go_wp2
    go_ret
    exact ⟨ret_i HC.out.symm, hw1.out.trans (hb2.mono hw1.out.size)⟩

set_option maxHeartbeats 800000 in
set_option maxRecDepth 100000 in
theorem WhereIs_any (v : Value) (ls : List (List Itm)) (s : ByteArray) (w : World) (h : Maps w v ls) :
    Calls Try.prog 31 #[.agg #[v], .string s] w (RetQ (.int .i64 (whC ls s)) w) := by
  have hM := Lib.hid h
  obtain ⟨ao, cap, rfl, hlc, hcm⟩ := h.slice
  clear h
  go_enter Try.func31, Try.ntmps31
  have HA : Hid (Below w.heap.size w (w.alloc (.cells #[.slice ao ls.length cap] 29))) := (Below.refl _ _).alloc (Nat.le_refl _) _
  have F0 := Lib.hid (One.new w 29 (.slice ao ls.length cap))
  cases hv : validC ls
  all_goals
    have HV := Lib.hid hv
    clear hv
    go_wp2_with fail
    refine (vC_v _ (hM.out.mono HA.out (Nat.le_refl _)) HV.out).mono ?_
    rintro e w1 ⟨rfl, hb1⟩
    have hw1 := Lib.hid (HA.out.trans (hb1.mono HA.out.size))
    have c0 := (F0.out.below hb1 F0.out.lt).cell
    clear hb1
  · have HC := Lib.hid (whC_no (s := s) HV.out)
    go_wp2
    go_ret
    exact ⟨ret_i HC.out.symm, hw1.out⟩
  · have HC := Lib.hid (whC_yes (s := s) HV.out)
    have hl := validC_iff.1 HV.out
    go_wp2_with fail
    refine (parentOf_any _ ls _ (hM.out.mono hw1.out (Nat.le_refl _)) (by omega) (by omega)).mono ?_
    rintro e w2 ⟨q, rfl, hp, hb2⟩
    have hw2 := Lib.hid (hw1.out.trans (hb2.mono hw1.out.size))
    have HP := Lib.hid hp
    clear hp hb2 c0
    go_wp2_with fail
    refine (find_par s ls q _ HP.out (by omega)).mono ?_
    rintro e w3 ⟨rfl, hb3⟩
    have hw3 := Lib.hid (hw2.out.trans (hb3.mono hw2.out.size))
    clear hb3
    go_wp2
    go_ret
    exact ⟨ret_i HC.out.symm, hw3.out.alloc hw3.out.size _⟩
end Go.Proofs.Ytojepjpmegbdmaa
