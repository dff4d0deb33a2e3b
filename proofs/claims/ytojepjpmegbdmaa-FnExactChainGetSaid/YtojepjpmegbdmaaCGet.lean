/-
  The number of the first map that has a key, by the model.
-/
import Derived.Test.YtojepjpmegbdmaaHowO
namespace Go.Proofs.Ytojepjpmegbdmaa
open Go.RowKit

set_option maxHeartbeats 1600000 in
set_option maxRecDepth 100000 in
theorem sChainGet_any (v : Value) (ls : List (List Itm)) (s : ByteArray) (w : World) (h : Maps w v ls) :
    Calls Try.prog 32 #[.agg #[v], .string s] w (RetQ (.tuple #[.int .i64 (cgN ls s), .bool (cgB ls s)]) w) := by
  have hM := Lib.hid h
  obtain ⟨ao, cap, rfl, hlc, hcm⟩ := h.slice
  clear h
  go_enter Try.func32, Try.ntmps32
  have HA : Hid (Below w.heap.size w (w.alloc (.cells #[.slice ao ls.length cap] 29))) := (Below.refl _ _).alloc (Nat.le_refl _) _
  have F0 := Lib.hid (One.new w 29 (.slice ao ls.length cap))
  cases hv : validC ls
  all_goals
    have HV := Lib.hid hv
    clear hv
    go_wp2_with fail
    refine (svC_v _ (hM.out.mono HA.out (Nat.le_refl _)) HV.out).mono ?_
    rintro e w1 ⟨rfl, hb1⟩
    have hw1 := Lib.hid (HA.out.trans (hb1.mono HA.out.size))
    have G0 := Lib.hid (F0.out.below hb1 F0.out.lt)
    have c0 := G0.out.cell
    clear hb1
  · have HC := Lib.hid (cg_no (s := s) (.inl HV.out))
    go_wp2
    go_ret2
    exact ⟨ret_ib HC.out.1.symm HC.out.2.symm, hw1.out⟩
  · rcases wh_cases ls s with hn | ⟨k, hk, hk1, hk2, hk3⟩
    · have HN := Lib.hid hn.1
      have HC := Lib.hid (cg_no (s := s) (.inr hn))
      clear hn
      go_wp2_with fail
      refine (where_any _ (hM.out.mono hw1.out (Nat.le_refl _)) HN.out).mono ?_
      rintro e w2 ⟨rfl, hb2⟩
      have hw2 := Lib.hid (hw1.out.trans (hb2.mono hw1.out.size))
      clear hb2
      go_wp2
      go_ret2
      exact ⟨ret_ib HC.out.1.symm HC.out.2.symm, hw2.out⟩
    · have HN := Lib.hid hk1
      have HC : Hid (cgN ls s = cnt ls[k] s ∧ cgB ls s = true) := by
        have := cg_yes (s := s) HV.out
        refine ⟨by rw [this.1, hk2], by rw [this.2, hk1]; simp⟩
      clear hk1 hk2 hk3
      obtain ⟨b, o, cap', u, e, hb, h1, hI⟩ := hM.out.at hk
      simp only [Value.slice.injEq] at e
      obtain ⟨rfl, _, rfl⟩ := e
      have H1 := Lib.hid h1
      have HI := Lib.hid hI
      clear h1 hI
      go_wp2_with fail
      refine (where_any _ (hM.out.mono hw1.out (Nat.le_refl _)) HN.out).mono ?_
      rintro e w2 ⟨rfl, hb2⟩
      have hw2 := Lib.hid (hw1.out.trans (hb2.mono hw1.out.size))
      have G2 := Lib.hid (G0.out.below hb2 G0.out.lt)
      have HIr := Lib.hid (HI.out.mono hw2.out (Nat.le_refl _))
      have HMd := Lib.hid (show Maps w2.drew _ ls from hM.out.mono hw2.out.drew (Nat.le_refl _))
      have c2 := (hw2.out.cell (p := ⟨b, o + k, none⟩) hb).trans H1.out
      have d2 := G2.out.cell
      clear hb2 c0
      go_wp2_with fail
      have HL := Lib.hid G2.out.lt
      have hlw : Hid (b < w2.heap.size) := Nat.lt_of_lt_of_le hb hw2.out.size
      go_region_held3 (fun w' : World => w'.cell? ⟨w.heap.size, 0, none⟩ = some (.slice (some ⟨b, o, none⟩) ls.length cap) ∧ w'.cell? ⟨b, o + k, none⟩ = some u)
        (first | exact ⟨d2, c2⟩ | assumption | exact hS1)
        (first
          | (go_at_call 94; refine (where_any _ HMd.out HN.out).mono ?_; rintro e w3 ⟨rfl, hb3⟩; have hS1 : w3.cell? ⟨w.heap.size, 0, none⟩ = some (.slice (some ⟨b, o, none⟩) ls.length cap) ∧ w3.cell? ⟨b, o + k, none⟩ = some u := ⟨(Below.cell (Below.undrew hb3) (p := ⟨w.heap.size, 0, none⟩) HL.out).trans d2, (Below.cell (Below.undrew hb3) (p := ⟨b, o + k, none⟩) hlw.out).trans c2⟩; have HI3 := Lib.hid (Items.mono HIr.out (Below.undrew hb3) (Nat.le_refl _)))
          | (go_at_call 97; refine (count_any _ _ s _ HI3.out).mono ?_; rintro e w4 ⟨rfl, rfl⟩))
      all_goals
        have HB3 := Lib.hid (hw2.out.trans ((Below.undrew hb3).mono hw2.out.size))
        go_wp2
        go_ret2
        exact ⟨ret_ib HC.out.1.symm HC.out.2.symm, HB3.out⟩
end Go.Proofs.Ytojepjpmegbdmaa
