/-
  An item dropped from a chain's first map, by the model.
-/
import Derived.Test.YtojepjpmegbdmaaChnD
import Derived.Test.YtojepjpmegbdmaaCountS
namespace Go.Proofs.Ytojepjpmegbdmaa
open Go.RowKit

theorem cd_of {ls : List (List Itm)} {s : ByteArray} {b : Bool} (h : validC ls = true) (h0 : 0 < ls.length) (hb : hasI ls[0] s = b) : cdB ls s = b := by
  unfold cdB okG
  rw [h, head_at h0, (validC_iff.1 h).1 _ (List.getElem_mem h0), hb]
  rfl

set_option maxHeartbeats 3200000 in
set_option maxRecDepth 100000 in
theorem sChainDrop_any (v : Value) (ls : List (List Itm)) (s : ByteArray) (w : World) (h : Maps w v ls) :
    Calls Try.prog 38 #[.agg #[v], .string s] w (NewM (fun v => .tuple #[.agg #[v], .int .i64 (cdN ls s), .bool (cdB ls s)]) (cdL ls s) w) := by
  have hM := Lib.hid h
  obtain ⟨ao, cap, rfl, hlc, hcm⟩ := h.slice
  clear h
  go_enter Try.func38, Try.ntmps38
  have HA : Hid (Below w.heap.size w ((w.alloc (.cells #[.slice ao ls.length cap] 29)).alloc (.cells #[.slice none 0 0] 29))) := ((Below.refl _ _).alloc (Nat.le_refl _) _).alloc (by simp) _
  have F0 := Lib.hid ((One.new w 29 (.slice ao ls.length cap)).below (B := w.heap.size + 1) ((Below.refl _ _).alloc (by simp) (.cells #[.slice none 0 0] 29)) (by omega))
  have F1' := One.new (w.alloc (.cells #[.slice ao ls.length cap] 29)) 29 (.slice none 0 0)
  simp at F1'
  have F1 := Lib.hid F1'
  clear F1'
  have c0 := F0.out.cell
  cases hv : validC ls
  all_goals
    have HV := Lib.hid hv
    clear hv
    go_wp2_with fail
    refine (svC_v _ (hM.out.mono HA.out (Nat.le_refl _)) HV.out).mono ?_
    rintro e w1 ⟨rfl, hb1⟩
    have hs1 := hb1.size
    simp at hs1 hb1
    have hw1 := Lib.hid (HA.out.trans (hb1.mono (by omega)))
    have G0 := Lib.hid (F0.out.below hb1 (by omega))
    have G1 := Lib.hid (F1.out.below hb1 (by omega))
    clear c0 hb1
  · have e0 := G1.out.cell
    have f0 := G1.out.free
    have HB : Hid (Below w.heap.size w (w1.setCell ⟨w.heap.size + 1, 0, none⟩ (.slice none 0 0))) := hw1.out.setCell (by simp) _
    have HC := Lib.hid (show cdB ls s = false by unfold cdB; rw [HV.out]; rfl)
    go_wp2
    refine bodyPost_ret (v := okN (.slice none 0 0) 0 false) (by simp [okN, results, Try.results38, go_sem, e0]) rfl ⟨_, ret_mn rfl (cd_no HC.out).2.symm HC.out.symm, ?_, HB.out⟩
    rw [(cd_no HC.out).1]
    exact OwnM.nil _ _ _
  · have hl := validC_iff.1 HV.out
    have ht := tot_mem HV.out
    have h0 : 0 < ls.length := by omega
    have hln : ls[0].length ≤ 8 := valid_len (hl.1 _ (List.getElem_mem h0))
    have hkc : (0 : Int) < (ls.length : Int) := by omega
    have c0 := G0.out.cell
    obtain ⟨b, o, cap', u, e, hb, hcb, hI⟩ := hM.out.at h0
    simp only [Value.slice.injEq] at e
    obtain ⟨rfl, _, rfl⟩ := e
    have c1 : w1.cell? ⟨b, o, none⟩ = some u := (hw1.out.cell (p := ⟨b, _, none⟩) hb).trans hcb
    have HI := Lib.hid (hI.mono hw1.out (Nat.le_refl _))
    cases hh : hasI ls[0] s
    · have HH := Lib.hid hh
      have HC := Lib.hid (cd_of HV.out h0 hh)
      have e0 := G1.out.cell
      have f0 := G1.out.free
      have HB : Hid (Below w.heap.size w (w1.setCell ⟨w.heap.size + 1, 0, none⟩ (.slice none 0 0))) := hw1.out.setCell (by simp) _
      clear hh hcb hI
      go_wp2_with fail
      refine (place_no _ HI.out HH.out).mono ?_
      rintro e w2 ⟨rfl, hw⟩
      rw [← hw]
      clear hw
      go_wp2
      refine bodyPost_ret (v := okN (.slice none 0 0) 0 false) (by simp [okN, results, Try.results38, go_sem, e0]) rfl ⟨_, ret_mn rfl (cd_no HC.out).2.symm HC.out.symm, ?_, HB.out⟩
      rw [(cd_no HC.out).1]
      exact OwnM.nil _ _ _
    · obtain ⟨k, hk, p1, p2, p3, _⟩ := placeI_del ls[0] s 0 hh
      have HH := Lib.hid hh
      have HC := Lib.hid (cd_of HV.out h0 hh)
      have P1 := Lib.hid (p1.trans (by simp) : placeI ls[0] s 0 = (k : Int))
      have P3 := Lib.hid p3
      have hCB := hcb
      have HII := Lib.hid hI
      clear hh p1 p2 p3 hcb hI
      go_wp2_with fail
      refine (place_at _ HI.out P1.out).mono ?_
      rintro e w2 ⟨rfl, hw⟩
      rw [← hw]
      clear hw
      go_wp2_with fail
      refine (scopyChain_any _ ls _ (hM.out.mono hw1.out (Nat.le_refl _)) (by omega) (by omega)).mono ?_
      rintro e w2 ⟨v2, rfl, ho2, hb2⟩
      obtain ⟨g, cap2, rfl, hg1, hg2⟩ := ho2.head h0
      have hs2 := hb2.size
      have HA2 : Hid (Below w2.heap.size w2 (w2.alloc (.cells #[.slice (some ⟨g, 0, none⟩) ls.length cap2] 29))) := (Below.refl _ _).alloc (Nat.le_refl _) _
      have HO2 := Lib.hid (ho2.keeps (Keeps.of_below HA2.out (fun j hj => hj.2)))
      have FN := Lib.hid (One.new w2 29 (.slice (some ⟨g, 0, none⟩) ls.length cap2))
      have G2 := Lib.hid ((G1.out.below hb2 G1.out.lt).below HA2.out (by have := G1.out.lt; omega))
      have G02 := Lib.hid ((G0.out.below hb2 G0.out.lt).below HA2.out (by have := G0.out.lt; omega))
      have HW2 := Lib.hid ((hw1.out.trans (hb2.mono hw1.out.size)).trans (HA2.out.mono (by have := hw1.out.size; omega)))
      obtain ⟨u2, hcb, hI⟩ := HO2.out.cell h0
      have HI2 := Lib.hid hI
      have d0 := FN.out.cell
      have hA2 : (w2.alloc (.cells #[.slice (some ⟨g, 0, none⟩) ls.length cap2] 29)).heap.size = w2.heap.size + 1 := by simp
      clear c0 hI ho2 hb2 c1
      go_wp2_with fail
      generalize w2.alloc (.cells #[.slice (some ⟨g, 0, none⟩) ls.length cap2] 29) = W at *
      go_region_law (first
          | (go_simp; go_at_call 104; refine (place_at _ (Items.drew HI2.out) P1.out).mono ?_; rintro e w5 ⟨rfl, rfl⟩)
          | (go_simp; go_at_call 105; refine (swithout_any _ ls[0] k _ (Items.drew HI2.out) hk (by omega)).mono ?_; rintro e w3 ⟨u3, rfl, ho3, hb3⟩; rw [← P3.out] at ho3; have hF3 := FN.out.below (Below.undrew hb3) (by show w2.heap.size < W.heap.size; omega); have c3 := hF3.cell; have hM3 := HO2.out.keeps (Keeps.of_below (Below.undrew hb3) (fun j hj => by have := hj.2; show j < W.heap.size; omega)); obtain ⟨g', cap', eg, _, _, ⟨x, hc5⟩, f5, hput⟩ := hM3.put (lo := w.heap.size) (hi := w3.heap.size) (RowZ.of ho3) h0 (.inr (by show w2.heap.size ≤ W.heap.size; omega)) hw1.out.size (by show w.heap.size ≤ W.heap.size; exact HW2.out.size) (by have := hb3.size; simp at this; omega) (Nat.le_refl _); simp only [Value.slice.injEq, Option.some.injEq, Addr.mk.injEq, and_true] at eg; obtain ⟨rfl, _, rfl⟩ := eg; obtain ⟨uo, uc, rfl, _, _⟩ := own_slice ho3.1; have c4 := (hF3.keeps ((Keeps.refl (fun j => j ≠ g) w3).setCell (a := ⟨g, 0, none⟩) (fun h => h rfl) (.slice uo (delI ls[0] s).length uc)) (by omega)).cell))
      all_goals
        have hw3 : W.heap.size ≤ w3.heap.size := hb3.size
        have hbS : Below W.heap.size W w3 := Below.undrew hb3
        have HO3 := Lib.hid hput
        have HW3 : Hid (Below w.heap.size w (w3.setCell ⟨g, 0, none⟩ (.slice uo (delI ls[0] s).length uc))) := (HW2.out.trans (hbS.mono HW2.out.size)).setCell (by simp; have := hw1.out.size; omega) _
        have hkS : Keeps (fun j => j ≠ g) w3 (w3.setCell ⟨g, 0, none⟩ (.slice uo (delI ls[0] s).length uc)) := (Keeps.refl _ _).one 0 _
        have G3 := Lib.hid ((G2.out.below hbS G2.out.lt).keeps hkS (by have := G1.out.lt; omega))
        have G03 := Lib.hid ((G02.out.below hbS G02.out.lt).keeps hkS (by have := G0.out.lt; omega))
        have F3 := Lib.hid (hF3.keeps hkS (by omega))
        have hsz3 : w3.heap.size = (w3.setCell ⟨g, 0, none⟩ (.slice uo (delI ls[0] s).length uc)).heap.size := by simp
        generalize w3.setCell ⟨g, 0, none⟩ (.slice uo (delI ls[0] s).length uc) = X at *
        clear hF3 c3 c4 hM3 hc5 f5 hput hbS hb3 ho3 hcb d0 hkS
        have hc5 : X.cell? ⟨b, o, none⟩ = some u := (HW3.out.cell (p := ⟨b, _, none⟩) hb).trans hCB
        have HI5 := Lib.hid (HII.out.mono HW3.out (Nat.le_refl _))
        have HI5d : Hid (Items X.drew u ls[0]) := HI5.out
        have d0 := F3.out.cell
        have g0 := G03.out.cell
        have r0 := G3.out.cell
        have r1 := G3.out.free
        have hk : ∀ x : Value, Keeps (fun j => j ≠ w.heap.size + 1) X (X.setCell ⟨w.heap.size + 1, 0, none⟩ x) := fun x => (Keeps.refl _ _).one 0 x
        have hq : ∀ x : Value, ((X.setCell ⟨w.heap.size + 1, 0, none⟩ x).drew.cell? ⟨w2.heap.size, 0, none⟩ = some (.slice (some ⟨g, 0, none⟩) ls.length cap2) ∧ (X.setCell ⟨w.heap.size + 1, 0, none⟩ x).drew.cell? ⟨w.heap.size, 0, none⟩ = some (.slice (some ⟨b, o, none⟩) ls.length cap)) ∧ (X.setCell ⟨w.heap.size + 1, 0, none⟩ x).drew.cell? ⟨b, o, none⟩ = some u := fun x =>
          ⟨⟨(F3.out.keeps (hk x) (by have := G1.out.lt; omega)).cell, (G03.out.keeps (hk x) (by omega)).cell⟩, ((hk x).cell (a := ⟨b, o, none⟩) (by show b ≠ _; omega)).trans hc5⟩
        have HX := Lib.hid (HO3.out.other G3.out (by decide) (by decide) ((Keeps.refl _ _).one 0 (.slice (some ⟨g, 0, none⟩) ls.length cap2)))
        have HBX : Hid (Below w.heap.size w (X.setCell ⟨w.heap.size + 1, 0, none⟩ (.slice (some ⟨g, 0, none⟩) ls.length cap2)).drew) := (HW3.out.setCell (by simp) _).drew
        have hzz : w3.heap.size ≤ (X.setCell ⟨w.heap.size + 1, 0, none⟩ (.slice (some ⟨g, 0, none⟩) ls.length cap2)).drew.heap.size := by
          show w3.heap.size ≤ (X.setCell ⟨w.heap.size + 1, 0, none⟩ (.slice (some ⟨g, 0, none⟩) ls.length cap2)).heap.size
          simp
          omega
        have HXX : Hid (OwnM w.heap.size (X.setCell ⟨w.heap.size + 1, 0, none⟩ (.slice (some ⟨g, 0, none⟩) ls.length cap2)).drew.heap.size (X.setCell ⟨w.heap.size + 1, 0, none⟩ (.slice (some ⟨g, 0, none⟩) ls.length cap2)).drew (.slice (some ⟨g, 0, none⟩) ls.length cap2) (ls.set 0 (delI ls[0] s))) := (HX.out.wide (Nat.le_refl _) hzz).keeps ((Keeps.refl _ _).drew)
        have HCL := Lib.hid (show cdL ls s = ls.set 0 (delI ls[0] s) by rw [(cd_yes HC.out).1, head_at h0])
        have HCN := Lib.hid (show cdN ls s = cnt ls[0] s by rw [(cd_yes HC.out).2, head_at h0])
        clear hk HX hzz
        go_wp2_with fail
        go_region_held3 (fun w' : World => (w'.cell? ⟨w2.heap.size, 0, none⟩ = some (.slice (some ⟨g, 0, none⟩) ls.length cap2) ∧ w'.cell? ⟨w.heap.size, 0, none⟩ = some (.slice (some ⟨b, o, none⟩) ls.length cap)) ∧ w'.cell? ⟨b, o, none⟩ = some u)
          (first | exact ⟨⟨d0, g0⟩, hc5⟩ | assumption | exact hq _)
          (first
            | (go_at_call 97; refine (count_any _ _ _ _ HI5d.out).mono ?_; rintro e w6 ⟨rfl, rfl⟩))
        all_goals
          have e0 := (G3.out.set (.slice (some ⟨g, 0, none⟩) ls.length cap2)).cell
          go_wp2
          refine bodyPost_ret (v := okN (.slice (some ⟨g, 0, none⟩) ls.length cap2) (cnt ls[0] s) true) (by simp [okN, results, Try.results38, go_sem, e0]) rfl ⟨_, ret_mn rfl HCN.out.symm HC.out.symm, ?_, HBX.out⟩
          rw [HCL.out]
          exact HXX.out
end Go.Proofs.Ytojepjpmegbdmaa
