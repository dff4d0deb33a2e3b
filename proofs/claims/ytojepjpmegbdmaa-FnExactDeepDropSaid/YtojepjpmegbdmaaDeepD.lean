/-
  An item dropped from the map of a chain where it is, by the model.
-/
import Derived.Test.YtojepjpmegbdmaaDeep
namespace Go.Proofs.Ytojepjpmegbdmaa
open Go.RowKit

set_option maxHeartbeats 3200000 in
set_option maxRecDepth 100000 in
theorem sDeepDrop_any (v : Value) (ls : List (List Itm)) (s : ByteArray) (w : World) (h : Maps w v ls) :
    Calls Try.prog 42 #[.agg #[v], .string s] w (NewM (fun v => .tuple #[.agg #[v], .bool (ddB ls s)]) (ddL ls s) w) := by
  have hM := Lib.hid h
  obtain ⟨ao, cap, rfl, hlc, hcm⟩ := h.slice
  clear h
  go_enter Try.func42, Try.ntmps42
  have HA : Hid (Below w.heap.size w ((w.alloc (.cells #[.slice ao ls.length cap] 29)).alloc (.cells #[.slice none 0 0] 29))) := ((Below.refl _ _).alloc (Nat.le_refl _) _).alloc (by simp) _
  have F0 := Lib.hid ((One.new w 29 (.slice ao ls.length cap)).below (B := w.heap.size + 1) ((Below.refl _ _).alloc (by simp) (.cells #[.slice none 0 0] 29)) (by omega))
  have F1' := One.new (w.alloc (.cells #[.slice ao ls.length cap] 29)) 29 (.slice none 0 0)
  simp at F1'
  have F1 := Lib.hid F1'
  clear F1'
  have c0 := F0.out.cell
  obtain ⟨r, HR⟩ : ∃ r, Hid (whP ls s = r) := ⟨_, rfl⟩
  cases hv : validC ls
  all_goals
    have HV := Lib.hid hv
    clear hv
    go_wp2_with fail
    refine (where_any _ (hM.out.mono HA.out (Nat.le_refl _)) HR.out).mono ?_
    rintro e w0 ⟨rfl, hb0⟩
    have hs0 := hb0.size
    simp at hs0 hb0
    have hw0 := Lib.hid (HA.out.trans (hb0.mono (by omega)))
    have E0 := Lib.hid (F0.out.below hb0 (by omega))
    have E1 := Lib.hid (F1.out.below hb0 (by omega))
    clear c0 hb0
    have c0 := E0.out.cell
    go_wp2_with fail
    refine (svC_v _ (hM.out.mono hw0.out (Nat.le_refl _)) HV.out).mono ?_
    rintro e w1 ⟨rfl, hb1⟩
    have hw1 := Lib.hid (hw0.out.trans (hb1.mono hw0.out.size))
    have G0 := Lib.hid (E0.out.below hb1 E0.out.lt)
    have G1 := Lib.hid (E1.out.below hb1 E1.out.lt)
    have hs1 := hb1.size
    clear c0 hb1
  · have e0 := G1.out.cell
    have f0 := G1.out.free
    have HB : Hid (Below w.heap.size w (w1.setCell ⟨w.heap.size + 1, 0, none⟩ (.slice none 0 0))) := hw1.out.setCell (by simp) _
    have HD := Lib.hid (dd_no (s := s) (.inl HV.out))
    go_wp2
    refine bodyPost_ret (v := okV (.slice none 0 0) false) (by simp [okV, results, Try.results42, go_sem, e0]) rfl ⟨_, ret_m rfl HD.out.1.symm, ?_, HB.out⟩
    rw [HD.out.2]
    exact OwnM.nil _ _ _
  · rcases wh_cases ls s with hn | ⟨k, hk, hk1, _, hk3⟩
    · have HD := Lib.hid (dd_no (ls := ls) (s := s) (.inr hn.1))
      obtain rfl : r = -1 := HR.out.symm.trans hn.1
      have e0 := G1.out.cell
      have f0 := G1.out.free
      have HB : Hid (Below w.heap.size w (w1.setCell ⟨w.heap.size + 1, 0, none⟩ (.slice none 0 0))) := hw1.out.setCell (by simp) _
      clear hn
      go_wp2
      refine bodyPost_ret (v := okV (.slice none 0 0) false) (by simp [okV, results, Try.results42, go_sem, e0]) rfl ⟨_, ret_m rfl HD.out.1.symm, ?_, HB.out⟩
      rw [HD.out.2]
      exact OwnM.nil _ _ _
    · have HD := Lib.hid (dd_yes HV.out hk hk1 hk3)
      obtain rfl : r = (k : Int) := HR.out.symm.trans hk1
      have hl := validC_iff.1 HV.out
      have ht := tot_mem HV.out
      have hln : ls[k].length ≤ 8 := valid_len (hl.1 _ (List.getElem_mem hk))
      obtain ⟨j, hj, p1, p2, p3, _⟩ := placeI_del ls[k] s 0 hk3
      have P1 := Lib.hid (p1.trans (by simp) : placeI ls[k] s 0 = (j : Int))
      have P3 := Lib.hid p3
      have hkn : ¬ ((k : Int) < 0) := by omega
      have hkc : (k : Int) < (ls.length : Int) := by omega
      have hk1' : k ≤ 4 := by omega
      have c0 := G0.out.cell
      clear hk1 hk3 p1 p2 p3
      go_wp2_with fail
      refine (scopyChain_any _ ls _ (hM.out.mono hw1.out (Nat.le_refl _)) (by omega) (by omega)).mono ?_
      rintro e w2 ⟨v2, rfl, ho2, hb2⟩
      obtain ⟨g, cap2, rfl, hg1, hg2⟩ := ho2.head (Nat.lt_of_le_of_lt (Nat.zero_le _) hk)
      have hs2 := hb2.size
      have HA2 : Hid (Below w2.heap.size w2 (w2.alloc (.cells #[.slice (some ⟨g, 0, none⟩) ls.length cap2] 29))) := (Below.refl _ _).alloc (Nat.le_refl _) _
      have HO2 := Lib.hid (ho2.keeps (Keeps.of_below HA2.out (fun j hj => hj.2)))
      have FN := Lib.hid (One.new w2 29 (.slice (some ⟨g, 0, none⟩) ls.length cap2))
      have G2 := Lib.hid ((G1.out.below hb2 G1.out.lt).below HA2.out (by have := G1.out.lt; omega))
      have HW2 := Lib.hid ((hw1.out.trans (hb2.mono hw1.out.size)).trans (HA2.out.mono (by have := hw1.out.size; omega)))
      obtain ⟨u2, hcb, hI⟩ := HO2.out.cell hk
      have HI2 := Lib.hid hI
      have d0 := FN.out.cell
      have hA2 : (w2.alloc (.cells #[.slice (some ⟨g, 0, none⟩) ls.length cap2] 29)).heap.size = w2.heap.size + 1 := by simp
      have hgne : Hid (w.heap.size + 1 ≠ g) := by have := hw1.out.size; have := G1.out.lt; unfold Hid; omega
      clear c0 hI ho2 hb2
      go_wp2_with fail
      generalize w2.alloc (.cells #[.slice (some ⟨g, 0, none⟩) ls.length cap2] 29) = W at *
      go_region_law (first
          | (go_simp; go_at_call 104; refine (place_at _ (Items.drew HI2.out) P1.out).mono ?_; rintro e w5 ⟨rfl, rfl⟩)
          | (go_simp; go_at_call 105; refine (swithout_any _ ls[k] j _ (Items.drew HI2.out) hj (by omega)).mono ?_; rintro e w3 ⟨u3, rfl, ho3, hb3⟩; rw [← P3.out] at ho3; have hF3 := FN.out.below (Below.undrew hb3) (by show w2.heap.size < W.heap.size; omega); have c3 := hF3.cell; have hM3 := HO2.out.keeps (Keeps.of_below (Below.undrew hb3) (fun j hj => by have := hj.2; show j < W.heap.size; omega)); obtain ⟨g', cap', eg, _, _, ⟨x, hc5⟩, f5, hput⟩ := hM3.put (lo := w.heap.size) (hi := w3.heap.size) (RowZ.of ho3) hk (.inr (by show w2.heap.size ≤ W.heap.size; omega)) hw1.out.size (by show w.heap.size ≤ W.heap.size; exact HW2.out.size) (by have := hb3.size; simp at this; omega) (Nat.le_refl _); simp only [Value.slice.injEq, Option.some.injEq, Addr.mk.injEq, and_true] at eg; obtain ⟨rfl, _, rfl⟩ := eg; obtain ⟨uo, uc, rfl, _, _⟩ := own_slice ho3.1; have c4 := (hF3.keeps ((Keeps.refl (fun j => j ≠ g) w3).setCell (a := ⟨g, k, none⟩) (fun h => h rfl) (.slice uo (delI ls[k] s).length uc)) (by omega)).cell))
      all_goals
        have hw3 : W.heap.size ≤ w3.heap.size := hb3.size
        have hbS : Below W.heap.size W w3 := Below.undrew hb3
        have HO3 := Lib.hid hput
        have HW3 : Hid (Below w.heap.size w (w3.setCell ⟨g, k, none⟩ (.slice uo (delI ls[k] s).length uc))) := (HW2.out.trans (hbS.mono HW2.out.size)).setCell (by simp; have := hw1.out.size; omega) _
        have hkS : Keeps (fun j => j ≠ g) w3 (w3.setCell ⟨g, k, none⟩ (.slice uo (delI ls[k] s).length uc)) := (Keeps.refl _ _).one k _
        have G3 := Lib.hid ((G2.out.below hbS G2.out.lt).keeps hkS hgne.out)
        have F3 := Lib.hid (hF3.keeps hkS (by omega))
        have hsz3 : w3.heap.size = (w3.setCell ⟨g, k, none⟩ (.slice uo (delI ls[k] s).length uc)).heap.size := by simp
        generalize w3.setCell ⟨g, k, none⟩ (.slice uo (delI ls[k] s).length uc) = X at *
        clear hF3 c3 c4 hM3 hc5 f5 hput hbS hb3 ho3 hcb d0 hkS
        have d0 := F3.out.cell
        have r0 := G3.out.cell
        have r1 := G3.out.free
        have HX := (HO3.out.other G3.out (by decide) (by decide) ((Keeps.refl _ _).one 0 (.slice (some ⟨g, 0, none⟩) ls.length cap2)))
        have HBX : Hid (Below w.heap.size w (X.setCell ⟨w.heap.size + 1, 0, none⟩ (.slice (some ⟨g, 0, none⟩) ls.length cap2))) := HW3.out.setCell (by simp) _
        have hzz : w3.heap.size ≤ (X.setCell ⟨w.heap.size + 1, 0, none⟩ (.slice (some ⟨g, 0, none⟩) ls.length cap2)).heap.size := by simp; omega
        have HXX := Lib.hid (HX.wide (Nat.le_refl _) hzz)
        clear HX hzz
        go_wp2
        refine bodyPost_ret (v := okV (.slice (some ⟨g, 0, none⟩) ls.length cap2) true) (by simp [okV, results, Try.results42, go_sem, r0]) rfl ⟨_, ret_m rfl HD.out.1.symm, ?_, HBX.out⟩
        rw [HD.out.2.1]
        exact HXX.out
end Go.Proofs.Ytojepjpmegbdmaa
