/-
  An item put into the map of a chain where it is: by the model and by the program.
-/
import Derived.Test.YtojepjpmegbdmaaDeep
namespace Go.Proofs.Ytojepjpmegbdmaa
open Go.RowKit

set_option maxHeartbeats 1600000 in
set_option maxRecDepth 100000 in
theorem sDeepPut_any (v : Value) (ls : List (List Itm)) (s : ByteArray) (n : Int) (w : World) (h : Maps w v ls) (hs : s.size ≤ 9223372036854775807) (hi : -9223372036854775808 ≤ n ∧ n ≤ 9223372036854775807) :
    Calls Try.prog 40 #[.agg #[v], .string s, .int .i64 n] w (NewM (fun v => .tuple #[.agg #[v], .bool (dpB ls s n)]) (dpL ls s n) w) := by
  have hM := Lib.hid h
  clear h
  go_enter Try.func40, Try.ntmps40
  have HA : Hid (Below w.heap.size w ((w.alloc (.cells #[v] 29)).alloc (.cells #[.slice none 0 0] 29))) := ((Below.refl _ _).alloc (Nat.le_refl _) _).alloc (by simp) _
  have F0 := Lib.hid ((One.new w 29 v).below (B := w.heap.size + 1) ((Below.refl _ _).alloc (by simp) (.cells #[.slice none 0 0] 29)) (by omega))
  have F1' := One.new (w.alloc (.cells #[v] 29)) 29 (.slice none 0 0)
  simp at F1'
  have F1 := Lib.hid F1'
  clear F1'
  have c0 := F0.out.cell
  cases hv : validC ls
  all_goals
    have HV := Lib.hid hv
    clear hv
    go_wp2_with fail
    refine (svC_v _ (hM.out.mono HA.out (Nat.le_refl _)) HV.out).mono ?_
    rintro e w1 ⟨rfl, hb1⟩
    have hs1 := hb1.size
    simp at hs1 hb1
    have hw1 := Lib.hid (HA.out.trans (hb1.mono (by omega)))
    have G0 := Lib.hid (F0.out.below hb1 (by omega))
    have G1 := Lib.hid (F1.out.below hb1 (by omega))
    clear c0 hb1
  · have e0 := G1.out.cell
    have f0 := G1.out.free
    have HB : Hid (Below w.heap.size w (w1.setCell ⟨w.heap.size + 1, 0, none⟩ (.slice none 0 0))) := hw1.out.setCell (by simp) _
    go_wp2
    refine bodyPost_ret (v := okV (.slice none 0 0) false) (by simp [okV, results, Try.results40, go_sem, e0]) rfl ⟨_, ret_m rfl (dp_no HV.out).1.symm, ?_, HB.out⟩
    rw [(dp_no HV.out).2]
    exact OwnM.nil _ _ _
  · have hl := validC_iff.1 HV.out
    have ht := tot_mem HV.out
    have hp0 : 0 < ls.length := by omega
    obtain ⟨k, hk, hdk, hkw⟩ := dp_k (s := s) hp0
    have HDK := Lib.hid hdk
    have hln : ls[k].length ≤ 8 := valid_len (hl.1 _ (List.getElem_mem hk))
    have c0 := G0.out.cell
    have HC := Lib.hid (dp_of (s := s) (n := n) HV.out hk HDK.out)
    have HMX : ∃ r : Int, Hid (whP ls s = r) ∧ ((r = -1 ∧ k = 0) ∨ r = (k : Int)) := ⟨_, rfl, hkw⟩
    obtain ⟨r, HR, hrk⟩ := HMX
    clear hdk hkw
    go_wp2_with fail
    refine (scopyChain_any v ls _ (hM.out.mono hw1.out (Nat.le_refl _)) (by omega) (by omega)).mono ?_
    rintro e w2 ⟨v2, rfl, ho2, hb2⟩
    obtain ⟨g, cap, rfl, hg1, hg2⟩ := ho2.head hp0
    have hs2 := hb2.size
    have HA2 : Hid (Below w2.heap.size w2 (w2.alloc (.cells #[.slice (some ⟨g, 0, none⟩) ls.length cap] 29))) := (Below.refl _ _).alloc (Nat.le_refl _) _
    have HO2a := Lib.hid (ho2.keeps (Keeps.of_below HA2.out (fun j hj => hj.2)))
    have FNa := Lib.hid (One.new w2 29 (.slice (some ⟨g, 0, none⟩) ls.length cap))
    have G2a := Lib.hid ((G1.out.below hb2 G1.out.lt).below HA2.out (by have := G1.out.lt; omega))
    have G02 := Lib.hid ((G0.out.below hb2 G0.out.lt).below HA2.out (by have := G0.out.lt; omega))
    have HW2a := Lib.hid ((hw1.out.trans (hb2.mono hw1.out.size)).trans (HA2.out.mono (by have := hw1.out.size; omega)))
    have hA2a : (w2.alloc (.cells #[.slice (some ⟨g, 0, none⟩) ls.length cap] 29)).heap.size = w2.heap.size + 1 := by simp
    clear c0 ho2 hb2
    have c0 := G02.out.cell
    go_wp2_with fail
    refine (where_any _ (hM.out.mono HW2a.out (Nat.le_refl _)) HR.out).mono ?_
    rintro e w5 ⟨rfl, hb5⟩
    have HO2 := Lib.hid (HO2a.out.keeps (Keeps.of_below hb5 (fun j hj => by have := hj.2; omega)))
    have FN := Lib.hid (FNa.out.below hb5 FNa.out.lt)
    have G2 := Lib.hid (G2a.out.below hb5 G2a.out.lt)
    have HW2 := Lib.hid (HW2a.out.trans (hb5.mono HW2a.out.size))
    have hA2 : w2.heap.size + 1 ≤ w5.heap.size := by have := hb5.size; omega
    have hgne : Hid (w.heap.size + 1 ≠ g) := by have := G1.out.lt; unfold Hid; omega
    clear hb5 c0
    have d0 := FN.out.cell
    rcases hrk with ⟨rfl, rfl⟩ | rfl
    · obtain ⟨u, hcb, hI⟩ := HO2.out.cell hk
      have HI := Lib.hid hI
      clear hI
      go_wp2_with fail
      have hkc : (0 : Int) < (ls.length : Int) := by omega
      go_region_law (first
        | (go_simp; go_at_call 99; refine (put_any _ _ s n _ (Items.drew HI.out) (by omega) hs hi).mono ?_; rintro e w3 ⟨u3, rfl, ho3, hb3⟩; have hF3 := FN.out.below (Below.undrew hb3) (by show w2.heap.size < w5.heap.size; omega); have c3 := hF3.cell; have hM3 := HO2.out.keeps (Keeps.of_below (Below.undrew hb3) (fun j hj => by have := hj.2; show j < w5.heap.size; omega)); obtain ⟨g', cap', eg, _, _, ⟨x, hc5⟩, f5, hput⟩ := hM3.put (lo := w.heap.size) (hi := w3.heap.size) (RowZ.of ho3) hk (.inr (by show w2.heap.size ≤ w5.heap.size; omega)) hw1.out.size (by show w.heap.size ≤ w5.heap.size; exact HW2.out.size) (by have := hb3.size; simp at this; omega) (Nat.le_refl _); simp only [Value.slice.injEq, Option.some.injEq, Addr.mk.injEq, and_true] at eg; obtain ⟨rfl, _, rfl⟩ := eg; obtain ⟨uo, uc, rfl, _, _⟩ := own_slice ho3.1))
      all_goals
        have hw3 : w5.heap.size ≤ w3.heap.size := hb3.size
        have hbS : Below w5.heap.size w5 w3 := Below.undrew hb3
        have HO3 := Lib.hid hput
        have HW3 : Hid (Below w.heap.size w (w3.setCell ⟨g, 0, none⟩ (.slice uo (putI ls[0] s n).length uc))) := (HW2.out.trans (hbS.mono HW2.out.size)).setCell (by simp; have := hw1.out.size; omega) _
        have G3 := Lib.hid ((G2.out.below hbS G2.out.lt).keeps ((Keeps.refl (fun j => j ≠ g) w3).setCell (a := ⟨g, 0, none⟩) (fun h => h rfl) (.slice uo (putI ls[0] s n).length uc)) hgne.out)
        have F3 := Lib.hid (hF3.keeps ((Keeps.refl (fun j => j ≠ g) w3).setCell (a := ⟨g, 0, none⟩) (fun h => h rfl) (.slice uo (putI ls[0] s n).length uc)) (by omega))
        have hsz3 : w3.heap.size = (w3.setCell ⟨g, 0, none⟩ (.slice uo (putI ls[0] s n).length uc)).heap.size := by simp
        generalize w3.setCell ⟨g, 0, none⟩ (.slice uo (putI ls[0] s n).length uc) = X at *
        clear hF3 c3 hM3 hc5 f5 hput hbS hb3 ho3 hcb d0
        have d0 := F3.out.cell
        go_wp2_with fail
        refine (schkC_any _ _ X HO3.out (by omega)).mono ?_
        rintro e w4 ⟨v4, rfl, ho4, hb4⟩
        rw [HC.out.1, HC.out.2] at *
        have H4 := Lib.hid (G3.out.below hb4 G3.out.lt)
        obtain ⟨vo, L, vc, rfl⟩ := ho4.shape
        have e0 := H4.out.cell
        have f0 := H4.out.free
        have hzz : w4.heap.size ≤ (w4.setCell ⟨w.heap.size + 1, 0, none⟩ (.slice vo L vc)).heap.size := by simp
        have HO := Lib.hid ((ho4.other H4.out (by decide) (by decide) ((Keeps.refl _ _).one 0 (.slice vo L vc))).wide (Nat.le_refl _) hzz)
        have HB : Hid (Below w.heap.size w (w4.setCell ⟨w.heap.size + 1, 0, none⟩ (.slice vo L vc))) := (HW3.out.trans (hb4.mono HW3.out.size)).setCell (by simp) _
        clear d0 ho4 hb4 hzz
        go_wp2
        exact bodyPost_ret (v := okV (.slice vo L vc) (dpB ls s n)) (by simp [okV, results, Try.results40, go_sem, e0]) rfl ⟨_, rfl, HO.out, HB.out⟩
    · obtain ⟨u, hcb, hI⟩ := HO2.out.cell hk
      have HI := Lib.hid hI
      clear hI
      go_wp2_with fail
      have hkc : (k : Int) < (ls.length : Int) := by omega
      go_region_law (first
        | (go_simp; go_at_call 99; refine (put_any _ _ s n _ (Items.drew HI.out) (by omega) hs hi).mono ?_; rintro e w3 ⟨u3, rfl, ho3, hb3⟩; have hF3 := FN.out.below (Below.undrew hb3) (by show w2.heap.size < w5.heap.size; omega); have c3 := hF3.cell; have hM3 := HO2.out.keeps (Keeps.of_below (Below.undrew hb3) (fun j hj => by have := hj.2; show j < w5.heap.size; omega)); obtain ⟨g', cap', eg, _, _, ⟨x, hc5⟩, f5, hput⟩ := hM3.put (lo := w.heap.size) (hi := w3.heap.size) (RowZ.of ho3) hk (.inr (by show w2.heap.size ≤ w5.heap.size; omega)) hw1.out.size (by show w.heap.size ≤ w5.heap.size; exact HW2.out.size) (by have := hb3.size; simp at this; omega) (Nat.le_refl _); simp only [Value.slice.injEq, Option.some.injEq, Addr.mk.injEq, and_true] at eg; obtain ⟨rfl, _, rfl⟩ := eg; obtain ⟨uo, uc, rfl, _, _⟩ := own_slice ho3.1))
      all_goals
        have hw3 : w5.heap.size ≤ w3.heap.size := hb3.size
        have hbS : Below w5.heap.size w5 w3 := Below.undrew hb3
        have HO3 := Lib.hid hput
        have HW3 : Hid (Below w.heap.size w (w3.setCell ⟨g, k, none⟩ (.slice uo (putI ls[k] s n).length uc))) := (HW2.out.trans (hbS.mono HW2.out.size)).setCell (by simp; have := hw1.out.size; omega) _
        have G3 := Lib.hid ((G2.out.below hbS G2.out.lt).keeps ((Keeps.refl (fun j => j ≠ g) w3).setCell (a := ⟨g, k, none⟩) (fun h => h rfl) (.slice uo (putI ls[k] s n).length uc)) hgne.out)
        have F3 := Lib.hid (hF3.keeps ((Keeps.refl (fun j => j ≠ g) w3).setCell (a := ⟨g, k, none⟩) (fun h => h rfl) (.slice uo (putI ls[k] s n).length uc)) (by omega))
        have hsz3 : w3.heap.size = (w3.setCell ⟨g, k, none⟩ (.slice uo (putI ls[k] s n).length uc)).heap.size := by simp
        generalize w3.setCell ⟨g, k, none⟩ (.slice uo (putI ls[k] s n).length uc) = X at *
        clear hF3 c3 hM3 hc5 f5 hput hbS hb3 ho3 hcb d0
        have d0 := F3.out.cell
        go_wp2_with fail
        refine (schkC_any _ _ X HO3.out (by omega)).mono ?_
        rintro e w4 ⟨v4, rfl, ho4, hb4⟩
        rw [HC.out.1, HC.out.2] at *
        have H4 := Lib.hid (G3.out.below hb4 G3.out.lt)
        obtain ⟨vo, L, vc, rfl⟩ := ho4.shape
        have e0 := H4.out.cell
        have f0 := H4.out.free
        have hzz : w4.heap.size ≤ (w4.setCell ⟨w.heap.size + 1, 0, none⟩ (.slice vo L vc)).heap.size := by simp
        have HO := Lib.hid ((ho4.other H4.out (by decide) (by decide) ((Keeps.refl _ _).one 0 (.slice vo L vc))).wide (Nat.le_refl _) hzz)
        have HB : Hid (Below w.heap.size w (w4.setCell ⟨w.heap.size + 1, 0, none⟩ (.slice vo L vc))) := (HW3.out.trans (hb4.mono HW3.out.size)).setCell (by simp) _
        clear d0 ho4 hb4 hzz
        go_wp2
        exact bodyPost_ret (v := okV (.slice vo L vc) (dpB ls s n)) (by simp [okV, results, Try.results40, go_sem, e0]) rfl ⟨_, rfl, HO.out, HB.out⟩

set_option maxHeartbeats 1600000 in
set_option maxRecDepth 100000 in
theorem DeepPut_any (v : Value) (ls : List (List Itm)) (s : ByteArray) (n : Int) (w : World) (h : Maps w v ls) (hs : s.size ≤ 9223372036854775807) (hi : -9223372036854775808 ≤ n ∧ n ≤ 9223372036854775807) :
    Calls Try.prog 41 #[.agg #[v], .string s, .int .i64 n] w (NewM (fun v => .tuple #[.agg #[v], .bool (dpB ls s n)]) (dpL ls s n) w) := by
  have hM := Lib.hid h
  clear h
  go_enter Try.func41, Try.ntmps41
  have HA : Hid (Below w.heap.size w ((w.alloc (.cells #[v] 29)).alloc (.cells #[.slice none 0 0] 29))) := ((Below.refl _ _).alloc (Nat.le_refl _) _).alloc (by simp) _
  have F0 := Lib.hid ((One.new w 29 v).below (B := w.heap.size + 1) ((Below.refl _ _).alloc (by simp) (.cells #[.slice none 0 0] 29)) (by omega))
  have F1' := One.new (w.alloc (.cells #[v] 29)) 29 (.slice none 0 0)
  simp at F1'
  have F1 := Lib.hid F1'
  clear F1'
  have c0 := F0.out.cell
  cases hv : validC ls
  all_goals
    have HV := Lib.hid hv
    clear hv
    go_wp2_with fail
    refine (vC_v _ (hM.out.mono HA.out (Nat.le_refl _)) HV.out).mono ?_
    rintro e w1 ⟨rfl, hb1⟩
    have hs1 := hb1.size
    simp at hs1 hb1
    have hw1 := Lib.hid (HA.out.trans (hb1.mono (by omega)))
    have G0 := Lib.hid (F0.out.below hb1 (by omega))
    have G1 := Lib.hid (F1.out.below hb1 (by omega))
    clear c0 hb1
  · have e0 := G1.out.cell
    have f0 := G1.out.free
    have HB : Hid (Below w.heap.size w (w1.setCell ⟨w.heap.size + 1, 0, none⟩ (.slice none 0 0))) := hw1.out.setCell (by simp) _
    go_wp2
    refine bodyPost_ret (v := okV (.slice none 0 0) false) (by simp [okV, results, Try.results41, go_sem, e0]) rfl ⟨_, ret_m rfl (dp_no HV.out).1.symm, ?_, HB.out⟩
    rw [(dp_no HV.out).2]
    exact OwnM.nil _ _ _
  · have hl := validC_iff.1 HV.out
    have ht := tot_mem HV.out
    have hp0 : 0 < ls.length := by omega
    obtain ⟨k, hk, hdk, hkw⟩ := dp_k (s := s) hp0
    have HC := dp_at (n := n) HV.out hk hdk
    have HK := Lib.hid HC.1
    have HL := Lib.hid HC.2
    have HP : Hid (∀ w' : World, Below w.heap.size w w' → Calls Try.prog 101 #[.agg #[v], .int .i64 k, .string s, .int .i64 n] w' fun e w'' => ∃ v', e = .returned (okV v' (okP ls[k] s n)) ∧ OwnM w'.heap.size w''.heap.size w'' v' (ifM (okP ls[k] s n) (ls.set k (putL ls[k] s n))) ∧ Below w'.heap.size w' w'') :=
      fun w' hb => putAt_any v ls k s n w' (hM.out.mono hb (Nat.le_refl _)) hk hs hi (by omega) (by omega)
    obtain ⟨r, HW, hrk⟩ : ∃ r : Int, Hid (whC ls s = r) ∧ ((r = -1 ∧ k = 0) ∨ r = (k : Int)) := ⟨_, rfl, by rw [whC_yes HV.out]; exact hkw⟩
    clear hdk hkw HC
    generalize okP ls[k] s n = ok at HP HK HL
    generalize ls.set k (putL ls[k] s n) = M at HP HL
    have HMd := Lib.hid (show Maps w1.drew v ls from hM.out.mono hw1.out.drew (Nat.le_refl _))
    have c0 := G0.out.cell
    go_wp2_with fail
    rcases hrk with ⟨rfl, rfl⟩ | rfl
    · rw [Int.natCast_zero] at HP
      go_region_law (first
        | (go_simp; go_at_call 31; refine (WhereIs_v _ HMd.out HW.out).mono ?_; rintro e w5 ⟨rfl, hb5⟩; have hw5 := hw1.out.trans ((Below.undrew hb5).mono hw1.out.size); have K0 := (G0.out.below (Below.undrew hb5) G0.out.lt).cell; have K1 := G1.out.below (Below.undrew hb5) G1.out.lt)
        | (go_simp; go_at_call 101; refine (HP.out _ hw5).mono ?_; rintro e w2 ⟨v2, rfl, ho2, hb2⟩; obtain ⟨vo, L, vc, rfl⟩ := ho2.shape; have H2 := K1.below hb2 K1.lt; have e0 := H2.cell; have f0 := H2.free))
      all_goals
        have HO := Lib.hid (ho2.other H2 (by decide) (by decide) ((Keeps.refl _ _).one 0 (.slice vo L vc)))
        have HB : Hid (Below w.heap.size w (w2.setCell ⟨w.heap.size + 1, 0, none⟩ (.slice vo L vc))) := (hw5.trans (hb2.mono hw5.size)).setCell (by simp) _
        have hz5 := Lib.hid hw5.size
        have H2h := Lib.hid H2
        clear ho2 hb2 H2 K1 hb5
        try go_wp2
        refine bodyPost_ret (v := okV (.slice vo L vc) ok) (by simp [okV, results, Try.results41, go_sem, e0]) rfl ⟨_, ret_m rfl HK.out.symm, ?_, HB.out⟩
        rw [HL.out]
        exact HO.out.wide hz5.out (by simp)
    · go_region_law (first
        | (go_simp; go_at_call 31; refine (WhereIs_v _ HMd.out HW.out).mono ?_; rintro e w5 ⟨rfl, hb5⟩; have hw5 := hw1.out.trans ((Below.undrew hb5).mono hw1.out.size); have K0 := (G0.out.below (Below.undrew hb5) G0.out.lt).cell; have K1 := G1.out.below (Below.undrew hb5) G1.out.lt)
        | (go_simp; go_at_call 101; refine (HP.out _ hw5).mono ?_; rintro e w2 ⟨v2, rfl, ho2, hb2⟩; obtain ⟨vo, L, vc, rfl⟩ := ho2.shape; have H2 := K1.below hb2 K1.lt; have e0 := H2.cell; have f0 := H2.free))
      all_goals
        have HO := Lib.hid (ho2.other H2 (by decide) (by decide) ((Keeps.refl _ _).one 0 (.slice vo L vc)))
        have HB : Hid (Below w.heap.size w (w2.setCell ⟨w.heap.size + 1, 0, none⟩ (.slice vo L vc))) := (hw5.trans (hb2.mono hw5.size)).setCell (by simp) _
        have hz5 := Lib.hid hw5.size
        have H2h := Lib.hid H2
        clear ho2 hb2 H2 K1 hb5
        try go_wp2
        refine bodyPost_ret (v := okV (.slice vo L vc) ok) (by simp [okV, results, Try.results41, go_sem, e0]) rfl ⟨_, ret_m rfl HK.out.symm, ?_, HB.out⟩
        rw [HL.out]
        exact HO.out.wide hz5.out (by simp)
end Go.Proofs.Ytojepjpmegbdmaa
