/-
  RunCache by the model.
-/
import Derived.Test.YtojepjpmegbdmaaRunC
import Derived.Test.YtojepjpmegbdmaaLook2
import Derived.Deep.RegionLaw
namespace Go.Proofs.Ytojepjpmegbdmaa
open Go.RowKit

def set4 (w : World) (b : Nat) (a0 a1 a2 a3 : Value) : World := (((w.setCell ⟨b, 0, none⟩ a0).setCell ⟨b, 1, none⟩ a1).setCell ⟨b, 2, none⟩ a2).setCell ⟨b, 3, none⟩ a3
theorem Four.all {w : World} {b T : Nat} {u0 u1 u2 u3 : Value} (h : Four w b T u0 u1 u2 u3) (a0 a1 a2 a3 : Value) : Four (set4 w b a0 a1 a2 a3) b T a0 a1 a2 a3 := by
  unfold Four set4 at *
  have h1 := heap_setCell_same w b 0 _ _ a0 h
  have h2 := heap_setCell_same _ b 1 _ _ a1 h1
  have h3 := heap_setCell_same _ b 2 _ _ a2 h2
  have h4 := heap_setCell_same _ b 3 _ _ a3 h3
  rw [h4]
  rfl
theorem set4_keeps (w : World) (b : Nat) (a0 a1 a2 a3 : Value) : Keeps (fun j => j ≠ b) w (set4 w b a0 a1 a2 a3) := by
  unfold set4
  exact (((((Keeps.refl _ _).setCell (fun h => h rfl) _).setCell (fun h => h rfl) _).setCell (fun h => h rfl) _).setCell (fun h => h rfl) _)
theorem set4_below {B : Nat} {w w' : World} {b : Nat} (h : Below B w w') (hb : B ≤ b) (a0 a1 a2 a3 : Value) : Below B w (set4 w' b a0 a1 a2 a3) := by
  unfold set4
  exact ((((h.setCell hb _).setCell hb _).setCell hb _).setCell hb _)
theorem set4_size (w : World) (b : Nat) (a0 a1 a2 a3 : Value) : (set4 w b a0 a1 a2 a3).heap.size = w.heap.size := by
  unfold set4
  simp
theorem Items.shape {w : World} {v : Value} {xs : List Itm} (h : Items w v xs) : ∃ ao cap, v = .slice ao xs.length cap := by
  obtain ⟨ao, cap, e, _⟩ := h
  exact ⟨ao, cap, e⟩

set_option maxHeartbeats 3200000 in
set_option maxRecDepth 100000 in
theorem sRunCache_any (v u : Value) (xs : List Itm) (m g s : Int) (ks : List ByteArray) (w : World) (h : Items w v xs) (hk : Texts w u ks) :
    Calls Try.prog 80 #[.agg #[v, .int .i64 m, .int .i64 g, .int .i64 s], u] w (NewL (fun v => .tuple #[.agg #[v, .int .i64 (rkZ xs m g s ks m), .int .i64 (rkZ xs m g s ks (rcR m (xs, g, s) ks).2.1), .int .i64 (rkZ xs m g s ks (rcR m (xs, g, s) ks).2.2)], .bool (rkB xs m g s ks)]) (rkL xs m g s ks) w) := by
  have h0 := Lib.hid h
  have hT := Lib.hid hk
  obtain ⟨ao, cap, rfl, hlc, hcm, _, _⟩ := h
  obtain ⟨to, tcap, rfl, htc, htm, _, _⟩ := hk
  go_enter Try.func80, Try.ntmps80
  have HA : Hid (Below w.heap.size w ((w.alloc (.cells #[.slice ao xs.length cap, .int .i64 m, .int .i64 g, .int .i64 s] 67)).alloc (.cells #[.slice none 0 0, .int .i64 0, .int .i64 0, .int .i64 0] 67))) := ((Below.refl _ _).alloc (Nat.le_refl _) _).alloc (by simp) _
  have F0 := (Four.new w 67 (.slice ao xs.length cap) (.int .i64 m) (.int .i64 g) (.int .i64 s)).below (B := w.heap.size + 1) ((Below.refl _ _).alloc (by simp) (.cells #[.slice none 0 0, .int .i64 0, .int .i64 0, .int .i64 0] 67)) (by omega)
  have F1 := Four.new (w.alloc (.cells #[.slice ao xs.length cap, .int .i64 m, .int .i64 g, .int .i64 s] 67)) 67 (.slice none 0 0) (.int .i64 0) (.int .i64 0) (.int .i64 0)
  simp at F1
  have HF0 := Lib.hid F0
  have HF1 := Lib.hid F1
  clear F0 F1
  cases hv : vcB xs m g s
  all_goals
    have HV := Lib.hid hv
    clear hv
    go_wp2_with fail
    refine (svc_v _ (h0.out.mono HA.out (Nat.le_refl _)) HV.out).mono ?_
    rintro e w1 ⟨rfl, hb1⟩
    have hs1 := hb1.size
    simp at hs1 hb1
    have HG0 := Lib.hid (HF0.out.below hb1 (by omega))
    have HG1 := Lib.hid (HF1.out.below hb1 (by omega))
    have HB1 : Hid (Below w.heap.size w w1) := HA.out.trans (hb1.mono (by omega))
    clear hb1
  · have HC := Lib.hid (show rkB xs m g s ks = false by unfold rkB; rw [HV.out]; rfl)
    have HL := Lib.hid (rk_no HC.out)
    obtain ⟨c0, c1, c2, c3⟩ := HG1.out.cells
    obtain ⟨f0, f1, f2, f3⟩ := HG1.out.free
    go_wp2
    exact bodyPost_ret (v := .tuple #[.agg #[.slice none 0 0, .int .i64 0, .int .i64 0, .int .i64 0], .bool false]) (by simp [results, Try.results80, go_sem, c0, c1, c2, c3]) rfl ⟨_, ret_cb rfl (HL.out.2 _).symm (HL.out.2 _).symm (HL.out.2 _).symm HC.out.symm, by rw [HL.out.1]; exact OwnI_nil _ _ _, by
      iterate 4 refine Below.setCell ?_ (by simp) _
      exact HB1.out⟩
  · by_cases h40 : ks.length ≤ 40
    · have hz40 : ¬ ((40 : Int) < (ks.length : Int)) := by omega
      have HY := Lib.hid (vc_yes HV.out)
      have hl := valid_len HY.out.1
      obtain ⟨a0, a1, a2, a3⟩ := HG0.out.cells
      have hbA : Below w1.heap.size w1 (w1.alloc (.cells #[.slice ao xs.length cap, .int .i64 m, .int .i64 g, .int .i64 s] 67)) := (Below.refl _ _).alloc (Nat.le_refl _) _
      have HO0 := Lib.hid (Four.new w1 67 (.slice ao xs.length cap) (.int .i64 m) (.int .i64 g) (.int .i64 s))
      have HR0 := Lib.hid (HG1.out.below hbA HG1.out.lt)
      have HB0 := Lib.hid (HB1.out.trans (hbA.mono HB1.out.size))
      have HI0 := Lib.hid (h0.out.mono HB0.out (Nat.le_refl _))
      have HRV : Hid (rcV m (xs, g, s)) := HV.out
      have hob : w.heap.size + 1 < w1.heap.size := by omega
      go_wp2_with fail
      clear a0 a1 a2 a3 hbA
      go_loopw [7] (fun i wr => ∃ (k : Nat) (t : Run) (v : Value), k ≤ ks.length ∧ i = .int .i64 k ∧ Hid (t = rcR m (xs, g, s) (ks.take k)) ∧ Hid (rcV m t) ∧ Hid ((ks.take k).all keyB = true) ∧ Hid (Items wr v t.1) ∧ Hid (Four wr w1.heap.size 67 v (.int .i64 m) (.int .i64 t.2.1) (.int .i64 t.2.2)) ∧ Hid (Four wr (w.heap.size + 1) 67 (.slice none 0 0) (.int .i64 0) (.int .i64 0) (.int .i64 0)) ∧ Hid (Below w.heap.size w wr)) (fun i _ => ks.length - (intOf i).toNat)
      case atStart => exact ⟨0, (xs, g, s), _, Nat.zero_le _, rfl, rfl, HRV, rfl, HI0, HO0, HR0, HB0⟩
      case round =>
        obtain ⟨k, t, vr, hk, rfl, HT, HV2, HA2, HI, HO, HR, HB⟩ := hrel
        obtain ⟨vo, vc, rfl⟩ := HI.out.shape
        by_cases hlt : k < ks.length
        · obtain ⟨b, o, cap', e, hb, hc, hks⟩ := hT.out.at hlt
          simp only [Value.slice.injEq] at e
          obtain ⟨rfl, _, rfl⟩ := e
          have c1 := (HB.out.cell (p := ⟨b, _, none⟩) hb).trans hc
          have HCK := Lib.hid hc
          clear hc
          cases hkb : keyB ks[k]
          all_goals
            have HKB := Lib.hid hkb
            clear hkb
            go_wp2_with fail
            refine (validKey_v _ hks HKB.out).mono ?_
            rintro e w3 ⟨rfl, hw3⟩
            rw [hw3]
            clear hw3
          · have HC := Lib.hid (rk_key (xs := xs) (m := m) (g := g) (s := s) hlt HKB.out)
            have HL := Lib.hid (rk_no HC.out)
            obtain ⟨c0, c1', c2, c3⟩ := HR.out.cells
            obtain ⟨f0, f1, f2, f3⟩ := HR.out.free
            go_wp2
            exact bodyPost_ret (v := .tuple #[.agg #[.slice none 0 0, .int .i64 0, .int .i64 0, .int .i64 0], .bool false]) (by simp [results, Try.results80, go_sem, c0, c1', c2, c3]) rfl ⟨_, ret_cb rfl (HL.out.2 _).symm (HL.out.2 _).symm (HL.out.2 _).symm HC.out.symm, by rw [HL.out.1]; exact OwnI_nil _ _ _, by
              iterate 4 refine Below.setCell ?_ (by simp) _
              exact HB.out⟩
          · have hbd := rc_bd HV2.out
            have HNX := rc_next HV2.out HKB.out
            have HTX : Hid (rcStep m t ks[k] = rcR m (xs, g, s) (ks.take (k + 1))) := by unfold Hid; rw [rcR_take hlt, ← HT.out]
            have HVX := Lib.hid HNX
            have HAX := all_keys_step hlt HA2 HKB
            clear HNX
            obtain ⟨d0, d1, d2, d3⟩ := HO.out.cells
            have hbz : Below wr.heap.size wr (wr.alloc (.cells #[.slice none 0 0, .int .i64 0, .int .i64 0, .int .i64 0] 67)) := (Below.refl _ _).alloc (Nat.le_refl _) _
            have c1a := (hbz.cell (p := ⟨b, o + k, none⟩) (Nat.lt_of_lt_of_le hb (by have := HB.out.size; omega))).trans c1
            obtain ⟨da0, da1, da2, da3⟩ := (HO.out.below hbz HO.out.lt).cells
            go_wp2_with fail
            go_region_law (first
              | (go_simp; go_at_call 133; refine (slook_any _ t.1 m t.2.1 t.2.2 ks[k] _ (by first | exact Items.drew HI.out | exact Items.drew (HI.out.mono ((Below.refl _ _).alloc (Nat.le_refl _) _) (Nat.le_refl _))) (by omega) hbd.2.2.2.1 hbd.2.2.2.2).mono ?_; rintro e w4 ⟨v4, rfl, ho4, hb4⟩; obtain ⟨xo, xcap, rfl, _, _⟩ := own_slice ho4.1; have hbw : Below wr.heap.size wr w4 := (by first | exact Below.undrew hb4 | exact ((Below.refl wr.heap.size wr).alloc (Nat.le_refl _) _).trans ((Below.undrew hb4).mono (by simp))); (try (have hz4 := (Four.new wr 67 (.slice none 0 0) (.int .i64 0) (.int .i64 0) (.int .i64 0)).below (Below.undrew hb4) (by simp); obtain ⟨z0, z1, z2, z3⟩ := hz4.cells; obtain ⟨y0, y1, y2, y3⟩ := hz4.free))))
            all_goals
              first
                | (
                  have hne4 := own_ne ho4.1 hz4 (by decide)
                  have HNX := Lib.hid (hz4.all (.slice xo (lkI t.1 ks[k]).length xcap) (.int .i64 m) (.int .i64 (lkG t.1 ks[k] t.2.1)) (.int .i64 (lkS t.1 ks[k] t.2.2)))
                  have hkX := set4_keeps w4 wr.heap.size (.slice xo (lkI t.1 ks[k]).length xcap) (.int .i64 m) (.int .i64 (lkG t.1 ks[k] t.2.1)) (.int .i64 (lkS t.1 ks[k] t.2.2))
                  have HOX := Lib.hid (((HO.out.below hbw HO.out.lt)).keeps hkX (by have := HO.out.lt; omega))
                  have HRX := Lib.hid (((HR.out.below hbw HR.out.lt)).keeps hkX (by have := HR.out.lt; omega))
                  have HIX := Lib.hid ((ho4.keepK hkX (fun j hj e => hne4 (by rw [hj, e]))).base (show wr.heap.size ≤ _ by simp))
                  have HBX := Lib.hid (set4_below (HB.out.trans (hbw.mono HB.out.size)) HB.out.size (.slice xo (lkI t.1 ks[k]).length xcap) (.int .i64 m) (.int .i64 (lkG t.1 ks[k] t.2.1)) (.int .i64 (lkS t.1 ks[k] t.2.2)))
                  have hnb : w1.heap.size < wr.heap.size := HO.out.lt
                  clear z0 z1 z2 z3 y0 y1 y2 y3 hz4 hne4 hkX
                  unfold set4 at *
                  generalize (((w4.setCell ⟨wr.heap.size, 0, none⟩ (.slice xo (lkI t.1 ks[k]).length xcap)).setCell ⟨wr.heap.size, 1, none⟩ (.int .i64 m)).setCell ⟨wr.heap.size, 2, none⟩ (.int .i64 (lkG t.1 ks[k] t.2.1))).setCell ⟨wr.heap.size, 3, none⟩ (.int .i64 (lkS t.1 ks[k] t.2.2)) = X at *
                  clear hb4 ho4 d0 d1 d2 d3 da0 da1 da2 da3 c1a hbz c1 hbw
                  have c1 := (HBX.out.cell (p := ⟨b, o + k, none⟩) hb).trans HCK.out
                  cases hh : hasI t.1 ks[k]
                  · have HHX := Lib.hid (rc_hasnt (m := m) hh)
                    clear hh
                    obtain ⟨n0, n1, n2, n3⟩ := HNX.out.cells
                    go_wp2_with fail
                    go_region_law (first
                      | (go_simp; go_at_call 125; refine (sstore_any _ (lkI t.1 ks[k]) m _ _ ks[k] 1 _ (Items.drew HIX.out.items) hks ⟨by omega, by omega⟩ hbd.2.2.1 (by rw [lk_len]; exact hbd.2.1)).mono ?_; rintro e w5 ⟨v5, V, ys, rfl, ho5, hrd, hb5⟩; obtain ⟨yo, yL, yc, rfl⟩ : ∃ yo yL yc, v5 = .slice yo yL yc := (by obtain ⟨a1, a2, e⟩ := (hrd.out _ ho5.items).shape; exact ⟨a1, _, a2, e⟩); have hN5 := HNX.out.below (Below.undrew hb5) HNX.out.lt; obtain ⟨r0, r1, r2, r3⟩ := hN5.cells; obtain ⟨s0, s1, s2, s3⟩ := hN5.free))
                    all_goals
                      have hbu := Below.undrew hb5
                      have hneV := own_ne ho5.1 hN5 (by decide)
                      have hkY := set4_keeps w5 wr.heap.size (.slice yo yL yc) (.int .i64 m) (.int .i64 (lkG t.1 ks[k] t.2.1)) (.int .i64 (lkS t.1 ks[k] t.2.2))
                      have HNY := Lib.hid (hN5.all (.slice yo yL yc) (.int .i64 m) (.int .i64 (lkG t.1 ks[k] t.2.1)) (.int .i64 (lkS t.1 ks[k] t.2.2)))
                      have HOY := Lib.hid ((HOX.out.below hbu HOX.out.lt).keeps hkY (by omega))
                      have HRY := Lib.hid ((HRX.out.below hbu HRX.out.lt).keeps hkY (by omega))
                      have HVY := Lib.hid (ho5.keepK hkY (fun j hj e => hneV (by rw [hj, e])))
                      have HBY := Lib.hid (set4_below (HBX.out.trans (hbu.mono HBX.out.size)) (show w.heap.size ≤ wr.heap.size by omega) (.slice yo yL yc) (.int .i64 m) (.int .i64 (lkG t.1 ks[k] t.2.1)) (.int .i64 (lkS t.1 ks[k] t.2.2)))
                      clear hkY hneV hN5 r0 r1 r2 r3 s0 s1 s2 s3 hbu hb5 ho5 n0 n1 n2 n3 c1
                      unfold set4 at *
                      generalize (((w5.setCell ⟨wr.heap.size, 0, none⟩ (.slice yo yL yc)).setCell ⟨wr.heap.size, 1, none⟩ (.int .i64 m)).setCell ⟨wr.heap.size, 2, none⟩ (.int .i64 (lkG t.1 ks[k] t.2.1))).setCell ⟨wr.heap.size, 3, none⟩ (.int .i64 (lkS t.1 ks[k] t.2.2)) = Y at *
                      obtain ⟨n0, n1, n2, n3⟩ := HNY.out.cells
                      obtain ⟨p0, p1, p2, p3⟩ := HOY.out.cells
                      obtain ⟨q0, q1, q2, q3⟩ := HOY.out.free
                      have hneV := own_ne HVY.out.1 HOY.out (by decide)
                      have hkZ := set4_keeps Y w1.heap.size (.slice yo yL yc) (.int .i64 m) (.int .i64 (lkG t.1 ks[k] t.2.1)) (.int .i64 (lkS t.1 ks[k] t.2.2))
                      have HOZ := HOY.out.all (.slice yo yL yc) (.int .i64 m) (.int .i64 (lkG t.1 ks[k] t.2.1)) (.int .i64 (lkS t.1 ks[k] t.2.2))
                      have HRZ := Lib.hid (HRY.out.keeps hkZ (by omega))
                      have HIZ := hrd.out _ (HVY.out.keepK hkZ (fun j hj e => hneV (by rw [hj, e]))).items
                      have HBZ := Lib.hid (set4_below HBY.out (show w.heap.size ≤ w1.heap.size by omega) (.slice yo yL yc) (.int .i64 m) (.int .i64 (lkG t.1 ks[k] t.2.1)) (.int .i64 (lkS t.1 ks[k] t.2.2)))
                      have HOZ' : Hid (Four (set4 Y w1.heap.size (.slice yo yL yc) (.int .i64 m) (.int .i64 (lkG t.1 ks[k] t.2.1)) (.int .i64 (lkS t.1 ks[k] t.2.2))) w1.heap.size 67 (.slice yo yL yc) (.int .i64 m) (.int .i64 (rcStep m t ks[k]).2.1) (.int .i64 (rcStep m t ks[k]).2.2)) := by unfold Hid; rw [HHX.out]; exact HOZ
                      have HIZ' : Hid (Items (set4 Y w1.heap.size (.slice yo yL yc) (.int .i64 m) (.int .i64 (lkG t.1 ks[k] t.2.1)) (.int .i64 (lkS t.1 ks[k] t.2.2))) (.slice yo yL yc) (rcStep m t ks[k]).1) := by unfold Hid; rw [HHX.out]; exact HIZ
                      clear hneV hkZ HOZ HIZ
                      unfold set4 at *
                      go_wp2
                      go_roundw
                      case rel => exact ⟨k + 1, rcStep m t ks[k], _, by omega, by go_num, HTX, HVX, HAX, HIZ', HOZ', HRZ, HBZ⟩
                      case measure => simp [intOf]; omega
                  · have HHX := Lib.hid (rc_has (m := m) hh)
                    clear hh
                    obtain ⟨n0, n1, n2, n3⟩ := HNX.out.cells
                    obtain ⟨p0, p1, p2, p3⟩ := HOX.out.cells
                    obtain ⟨q0, q1, q2, q3⟩ := HOX.out.free
                    have hneV := own_ne HIX.out.1 HOX.out (by decide)
                    have hkZ := set4_keeps X w1.heap.size (.slice xo (lkI t.1 ks[k]).length xcap) (.int .i64 m) (.int .i64 (lkG t.1 ks[k] t.2.1)) (.int .i64 (lkS t.1 ks[k] t.2.2))
                    have HOZ := HOX.out.all (.slice xo (lkI t.1 ks[k]).length xcap) (.int .i64 m) (.int .i64 (lkG t.1 ks[k] t.2.1)) (.int .i64 (lkS t.1 ks[k] t.2.2))
                    have HRZ := Lib.hid (HRX.out.keeps hkZ (by omega))
                    have HIZ := (HIX.out.keepK hkZ (fun j hj e => hneV (by rw [hj, e]))).items
                    have HBZ := Lib.hid (set4_below HBX.out (show w.heap.size ≤ w1.heap.size by omega) (.slice xo (lkI t.1 ks[k]).length xcap) (.int .i64 m) (.int .i64 (lkG t.1 ks[k] t.2.1)) (.int .i64 (lkS t.1 ks[k] t.2.2)))
                    have HOZ' : Hid (Four (set4 X w1.heap.size (.slice xo (lkI t.1 ks[k]).length xcap) (.int .i64 m) (.int .i64 (lkG t.1 ks[k] t.2.1)) (.int .i64 (lkS t.1 ks[k] t.2.2))) w1.heap.size 67 (.slice xo (lkI t.1 ks[k]).length xcap) (.int .i64 m) (.int .i64 (rcStep m t ks[k]).2.1) (.int .i64 (rcStep m t ks[k]).2.2)) := by unfold Hid; rw [HHX.out]; exact HOZ
                    have HIZ' : Hid (Items (set4 X w1.heap.size (.slice xo (lkI t.1 ks[k]).length xcap) (.int .i64 m) (.int .i64 (lkG t.1 ks[k] t.2.1)) (.int .i64 (lkS t.1 ks[k] t.2.2))) (.slice xo (lkI t.1 ks[k]).length xcap) (rcStep m t ks[k]).1) := by unfold Hid; rw [HHX.out]; exact HIZ
                    clear hneV hkZ HOZ HIZ
                    unfold set4 at *
                    go_wp2
                    go_roundw
                    case rel => exact ⟨k + 1, rcStep m t ks[k], _, by omega, by go_num, HTX, HVX, HAX, HIZ', HOZ', HRZ, HBZ⟩
                    case measure => simp [intOf]; omega)
                | (
                  have hbA4 : Below w4.heap.size w4 (w4.alloc (.cells #[.slice xo (lkI t.1 ks[k]).length xcap, .int .i64 m, .int .i64 (lkG t.1 ks[k] t.2.1), .int .i64 (lkS t.1 ks[k] t.2.2)] 67)) := (Below.refl _ _).alloc (Nat.le_refl _) _
                  have HNX := Lib.hid (Four.new w4 67 (.slice xo (lkI t.1 ks[k]).length xcap) (.int .i64 m) (.int .i64 (lkG t.1 ks[k] t.2.1)) (.int .i64 (lkS t.1 ks[k] t.2.2)))
                  have hbX : Below wr.heap.size wr (w4.alloc (.cells #[.slice xo (lkI t.1 ks[k]).length xcap, .int .i64 m, .int .i64 (lkG t.1 ks[k] t.2.1), .int .i64 (lkS t.1 ks[k] t.2.2)] 67)) := hbw.trans (hbA4.mono hbw.size)
                  have HOX := Lib.hid (HO.out.below hbX HO.out.lt)
                  have HRX := Lib.hid (HR.out.below hbX HR.out.lt)
                  have HIX := Lib.hid ((ho4.below hbA4 (Nat.le_refl _)))
                  have HBX := Lib.hid (HB.out.trans (hbX.mono HB.out.size))
                  have hnb : w1.heap.size < w4.heap.size := Nat.lt_of_lt_of_le HO.out.lt hbw.size
                  clear hbA4 hbX
                  generalize w4.alloc (.cells #[.slice xo (lkI t.1 ks[k]).length xcap, .int .i64 m, .int .i64 (lkG t.1 ks[k] t.2.1), .int .i64 (lkS t.1 ks[k] t.2.2)] 67) = X at *
                  clear hb4 ho4 d0 d1 d2 d3 da0 da1 da2 da3 c1a hbz c1 hbw
                  have c1 := (HBX.out.cell (p := ⟨b, o + k, none⟩) hb).trans HCK.out
                  cases hh : hasI t.1 ks[k]
                  · have HHX := Lib.hid (rc_hasnt (m := m) hh)
                    clear hh
                    obtain ⟨n0, n1, n2, n3⟩ := HNX.out.cells
                    go_wp2_with fail
                    go_region_law (first
                      | (go_simp; go_at_call 125; refine (sstore_any _ (lkI t.1 ks[k]) m _ _ ks[k] 1 _ (Items.drew HIX.out.items) hks ⟨by omega, by omega⟩ hbd.2.2.1 (by rw [lk_len]; exact hbd.2.1)).mono ?_; rintro e w5 ⟨v5, V, ys, rfl, ho5, hrd, hb5⟩; obtain ⟨yo, yL, yc, rfl⟩ : ∃ yo yL yc, v5 = .slice yo yL yc := (by obtain ⟨a1, a2, e⟩ := (hrd.out _ ho5.items).shape; exact ⟨a1, _, a2, e⟩); have hN5 := HNX.out.below (Below.undrew hb5) HNX.out.lt; obtain ⟨r0, r1, r2, r3⟩ := hN5.cells; obtain ⟨s0, s1, s2, s3⟩ := hN5.free))
                    all_goals
                      have hbu := Below.undrew hb5
                      have hneV := own_ne ho5.1 hN5 (by decide)
                      have hkY := set4_keeps w5 w4.heap.size (.slice yo yL yc) (.int .i64 m) (.int .i64 (lkG t.1 ks[k] t.2.1)) (.int .i64 (lkS t.1 ks[k] t.2.2))
                      have HNY := Lib.hid (hN5.all (.slice yo yL yc) (.int .i64 m) (.int .i64 (lkG t.1 ks[k] t.2.1)) (.int .i64 (lkS t.1 ks[k] t.2.2)))
                      have HOY := Lib.hid ((HOX.out.below hbu HOX.out.lt).keeps hkY (by omega))
                      have HRY := Lib.hid ((HRX.out.below hbu HRX.out.lt).keeps hkY (by omega))
                      have HVY := Lib.hid (ho5.keepK hkY (fun j hj e => hneV (by rw [hj, e])))
                      have HBY := Lib.hid (set4_below (HBX.out.trans (hbu.mono HBX.out.size)) (show w.heap.size ≤ w4.heap.size by omega) (.slice yo yL yc) (.int .i64 m) (.int .i64 (lkG t.1 ks[k] t.2.1)) (.int .i64 (lkS t.1 ks[k] t.2.2)))
                      clear hkY hneV hN5 r0 r1 r2 r3 s0 s1 s2 s3 hbu hb5 ho5 n0 n1 n2 n3 c1
                      unfold set4 at *
                      generalize (((w5.setCell ⟨w4.heap.size, 0, none⟩ (.slice yo yL yc)).setCell ⟨w4.heap.size, 1, none⟩ (.int .i64 m)).setCell ⟨w4.heap.size, 2, none⟩ (.int .i64 (lkG t.1 ks[k] t.2.1))).setCell ⟨w4.heap.size, 3, none⟩ (.int .i64 (lkS t.1 ks[k] t.2.2)) = Y at *
                      obtain ⟨n0, n1, n2, n3⟩ := HNY.out.cells
                      obtain ⟨p0, p1, p2, p3⟩ := HOY.out.cells
                      obtain ⟨q0, q1, q2, q3⟩ := HOY.out.free
                      have hneV := own_ne HVY.out.1 HOY.out (by decide)
                      have hkZ := set4_keeps Y w1.heap.size (.slice yo yL yc) (.int .i64 m) (.int .i64 (lkG t.1 ks[k] t.2.1)) (.int .i64 (lkS t.1 ks[k] t.2.2))
                      have HOZ := HOY.out.all (.slice yo yL yc) (.int .i64 m) (.int .i64 (lkG t.1 ks[k] t.2.1)) (.int .i64 (lkS t.1 ks[k] t.2.2))
                      have HRZ := Lib.hid (HRY.out.keeps hkZ (by omega))
                      have HIZ := hrd.out _ (HVY.out.keepK hkZ (fun j hj e => hneV (by rw [hj, e]))).items
                      have HBZ := Lib.hid (set4_below HBY.out (show w.heap.size ≤ w1.heap.size by omega) (.slice yo yL yc) (.int .i64 m) (.int .i64 (lkG t.1 ks[k] t.2.1)) (.int .i64 (lkS t.1 ks[k] t.2.2)))
                      have HOZ' : Hid (Four (set4 Y w1.heap.size (.slice yo yL yc) (.int .i64 m) (.int .i64 (lkG t.1 ks[k] t.2.1)) (.int .i64 (lkS t.1 ks[k] t.2.2))) w1.heap.size 67 (.slice yo yL yc) (.int .i64 m) (.int .i64 (rcStep m t ks[k]).2.1) (.int .i64 (rcStep m t ks[k]).2.2)) := by unfold Hid; rw [HHX.out]; exact HOZ
                      have HIZ' : Hid (Items (set4 Y w1.heap.size (.slice yo yL yc) (.int .i64 m) (.int .i64 (lkG t.1 ks[k] t.2.1)) (.int .i64 (lkS t.1 ks[k] t.2.2))) (.slice yo yL yc) (rcStep m t ks[k]).1) := by unfold Hid; rw [HHX.out]; exact HIZ
                      clear hneV hkZ HOZ HIZ
                      unfold set4 at *
                      go_wp2
                      go_roundw
                      case rel => exact ⟨k + 1, rcStep m t ks[k], _, by omega, by go_num, HTX, HVX, HAX, HIZ', HOZ', HRZ, HBZ⟩
                      case measure => simp [intOf]; omega
                  · have HHX := Lib.hid (rc_has (m := m) hh)
                    clear hh
                    obtain ⟨n0, n1, n2, n3⟩ := HNX.out.cells
                    obtain ⟨p0, p1, p2, p3⟩ := HOX.out.cells
                    obtain ⟨q0, q1, q2, q3⟩ := HOX.out.free
                    have hneV := own_ne HIX.out.1 HOX.out (by decide)
                    have hkZ := set4_keeps X w1.heap.size (.slice xo (lkI t.1 ks[k]).length xcap) (.int .i64 m) (.int .i64 (lkG t.1 ks[k] t.2.1)) (.int .i64 (lkS t.1 ks[k] t.2.2))
                    have HOZ := HOX.out.all (.slice xo (lkI t.1 ks[k]).length xcap) (.int .i64 m) (.int .i64 (lkG t.1 ks[k] t.2.1)) (.int .i64 (lkS t.1 ks[k] t.2.2))
                    have HRZ := Lib.hid (HRX.out.keeps hkZ (by omega))
                    have HIZ := (HIX.out.keepK hkZ (fun j hj e => hneV (by rw [hj, e]))).items
                    have HBZ := Lib.hid (set4_below HBX.out (show w.heap.size ≤ w1.heap.size by omega) (.slice xo (lkI t.1 ks[k]).length xcap) (.int .i64 m) (.int .i64 (lkG t.1 ks[k] t.2.1)) (.int .i64 (lkS t.1 ks[k] t.2.2)))
                    have HOZ' : Hid (Four (set4 X w1.heap.size (.slice xo (lkI t.1 ks[k]).length xcap) (.int .i64 m) (.int .i64 (lkG t.1 ks[k] t.2.1)) (.int .i64 (lkS t.1 ks[k] t.2.2))) w1.heap.size 67 (.slice xo (lkI t.1 ks[k]).length xcap) (.int .i64 m) (.int .i64 (rcStep m t ks[k]).2.1) (.int .i64 (rcStep m t ks[k]).2.2)) := by unfold Hid; rw [HHX.out]; exact HOZ
                    have HIZ' : Hid (Items (set4 X w1.heap.size (.slice xo (lkI t.1 ks[k]).length xcap) (.int .i64 m) (.int .i64 (lkG t.1 ks[k] t.2.1)) (.int .i64 (lkS t.1 ks[k] t.2.2))) (.slice xo (lkI t.1 ks[k]).length xcap) (rcStep m t ks[k]).1) := by unfold Hid; rw [HHX.out]; exact HIZ
                    clear hneV hkZ HOZ HIZ
                    unfold set4 at *
                    go_wp2
                    go_roundw
                    case rel => exact ⟨k + 1, rcStep m t ks[k], _, by omega, by go_num, HTX, HVX, HAX, HIZ', HOZ', HRZ, HBZ⟩
                    case measure => simp [intOf]; omega)
        · obtain rfl : k = ks.length := by omega
          have hbd := rc_bd HV2.out
          have hAA := HA2.out
          rw [List.take_length] at hAA
          have hTT := HT.out
          rw [List.take_length] at hTT
          have HC := Lib.hid (show rkB xs m g s ks = true by unfold rkB; rw [HV.out, hAA]; simp; exact h40)
          have HL := Lib.hid (rk_yes HC.out)
          have HTT := Lib.hid hTT
          clear hAA hTT
          obtain ⟨d0, d1, d2, d3⟩ := HO.out.cells
          go_wp2_with fail
          refine (copyC_any _ t.1 m t.2.1 t.2.2 _ HI.out (by omega)).mono ?_
          rintro e w4 ⟨v4, rfl, ho4, hb4⟩
          have hne4 := own_ne ho4.1 (HR.out.below hb4 HR.out.lt) (by decide)
          have HR4 := HR.out.below hb4 HR.out.lt
          obtain ⟨c0, c1, c2, c3⟩ := HR4.cells
          obtain ⟨f0, f1, f2, f3⟩ := HR4.free
          obtain ⟨xo, xcap, rfl, _, _⟩ := own_slice ho4.1
          have HN4 := Lib.hid hne4
          have HO4 := Lib.hid ho4
          have HB4 := Lib.hid (HB.out.trans (hb4.mono HB.out.size))
          clear ho4 hb4 HR4 d0 d1 d2 d3 hne4
          go_wp2
          exact bodyPost_ret (v := .tuple #[.agg #[.slice xo t.1.length xcap, .int .i64 m, .int .i64 t.2.1, .int .i64 t.2.2], .bool true]) (by simp [results, Try.results80, go_sem, c0, c1, c2, c3]) rfl ⟨_, ret_cb rfl (HL.out.2 _).symm (by rw [HL.out.2, HTT.out]) (by rw [HL.out.2, HTT.out]) HC.out.symm, by
            rw [HL.out.1, ← HTT.out]
            refine (HO4.out.keepK (K := fun j => j ≠ w.heap.size + 1) ?_ (fun j hj e => HN4.out (by rw [hj, e]))).base HB.out.size
            iterate 4 refine Keeps.setCell ?_ (by simp) _
            exact Keeps.refl _ _, by
            iterate 4 refine Below.setCell ?_ (by simp) _
            exact HB4.out⟩
    · have hz40 : (40 : Int) < (ks.length : Int) := by omega
      have HC := Lib.hid (show rkB xs m g s ks = false by unfold rkB; rw [decide_eq_false h40]; simp)
      have HL := Lib.hid (rk_no HC.out)
      obtain ⟨c0, c1, c2, c3⟩ := HG1.out.cells
      obtain ⟨f0, f1, f2, f3⟩ := HG1.out.free
      go_wp2
      exact bodyPost_ret (v := .tuple #[.agg #[.slice none 0 0, .int .i64 0, .int .i64 0, .int .i64 0], .bool false]) (by simp [results, Try.results80, go_sem, c0, c1, c2, c3]) rfl ⟨_, ret_cb rfl (HL.out.2 _).symm (HL.out.2 _).symm (HL.out.2 _).symm HC.out.symm, by rw [HL.out.1]; exact OwnI_nil _ _ _, by
        iterate 4 refine Below.setCell ?_ (by simp) _
        exact HB1.out⟩
end Go.Proofs.Ytojepjpmegbdmaa
