/-
  A key looked up in a cache, by the model.
-/
import Derived.Test.YtojepjpmegbdmaaLook
namespace Go.Proofs.Ytojepjpmegbdmaa
open Go.RowKit

set_option maxHeartbeats 1600000 in
set_option maxRecDepth 100000 in
theorem slook_any (v : Value) (xs : List Itm) (m g s : Int) (k : ByteArray) (w : World) (h : Items w v xs) (hn : xs.length ≤ 100000) (hg : 0 ≤ g ∧ g ≤ 9999) (hs : 0 ≤ s ∧ s ≤ 9999) :
    Calls Try.prog 133 #[.agg #[v, .int .i64 m, .int .i64 g, .int .i64 s], .string k] w (NewL (fun v => .tuple #[.agg #[v, .int .i64 m, .int .i64 (lkG xs k g), .int .i64 (lkS xs k s)], .int .i64 (lkN xs k), .bool (hasI xs k)]) (lkI xs k) w) := by
  have h0 := Lib.hid h
  obtain ⟨ao, cap, rfl, hlc, hcm, _, _⟩ := h
  go_enter Try.func133, Try.ntmps133
  have HA : Hid (Below w.heap.size w ((w.alloc (.cells #[.slice ao xs.length cap, .int .i64 m, .int .i64 g, .int .i64 s] 67)).alloc (.cells #[.slice none 0 0, .int .i64 0, .int .i64 0, .int .i64 0] 67))) := ((Below.refl _ _).alloc (Nat.le_refl _) _).alloc (by simp) _
  have F0 := (Four.new w 67 (.slice ao xs.length cap) (.int .i64 m) (.int .i64 g) (.int .i64 s)).below (B := w.heap.size + 1) ((Below.refl _ _).alloc (by simp) (.cells #[.slice none 0 0, .int .i64 0, .int .i64 0, .int .i64 0] 67)) (by omega)
  have F1 := Four.new (w.alloc (.cells #[.slice ao xs.length cap, .int .i64 m, .int .i64 g, .int .i64 s] 67)) 67 (.slice none 0 0) (.int .i64 0) (.int .i64 0) (.int .i64 0)
  simp at F1
  have HF0 := Lib.hid F0
  have HF1 := Lib.hid F1
  clear F0 F1
  go_wp2_with fail
  refine (copyC_any _ xs m g s _ (h0.out.mono HA.out (Nat.le_refl _)) (by omega)).mono ?_
  rintro e w1 ⟨v1, rfl, ho1, hb1⟩
  have hs1 := hb1.size
  simp at hs1 hb1 ho1
  obtain ⟨xo, xcap, rfl, _, _⟩ := own_slice ho1.1
  have hbA : Below w1.heap.size w1 (w1.alloc (.cells #[.slice xo xs.length xcap, .int .i64 m, .int .i64 g, .int .i64 s] 67)) := (Below.refl _ _).alloc (Nat.le_refl _) _
  have HG0 := Lib.hid ((HF0.out.below hb1 (by omega)).below hbA (by omega))
  have HG1 := Lib.hid ((HF1.out.below hb1 (by omega)).below hbA (by omega))
  have HG2 := Lib.hid (Four.new w1 67 (.slice xo xs.length xcap) (.int .i64 m) (.int .i64 g) (.int .i64 s))
  have HB1 : Hid (Below w.heap.size w w1) := HA.out.trans (hb1.mono (by omega))
  have HB2 : Hid (Below w.heap.size w (w1.alloc (.cells #[.slice xo xs.length xcap, .int .i64 m, .int .i64 g, .int .i64 s] 67))) := HB1.out.trans (hbA.mono HB1.out.size)
  have HI := Lib.hid (h0.out.mono HB2.out (Nat.le_refl _))
  have HO1 := Lib.hid ho1
  have HKA : Hid (Keeps (fun j => w.heap.size + 1 + 1 ≤ j ∧ j < w1.heap.size) w1 (w1.alloc (.cells #[.slice xo xs.length xcap, .int .i64 m, .int .i64 g, .int .i64 s] 67))) := (Keeps.refl _ _).alloc (fun j hj => hj.2) _
  have hos : (w1.alloc (.cells #[.slice xo xs.length xcap, .int .i64 m, .int .i64 g, .int .i64 s] 67)).heap.size = w1.heap.size + 1 := by simp
  clear hb1 hbA ho1
  obtain ⟨a0, a1, a2, a3⟩ := HG0.out.cells
  cases hh : hasI xs k
  · have HH := Lib.hid hh
    have HL := Lib.hid (show lkI xs k = xs ∧ lkN xs k = 0 ∧ lkG xs k g = g ∧ lkS xs k s = upN s by unfold lkI lkN lkG lkS; rw [hh]; simp)
    clear hh
    have hne : ¬ (w1.heap.size = w.heap.size + 1) := by omega
    rcases up_cases s with ⟨hm, hu⟩ | ⟨hm, hu⟩
    all_goals
      go_wp2_with fail
      refine (place_no _ HI.out HH.out).mono ?_
      rintro e w2 ⟨rfl, hw⟩
      rw [hw] at HG1 HG2 HB2 HKA
      clear a0 a1 a2 a3 HI HG0 hos
      obtain ⟨c0, c1, c2, c3⟩ := HG1.out.cells
      obtain ⟨f0, f1, f2, f3⟩ := HG1.out.free
      obtain ⟨d0, d1, d2, d3⟩ := HG2.out.cells
      obtain ⟨g0, g1, g2, g3⟩ := HG2.out.free
      clear hw HG1 HG2
      go_wp2
    · exact bodyPost_ret (v := .tuple #[.agg #[.slice xo xs.length xcap, .int .i64 m, .int .i64 g, .int .i64 (s + 1)], .int .i64 0, .bool false]) (by simp [results, Try.results133, go_sem, c0, c1, c2, c3]) rfl ⟨_, ret_cib rfl rfl HL.out.2.2.1.symm (hu.symm.trans HL.out.2.2.2.symm) HL.out.2.1.symm HH.out.symm, by
        rw [HL.out.1]
        refine (HO1.out.mid ?_).base (by omega)
        iterate 5 refine Keeps.setCell ?_ (by simp <;> omega) _
        exact HKA.out, by
        iterate 5 refine Below.setCell ?_ (by simp <;> omega) _
        exact HB2.out⟩
    · exact bodyPost_ret (v := .tuple #[.agg #[.slice xo xs.length xcap, .int .i64 m, .int .i64 g, .int .i64 9999], .int .i64 0, .bool false]) (by simp [results, Try.results133, go_sem, c0, c1, c2, c3]) rfl ⟨_, ret_cib rfl rfl HL.out.2.2.1.symm (hu.symm.trans HL.out.2.2.2.symm) HL.out.2.1.symm HH.out.symm, by
        rw [HL.out.1]
        refine (HO1.out.mid ?_).base (by omega)
        iterate 5 refine Keeps.setCell ?_ (by simp <;> omega) _
        exact HKA.out, by
        iterate 5 refine Below.setCell ?_ (by simp <;> omega) _
        exact HB2.out⟩
  · obtain ⟨j, hj, p1, p2, p3, _⟩ := placeI_del xs k 0 hh
    have HH := Lib.hid hh
    have P1 := Lib.hid (p1.trans (by simp) : placeI xs k 0 = (j : Int))
    have P2 := Lib.hid p2
    have P3 := Lib.hid p3
    have HL := Lib.hid (show lkI xs k = movI xs k true ∧ lkN xs k = cnt xs k ∧ lkG xs k g = upN g ∧ lkS xs k s = s by unfold lkI lkN lkG lkS; rw [hh]; simp)
    have hl := h0.out
    obtain ⟨b, o, cap', e, _, _, hb, q0, q1⟩ := h0.out.at hj
    simp only [Value.slice.injEq] at e
    obtain ⟨rfl, _, rfl⟩ := e
    have hmv : (movI xs k true).length = xs.length := by have := lk_len xs k; rw [HL.out.1] at this; exact this
    clear hh p1 p2 p3 hl
    go_wp2_with fail
    refine (place_at _ HI.out P1.out).mono ?_
    rintro e w2 ⟨rfl, hw⟩
    rw [hw] at HG0 HG1 HG2 HB2 HI hos
    clear a0 a1 a2 a3 hw HKA
    obtain ⟨a0, a1, a2, a3⟩ := HG0.out.cells
    go_wp2_with fail
    refine (smoved_any _ xs k j true _ HI.out hj P2.out P3.out hn).mono ?_
    rintro e w3 ⟨v3, rfl, ho3, hb3⟩
    obtain ⟨yo, ycap, rfl, _, _⟩ := own_slice ho3.1
    have hs3 := hb3.size
    have HB3 := Lib.hid (HB2.out.trans (hb3.mono HB2.out.size))
    have HG0' := HG0.out.below hb3 (by omega)
    have HG1' := HG1.out.below hb3 (by omega)
    have HG2' := HG2.out.below hb3 (by omega)
    clear a0 a1 a2 a3
    obtain ⟨a0, a1, a2, a3⟩ := HG0'.cells
    obtain ⟨c0, c1, c2, c3⟩ := HG1'.cells
    obtain ⟨f0, f1, f2, f3⟩ := HG1'.free
    obtain ⟨d0, d1, d2, d3⟩ := HG2'.cells
    obtain ⟨g0, g1, g2, g3⟩ := HG2'.free
    have q1' := (HB3.out.cell (p := ⟨b, _, none⟩) hb).trans q1
    rw [P2.out] at q1'
    have hne : ¬ (w1.heap.size = w.heap.size + 1) := by omega
    have hne2 : ¬ (w1.heap.size = w.heap.size) := by omega
    have hne3 : ¬ (b = w1.heap.size) := by omega
    have hne3' : ¬ (w1.heap.size = b) := by omega
    have hne4 : ¬ (b = w.heap.size + 1) := by omega
    have HO3 := Lib.hid ho3
    clear ho3 hb3 q0 q1 HG0' HG1' HG2'
    clear hmv
    rcases up_cases g with ⟨hm, hu⟩ | ⟨hm, hu⟩
    all_goals
      go_wp2_with fail
      go_region
    all_goals go_wp2
    · exact bodyPost_ret (v := .tuple #[.agg #[.slice yo (movI xs k true).length ycap, .int .i64 m, .int .i64 (g + 1), .int .i64 s], .int .i64 (cnt xs k), .bool true]) (by simp [results, Try.results133, go_sem, c0, c1, c2, c3]) rfl ⟨_, ret_cib rfl rfl (hu.symm.trans HL.out.2.2.1.symm) HL.out.2.2.2.symm HL.out.2.1.symm HH.out.symm, by
        rw [HL.out.1]
        refine (HO3.out.past ?_).base (by omega)
        refine Keeps.drew ?_
        iterate 6 refine Keeps.past ?_ (by simp <;> omega) _
        exact Keeps.refl _ _, by
        refine Below.drew ?_
        iterate 6 refine Below.setCell ?_ (by simp <;> omega) _
        exact HB3.out⟩
    · exact bodyPost_ret (v := .tuple #[.agg #[.slice yo (movI xs k true).length ycap, .int .i64 m, .int .i64 9999, .int .i64 s], .int .i64 (cnt xs k), .bool true]) (by simp [results, Try.results133, go_sem, c0, c1, c2, c3]) rfl ⟨_, ret_cib rfl rfl (hu.symm.trans HL.out.2.2.1.symm) HL.out.2.2.2.symm HL.out.2.1.symm HH.out.symm, by
        rw [HL.out.1]
        refine (HO3.out.past ?_).base (by omega)
        refine Keeps.drew ?_
        iterate 6 refine Keeps.past ?_ (by simp <;> omega) _
        exact Keeps.refl _ _, by
        refine Below.drew ?_
        iterate 6 refine Below.setCell ?_ (by simp <;> omega) _
        exact HB3.out⟩

end Go.Proofs.Ytojepjpmegbdmaa
