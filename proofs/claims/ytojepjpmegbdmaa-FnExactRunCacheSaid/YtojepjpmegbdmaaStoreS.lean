/-
  What is stored in a cache, by the model.
-/
import Derived.Test.YtojepjpmegbdmaaStore2
import Derived.Test.YtojepjpmegbdmaaSOrd2
namespace Go.Proofs.Ytojepjpmegbdmaa
open Go.RowKit

theorem Four.grown {w w' : World} {b T : Nat} {u0 u1 u2 u3 : Value} {row : Option Nat} (h : Four w b T u0 u1 u2 u3) (hg : w.grownBy w' row) (hne : row ≠ some b) : Four w' b T u0 u1 u2 u3 := by
  have hlt := h.lt
  unfold Four at h ⊢
  rw [hg.block b hlt (Ne.symm hne), h]
theorem st_has {xs : List Itm} {m : Int} {k : ByteArray} {n : Int} (hh : hasI xs k = true) (hl : (xs.length : Int) ≤ m) : stI xs m k n = delI xs k ++ [(k, n)] ∧ (delI xs k).length + 1 = xs.length := by
  have h1 := delI_length (l := xs) k
  rw [hh, if_pos rfl] at h1
  refine ⟨?_, h1⟩
  unfold stI
  have : (delI xs k ++ [(k, n)]).length - m.toNat = 0 := by simp only [List.length_append, List.length_cons, List.length_nil]; omega
  rw [this]
  rfl
theorem del_none {xs : List Itm} {k : ByteArray} (hh : hasI xs k = false) : delI xs k = xs := by
  induction xs with
  | nil => rfl
  | cons x r ih =>
    simp only [hasI, Bool.or_eq_false_iff, decide_eq_false_iff_not] at hh
    unfold delI
    rw [if_neg hh.1, ih hh.2]
theorem st_none {xs : List Itm} {m : Int} {k : ByteArray} {n : Int} (hh : hasI xs k = false) : stI xs m k n = (xs ++ [(k, n)]).drop (xs.length + 1 - m.toNat) := by
  unfold stI
  rw [del_none hh]
  simp

theorem OwnI.keepK {E B : Nat} {K : Nat → Prop} {w w' : World} {v : Value} {xs : List Itm} (h : OwnI E w B v xs) (hk : Keeps K w w') (hK : ∀ g, v.ownBlock = some g → K g) : OwnI E w' B v xs := ⟨hk.own h.1 hK, h.2⟩

theorem Four.set0 {w : World} {b T : Nat} {u0 u1 u2 u3 : Value} (h : Four w b T u0 u1 u2 u3) (v : Value) : Four (w.setCell ⟨b, 0, none⟩ v) b T v u1 u2 u3 := by
  unfold Four at h ⊢
  rw [heap_setCell_same w b 0 _ _ _ h]
  rfl

set_option maxHeartbeats 3200000 in
set_option maxRecDepth 100000 in
theorem sstore_any (v : Value) (xs : List Itm) (m g s : Int) (k : ByteArray) (n : Int) (w : World) (h : Items w v xs) (hks : k.size ≤ 9223372036854775807) (hni : -9223372036854775808 ≤ n ∧ n ≤ 9223372036854775807) (hm : 1 ≤ m ∧ m ≤ 8) (hl : (xs.length : Int) ≤ m) :
    Calls Try.prog 125 #[.agg #[v, .int .i64 m, .int .i64 g, .int .i64 s], .string k, .int .i64 n] w (NewW (fun v => .agg #[v, .int .i64 m, .int .i64 g, .int .i64 s]) (stI xs m k n) w) := by
  have h0 := Lib.hid h
  obtain ⟨ao, cap, rfl, hlc, hcm, _, _⟩ := h
  go_enter Try.func125, Try.ntmps125
  have HA : Hid (Below w.heap.size w ((w.alloc (.cells #[.slice ao xs.length cap, .int .i64 m, .int .i64 g, .int .i64 s] 67)).alloc (.cells #[.slice none 0 0, .int .i64 0, .int .i64 0, .int .i64 0] 67))) := ((Below.refl _ _).alloc (Nat.le_refl _) _).alloc (by simp) _
  have F1 := Four.new (w.alloc (.cells #[.slice ao xs.length cap, .int .i64 m, .int .i64 g, .int .i64 s] 67)) 67 (.slice none 0 0) (.int .i64 0) (.int .i64 0) (.int .i64 0)
  simp at F1
  have HF1 := Lib.hid F1
  clear F1
  go_wp2_with fail
  refine (copyC_any _ xs m g s _ (h0.out.mono HA.out (Nat.le_refl _)) (by omega)).mono ?_
  rintro e w1 ⟨v1, rfl, ho1, hb1⟩
  have hs1 := hb1.size
  simp at hs1 hb1 ho1
  obtain ⟨xo, xcap, rfl, _, _⟩ := own_slice ho1.1
  have hbA : Below w1.heap.size w1 (w1.alloc (.cells #[.slice xo xs.length xcap, .int .i64 m, .int .i64 g, .int .i64 s] 67)) := (Below.refl _ _).alloc (Nat.le_refl _) _
  have HG1 := Lib.hid ((HF1.out.below hb1 (by omega)).below hbA (by omega))
  have HG2 := Lib.hid (Four.new w1 67 (.slice xo xs.length xcap) (.int .i64 m) (.int .i64 g) (.int .i64 s))
  have HB1 : Hid (Below w.heap.size w w1) := HA.out.trans (hb1.mono (by omega))
  have HB2 : Hid (Below w.heap.size w (w1.alloc (.cells #[.slice xo xs.length xcap, .int .i64 m, .int .i64 g, .int .i64 s] 67))) := HB1.out.trans (hbA.mono HB1.out.size)
  have HO1 := Lib.hid (ho1.below hbA (Nat.le_refl _))
  have HI := Lib.hid HO1.out.items
  have hos : (w1.alloc (.cells #[.slice xo xs.length xcap, .int .i64 m, .int .i64 g, .int .i64 s] 67)).heap.size = w1.heap.size + 1 := by simp
  clear hb1 hbA ho1
  obtain ⟨d0, d1, d2, d3⟩ := HG2.out.cells
  cases hh : hasI xs k
  · have HH := Lib.hid hh
    have HL := Lib.hid (st_none (m := m) (n := n) hh)
    clear hh
    go_wp2_with fail
    refine (place_no _ HI.out HH.out).mono ?_
    rintro e w2 ⟨rfl, hw⟩
    rw [hw] at HG1 HG2 HB2 HO1 hos
    clear d0 d1 d2 d3 HI hw
    obtain ⟨d0, d1, d2, d3⟩ := HG2.out.cells
    have HLIT := Lib.hid (Items_one w2 k n 87 hks hni)
    have hown := HO1.out.1
    have hne := own_ne hown HG2.out (by decide)
    have hne1 := own_ne hown HG1.out (by decide)
    have HOS := Lib.hid hos
    have hbw : w.heap.size + 1 + 1 ≤ w2.heap.size := by omega
    clear hos
    have HOKK := Lib.hid (okI_app HO1.out.2 (okI_pair hks hni))
    have hbw1 : w.heap.size ≤ w2.heap.size := by omega
    by_cases hgt : m < (xs.length : Int) + 1
    · have HRD : ∀ gb vc : Nat, Hid (∀ w, Items w (.slice (some ⟨gb, 0, none⟩) (xs.length + 1) vc) (xs ++ [(k, n)]) → Items w (.slice (some ⟨gb, 2, none⟩) xs.length (vc - 1)) (stI xs m k n)) := fun gb vc w h => by
        have := h.drop (k := 1) (by omega)
        rw [HL.out, show xs.length + 1 - m.toNat = 1 by omega]
        exact this
      go_wp2_with (at_builtin; refine wpl_append_items _ rfl _ _ rfl (w.heap.size + 1 + 1) (.slice xo xs.length xcap) xs.length (cellsI xs) rfl (hown.alloc _) (.slice (some ⟨w2.heap.size, 0, none⟩) 1 1) [(k, n)] rfl HLIT.out (by omega) (by simp) (by simp; omega) ?_; intro v' w3 hown3 hgrow3; obtain ⟨gb, vc, rfl, hvc, hgB⟩ := own_shape hown3 (by simp); have hc1 : ¬ (vc = 1) := (by simp at hvc; omega); have hv1 : 1 ≤ vc := (by simp at hvc; omega); have hv2 : (1 : Int) ≤ (vc : Int) := (by omega); have hG3 := (HG2.out.below ((Below.refl _ _).alloc (Nat.le_refl _) _) HG2.out.lt).grown hgrow3 hne; obtain ⟨d0, d1, d2, d3⟩ := hG3.cells; obtain ⟨g0, g1, g2, g3⟩ := hG3.free; have hG31 := (HG1.out.below ((Below.refl _ _).alloc (Nat.le_refl _) _) HG1.out.lt).grown hgrow3 hne1; obtain ⟨c0, c1, c2, c3⟩ := hG31.cells; obtain ⟨f0, f1, f2, f3⟩ := hG31.free; have HB3 := Lib.hid ((HB2.out.alloc (by omega) (.cells #[.string k, .int .i64 n] 87)).grown hgrow3 (by simp; omega) (fun j hj => by have := (own_range hown hj).1; omega)); have HN3 : Hid (∀ j, (Value.slice (some ⟨gb, 0, none⟩) (xs.length + 1) vc).ownBlock = some j → j ≠ w1.heap.size ∧ j ≠ w.heap.size + 1) := (fun j hj => ⟨fun e => own_ne hown3 hG3 (by decide) (by rw [← e]; exact hj), fun e => own_ne hown3 hG31 (by decide) (by rw [← e]; exact hj)⟩); have HO3 := Lib.hid (own_app hown3 (show w.heap.size ≤ w.heap.size + 1 + 1 by omega) HOKK.out))
      exact bodyPost_ret (v := .agg #[.slice (some ⟨gb, 2, none⟩) xs.length (vc - 1), .int .i64 m, .int .i64 g, .int .i64 s]) (by simp [results, Try.results125, go_sem, c0, c1, c2, c3]) rfl ⟨_, .slice (some ⟨gb, 0, none⟩) (xs.length + 1) vc, xs ++ [(k, n)], rfl, HO3.out.keepK (by
        iterate 6 refine Keeps.setCell ?_ (by simp) _
        exact Keeps.refl _ _) HN3.out, HRD gb vc, by
        iterate 6 refine Below.setCell ?_ (by simp <;> omega) _
        exact HB3.out⟩
    · have HRD : ∀ gb vc : Nat, Hid (∀ w, Items w (.slice (some ⟨gb, 0, none⟩) (xs.length + 1) vc) (xs ++ [(k, n)]) → Items w (.slice (some ⟨gb, 0, none⟩) (xs.length + 1) vc) (stI xs m k n)) := fun gb vc w h => by
        rw [HL.out, show xs.length + 1 - m.toNat = 0 by omega]
        exact h
      go_wp2_with (at_builtin; refine wpl_append_items _ rfl _ _ rfl (w.heap.size + 1 + 1) (.slice xo xs.length xcap) xs.length (cellsI xs) rfl (hown.alloc _) (.slice (some ⟨w2.heap.size, 0, none⟩) 1 1) [(k, n)] rfl HLIT.out (by omega) (by simp) (by simp; omega) ?_; intro v' w3 hown3 hgrow3; obtain ⟨gb, vc, rfl, hvc, hgB⟩ := own_shape hown3 (by simp);  have hG3 := (HG2.out.below ((Below.refl _ _).alloc (Nat.le_refl _) _) HG2.out.lt).grown hgrow3 hne; obtain ⟨d0, d1, d2, d3⟩ := hG3.cells; obtain ⟨g0, g1, g2, g3⟩ := hG3.free; have hG31 := (HG1.out.below ((Below.refl _ _).alloc (Nat.le_refl _) _) HG1.out.lt).grown hgrow3 hne1; obtain ⟨c0, c1, c2, c3⟩ := hG31.cells; obtain ⟨f0, f1, f2, f3⟩ := hG31.free; have HB3 := Lib.hid ((HB2.out.alloc (by omega) (.cells #[.string k, .int .i64 n] 87)).grown hgrow3 (by simp; omega) (fun j hj => by have := (own_range hown hj).1; omega)); have HN3 : Hid (∀ j, (Value.slice (some ⟨gb, 0, none⟩) (xs.length + 1) vc).ownBlock = some j → j ≠ w1.heap.size ∧ j ≠ w.heap.size + 1) := (fun j hj => ⟨fun e => own_ne hown3 hG3 (by decide) (by rw [← e]; exact hj), fun e => own_ne hown3 hG31 (by decide) (by rw [← e]; exact hj)⟩); have HO3 := Lib.hid (own_app hown3 (show w.heap.size ≤ w.heap.size + 1 + 1 by omega) HOKK.out))
      exact bodyPost_ret (v := .agg #[.slice (some ⟨gb, 0, none⟩) (xs.length + 1) vc, .int .i64 m, .int .i64 g, .int .i64 s]) (by simp [results, Try.results125, go_sem, c0, c1, c2, c3]) rfl ⟨_, .slice (some ⟨gb, 0, none⟩) (xs.length + 1) vc, xs ++ [(k, n)], rfl, HO3.out.keepK (by
        iterate 5 refine Keeps.setCell ?_ (by simp) _
        exact Keeps.refl _ _) HN3.out, HRD gb vc, by
        iterate 5 refine Below.setCell ?_ (by simp <;> omega) _
        exact HB3.out⟩
  · obtain ⟨j, hj, p1, p2, p3, _⟩ := placeI_del xs k 0 hh
    have HH := Lib.hid hh
    have P1 := Lib.hid (p1.trans (by simp) : placeI xs k 0 = (j : Int))
    have P3 := Lib.hid p3
    have HL := Lib.hid (st_has (n := n) hh hl)
    have hdl := (st_has (n := n) hh hl).2
    clear hh p1 p2 p3
    go_wp2_with fail
    refine (place_at _ HI.out P1.out).mono ?_
    rintro e w2 ⟨rfl, hw⟩
    rw [hw] at HG1 HG2 HB2 HI hos
    clear d0 d1 d2 d3 hw HO1
    obtain ⟨d0, d1, d2, d3⟩ := HG2.out.cells
    go_wp2_with fail
    refine (swithout_any _ xs j _ HI.out hj (by omega)).mono ?_
    rintro e w3 ⟨v3, rfl, ho3, hb3⟩
    rw [← P3.out] at ho3
    obtain ⟨yo, ycap, rfl, hyc, _⟩ := own_slice ho3.1
    have hs3 := hb3.size
    have HG2a := HG2.out.below hb3 HG2.out.lt
    have HG1a := HG1.out.below hb3 HG1.out.lt
    have hne := own_ne ho3.1 HG2a (by decide)
    have hne1 := own_ne ho3.1 HG1a (by decide)
    have e1 : w.heap.size + 1 ≠ w1.heap.size := by omega
    have HG2b := Lib.hid (HG2a.set0 (.slice yo (delI xs k).length ycap))
    have HG1b := Lib.hid (HG1a.keeps ((Keeps.refl (fun j => j ≠ w1.heap.size) w3).setCell (a := ⟨w1.heap.size, 0, none⟩) (fun h => h rfl) (.slice yo (delI xs k).length ycap)) e1)
    have HB3b : Hid (Below w.heap.size w (w3.setCell ⟨w1.heap.size, 0, none⟩ (.slice yo (delI xs k).length ycap))) := (HB2.out.trans (hb3.mono HB2.out.size)).setCell (by simp; omega) _
    have HO3b := Lib.hid (ho3.keepK ((Keeps.refl (fun j => j ≠ w1.heap.size) w3).setCell (a := ⟨w1.heap.size, 0, none⟩) (fun h => h rfl) (.slice yo (delI xs k).length ycap)) (fun j hj e => hne (by rw [hj, e])))
    have hown := HO3b.out.1
    have hLIT := Items_one (w3.setCell ⟨w1.heap.size, 0, none⟩ (.slice yo (delI xs k).length ycap)) k n 87 hks hni
    simp at hLIT
    have HLIT := Lib.hid hLIT
    have HOKK := Lib.hid (okI_app ho3.2 (okI_pair hks hni))
    have hbw : w.heap.size + 1 + 1 ≤ w3.heap.size := by omega
    have hbw2 : w2.heap.size ≤ w3.heap.size := hs3
    have hgt : ¬ (m < ((delI xs k).length : Int) + 1) := by omega
    have hdl8 : (delI xs k).length ≤ 8 := by omega
    have HRD : ∀ gb vc : Nat, Hid (∀ w, Items w (.slice (some ⟨gb, 0, none⟩) ((delI xs k).length + 1) vc) (delI xs k ++ [(k, n)]) → Items w (.slice (some ⟨gb, 0, none⟩) ((delI xs k).length + 1) vc) (stI xs m k n)) := fun gb vc w h => by
      rw [HL.out.1]
      exact h
    have f3 := HG2a.free
    have p0 := HG2a.cells.1
    have hdl0 := Lib.hid hdl
    have e2 : w.heap.size ≤ w2.heap.size := by omega
    have E2 := Lib.hid e2
    clear HG2a HG1a hLIT ho3 d0 d1 d2 d3 hdl hos
    obtain ⟨d0, d1, d2, d3⟩ := HG2b.out.cells
    obtain ⟨g0, g1, g2, g3⟩ := HG2b.out.free
    obtain ⟨q0, _, _, _⟩ := f3
    go_wp2_with (at_builtin; refine wpl_append_items _ rfl _ _ rfl w2.heap.size (.slice yo (delI xs k).length ycap) (delI xs k).length (cellsI (delI xs k)) rfl (hown.alloc _) (.slice (some ⟨w3.heap.size, 0, none⟩) 1 1) [(k, n)] rfl HLIT.out (by omega) (by simp) (by simp; omega) ?_; intro v' w4 hown3 hgrow3; obtain ⟨gb, vc, rfl, hvc, hgB⟩ := own_shape hown3 (by simp); have hG3 := (HG2b.out.below ((Below.refl _ _).alloc (Nat.le_refl _) _) HG2b.out.lt).grown hgrow3 hne; obtain ⟨d0, d1, d2, d3⟩ := hG3.cells; obtain ⟨g0, g1, g2, g3⟩ := hG3.free; have hG31 := (HG1b.out.below ((Below.refl _ _).alloc (Nat.le_refl _) _) HG1b.out.lt).grown hgrow3 hne1; obtain ⟨c0, c1, c2, c3⟩ := hG31.cells; obtain ⟨f0, f1, f2, f3⟩ := hG31.free; have HB3 := Lib.hid ((HB3b.out.alloc (by simp; omega) (.cells #[.string k, .int .i64 n] 87)).grown hgrow3 (by simp; omega) (fun j hj => by exact Nat.le_trans E2.out (own_range hown hj).1)); have HN3 : Hid (∀ j, (Value.slice (some ⟨gb, 0, none⟩) ((delI xs k).length + 1) vc).ownBlock = some j → j ≠ w1.heap.size ∧ j ≠ w.heap.size + 1) := (fun j hj => ⟨fun e => own_ne hown3 hG3 (by decide) (by rw [← e]; exact hj), fun e => own_ne hown3 hG31 (by decide) (by rw [← e]; exact hj)⟩); have HO3 := Lib.hid (own_app (w := w) hown3 E2.out HOKK.out))
    exact bodyPost_ret (v := .agg #[.slice (some ⟨gb, 0, none⟩) ((delI xs k).length + 1) vc, .int .i64 m, .int .i64 g, .int .i64 s]) (by simp [results, Try.results125, go_sem, c0, c1, c2, c3]) rfl ⟨_, .slice (some ⟨gb, 0, none⟩) ((delI xs k).length + 1) vc, (delI xs k) ++ [(k, n)], rfl, HO3.out.keepK (by
      iterate 5 refine Keeps.setCell ?_ (by simp) _
      exact Keeps.refl _ _) HN3.out, HRD gb vc, by
      iterate 5 refine Below.setCell ?_ (by simp <;> omega) _
      exact HB3.out⟩

set_option maxHeartbeats 3200000 in
set_option maxRecDepth 100000 in
theorem sStoreItem_any (v : Value) (xs : List Itm) (m g s : Int) (k : ByteArray) (n : Int) (w : World) (h : Items w v xs) (hks : k.size ≤ 9223372036854775807) (hni : -9223372036854775808 ≤ n ∧ n ≤ 9223372036854775807) :
    Calls Try.prog 73 #[.agg #[v, .int .i64 m, .int .i64 g, .int .i64 s], .string k, .int .i64 n] w (NewW (fun v => .tuple #[.agg #[v, .int .i64 (soM xs m g s k n m), .int .i64 (soM xs m g s k n g), .int .i64 (soM xs m g s k n s)], .bool (soB xs m g s k n)]) (soL xs m g s k n) w) := by
  have h0 := Lib.hid h
  obtain ⟨ao, cap, rfl, hlc, hcm, _, _⟩ := h
  go_enter Try.func73, Try.ntmps73
  have HA : Hid (Below w.heap.size w ((w.alloc (.cells #[.slice ao xs.length cap, .int .i64 m, .int .i64 g, .int .i64 s] 67)).alloc (.cells #[.slice none 0 0, .int .i64 0, .int .i64 0, .int .i64 0] 67))) := ((Below.refl _ _).alloc (Nat.le_refl _) _).alloc (by simp) _
  have F0 := (Four.new w 67 (.slice ao xs.length cap) (.int .i64 m) (.int .i64 g) (.int .i64 s)).below (B := w.heap.size + 1) ((Below.refl _ _).alloc (by simp) (.cells #[.slice none 0 0, .int .i64 0, .int .i64 0, .int .i64 0] 67)) (by omega)
  have F1 := Four.new (w.alloc (.cells #[.slice ao xs.length cap, .int .i64 m, .int .i64 g, .int .i64 s] 67)) 67 (.slice none 0 0) (.int .i64 0) (.int .i64 0) (.int .i64 0)
  simp at F1
  have HF0 := Lib.hid F0
  have HF1 := Lib.hid F1
  clear F0 F1
  cases hv : vcB xs m g s
  all_goals
    have HV := Lib.hid hv
    clear hv
    go_wp2_with fail
    refine (svc_v _ (h0.out.mono HA.out (Nat.le_refl _)) HV.out).mono ?_
    rintro e w1 ⟨rfl, hb1⟩
    have hs1 := hb1.size
    simp at hs1 hb1
    have HG0 := Lib.hid (HF0.out.below hb1 (by omega))
    have HG1 := Lib.hid (HF1.out.below hb1 (by omega))
    have HB1 : Hid (Below w.heap.size w w1) := HA.out.trans (hb1.mono (by omega))
    clear hb1
  · have HC := Lib.hid (show soB xs m g s k n = false by unfold soB; rw [HV.out]; rfl)
    have HL := Lib.hid (so_no HC.out)
    obtain ⟨c0, c1, c2, c3⟩ := HG1.out.cells
    obtain ⟨f0, f1, f2, f3⟩ := HG1.out.free
    go_wp2
    exact bodyPost_ret (v := .tuple #[.agg #[.slice none 0 0, .int .i64 0, .int .i64 0, .int .i64 0], .bool false]) (by simp [results, Try.results73, go_sem, c0, c1, c2, c3]) rfl ⟨_, .slice none 0 0, [], ret_cb rfl (HL.out.2 _).symm (HL.out.2 _).symm (HL.out.2 _).symm HC.out.symm, OwnI_nil _ _ _, Lib.hid (fun w h => by rw [HL.out.1]; exact h), by
      iterate 4 refine Below.setCell ?_ (by simp) _
      exact HB1.out⟩
  · have HY := Lib.hid (vc_yes HV.out)
    have hm := HY.out.2.1
    have hl := HY.out.2.2.1
    have HSV := Lib.hid (st_valid (k := k) (n := n) HV.out)
    obtain ⟨a0, a1, a2, a3⟩ := HG0.out.cells
    go_wp2_with fail
    refine (sstore_any _ xs m g s k n _ (h0.out.mono HB1.out (Nat.le_refl _)) hks hni hm hl).mono ?_
    rintro e w2 ⟨v2, V, ys, rfl, ho2, hrd, hb2⟩
    have HI2 := Lib.hid (hrd.out _ ho2.items)
    obtain ⟨vo, L, vc, rfl⟩ : ∃ vo L vc, v2 = .slice vo L vc := by
      obtain ⟨ao, cap, e, _⟩ := HI2.out
      exact ⟨ao, _, cap, e⟩
    have hbA : Below w2.heap.size w2 (w2.alloc (.cells #[.slice vo L vc, .int .i64 m, .int .i64 g, .int .i64 s] 67)) := (Below.refl _ _).alloc (Nat.le_refl _) _
    have HG2 := Lib.hid (Four.new w2 67 (.slice vo L vc) (.int .i64 m) (.int .i64 g) (.int .i64 s))
    have HG3 := Lib.hid ((HG1.out.below hb2 HG1.out.lt).below hbA (by have := HG1.out.lt; have := hb2.size; omega))
    have HB2 := Lib.hid ((HB1.out.trans (hb2.mono HB1.out.size)).trans (hbA.mono (by have := HB1.out.size; have := hb2.size; omega)))
    have HO2 := Lib.hid (ho2.below hbA (Nat.le_refl _))
    have HI3 := Lib.hid (HI2.out.mono hbA (Nat.le_refl _))
    clear a0 a1 a2 a3 hb2 hbA ho2
    obtain ⟨d0, d1, d2, d3⟩ := HG2.out.cells
    obtain ⟨b, hb⟩ : ∃ b, Hid ((keyB k && numB n) = b) := ⟨_, Lib.hid rfl⟩
    have HS2 := Lib.hid (HSV.out.trans hb.out)
    go_wp2_with fail
    refine (svc_v _ HI3.out HS2.out).mono ?_
    rintro e w3 ⟨rfl, hb3⟩
    have K3 := HG3.out.below hb3 HG3.out.lt
    obtain ⟨c0, c1, c2, c3⟩ := K3.cells
    obtain ⟨f0, f1, f2, f3⟩ := K3.free
    have K2 := HG2.out.below hb3 HG2.out.lt
    clear d0 d1 d2 d3
    obtain ⟨d0, d1, d2, d3⟩ := K2.cells
    have hne := own_ne (HO2.out.below hb3 (Nat.le_refl _)).1 K3 (by decide)
    have HN3 := Lib.hid hne
    have HO3 := Lib.hid (HO2.out.below hb3 (Nat.le_refl _))
    have HB3 := Lib.hid (HB2.out.trans (hb3.mono HB2.out.size))
    clear K2 K3 hb3 hne
    cases b
    · have HC := Lib.hid (show soB xs m g s k n = false by unfold soB; rw [hb.out]; simp)
      have HL := Lib.hid (so_no HC.out)
      go_wp2
      exact bodyPost_ret (v := .tuple #[.agg #[.slice none 0 0, .int .i64 0, .int .i64 0, .int .i64 0], .bool false]) (by simp [results, Try.results73, go_sem, c0, c1, c2, c3]) rfl ⟨_, .slice none 0 0, [], ret_cb rfl (HL.out.2 _).symm (HL.out.2 _).symm (HL.out.2 _).symm HC.out.symm, OwnI_nil _ _ _, Lib.hid (fun w h => by rw [HL.out.1]; exact h), by
        iterate 4 refine Below.setCell ?_ (by simp) _
        exact HB3.out⟩
    · have HC := Lib.hid (show soB xs m g s k n = true by unfold soB; rw [HV.out, hb.out]; rfl)
      have HL := Lib.hid (so_yes HC.out)
      go_wp2
      exact bodyPost_ret (v := .tuple #[.agg #[.slice vo L vc, .int .i64 m, .int .i64 g, .int .i64 s], .bool true]) (by simp [results, Try.results73, go_sem, c0, c1, c2, c3]) rfl ⟨_, V, ys, ret_cb rfl (HL.out.2 _).symm (HL.out.2 _).symm (HL.out.2 _).symm HC.out.symm, (HO3.out.keepK (K := fun j => j ≠ w.heap.size + 1) (by
        iterate 4 refine Keeps.setCell ?_ (by simp) _
        exact Keeps.refl _ _) (fun j hj e => HN3.out (by rw [hj, e]))).base HB1.out.size, Lib.hid (fun w h => by rw [HL.out.1]; exact hrd.out w h), by
        iterate 4 refine Below.setCell ?_ (by simp) _
        exact HB3.out⟩
end Go.Proofs.Ytojepjpmegbdmaa
