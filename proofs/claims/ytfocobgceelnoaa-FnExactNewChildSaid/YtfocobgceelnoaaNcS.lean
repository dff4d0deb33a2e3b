/-
  A new child, by the model.
-/
import Derived.Test.YtfocobgceelnoaaNcP
namespace Go.Proofs.Ytfocobgceelnoaa
open Go.RowKit

set_option maxHeartbeats 3200000 in
set_option maxRecDepth 100000 in
theorem sNewChild_any (va vb : Value) (a : List (List Itm)) (b : List Itm) (w : World) (ha : Maps w va a) (hb : Items w vb b) (hbn : b.length ≤ 1048576) :
    Calls Try.prog 15 #[.agg #[va], vb] w (NewM (fun v => okV v (ncB a b)) (ifM (ncB a b) (b :: a)) w) := by
  have hMa := Lib.hid ha
  have hMb := Lib.hid hb
  obtain ⟨ao, ac, rfl, _, _⟩ := ha.slice
  obtain ⟨bo, bc, rfl, _, _⟩ : ∃ ao cap, vb = .slice ao b.length cap ∧ b.length ≤ cap ∧ cap ≤ 9223372036854775807 := by
    obtain ⟨ao, cap, e, h1, h2, _⟩ := hb
    exact ⟨ao, cap, e, h1, h2⟩
  clear ha hb
  go_enter Try.func15, Try.ntmps15
  have HA : Hid (Below w.heap.size w ((w.alloc (.cells #[.slice ao a.length ac] 30)).alloc (.cells #[.slice none 0 0] 30))) := ((Below.refl _ _).alloc (Nat.le_refl _) _).alloc (by simp) _
  have F0 := Lib.hid ((One.new w 30 (.slice ao a.length ac)).below (B := w.heap.size + 1) ((Below.refl _ _).alloc (by simp) (.cells #[.slice none 0 0] 30)) (by omega))
  have F1' := One.new (w.alloc (.cells #[.slice ao a.length ac] 30)) 30 (.slice none 0 0)
  simp at F1'
  have F1 := Lib.hid F1'
  clear F1'
  have c0 := F0.out.cell
  cases hva : validC a
  all_goals
    have HVA := Lib.hid hva
    clear hva
    go_wp2_with fail
    refine (svC_v _ (hMa.out.mono HA.out (Nat.le_refl _)) HVA.out).mono ?_
    rintro e w1 ⟨rfl, hb1⟩
    have hs1 := hb1.size
    simp at hs1 hb1
    have HB1 := Lib.hid (HA.out.trans (hb1.mono (by omega)))
    have G0 := Lib.hid (F0.out.below hb1 (by omega))
    have G1 := Lib.hid (F1.out.below hb1 (by omega))
    clear hb1 c0
    have c0 := G0.out.cell
    have e0 := G1.out.cell
    have f0 := G1.out.free
  · have HB : Hid (Below w.heap.size w (w1.setCell ⟨w.heap.size + 1, 0, none⟩ (.slice none 0 0))) := HB1.out.setCell (by simp <;> omega) _
    have HJ : Hid (ncB a b = false) := by show _ = _; unfold ncB; rw [HVA.out]; rfl
    go_wp2
    exact bodyPost_ret (v := okV (.slice none 0 0) false) (by simp [okV, results, Try.results15, go_sem, e0]) rfl ⟨.slice none 0 0, by rw [HJ.out], by rw [HJ.out]; exact OwnM.nil _ _ _, HB.out⟩
  · have hla := validC_iff.1 HVA.out
    have hta := tot_mem HVA.out
    have hla4 : a.length ≤ 4 := hla.2.2
    have hla1 : 0 < a.length := hla.2.1
    have htab : tot (b :: a) = b.length + tot a := rfl
    have hlab : (b :: a).length = a.length + 1 := rfl
    clear hla
    go_wp2_with fail
    refine (scopyChain_any _ a w1 (hMa.out.mono HB1.out (Nat.le_refl _)) (by omega) (by omega)).mono ?_
    rintro e w3 ⟨v3, rfl, ho3, hb3⟩
    have hs3 := hb3.size
    obtain ⟨us, ga, ca, hul, rfl, hga, hra, hza⟩ := ho3.row_shape hla1
    have hbx : Below w3.heap.size w3 (w3.alloc (.cells #[.slice (some ⟨ga, 0, none⟩) a.length ca] 30)) := (Below.refl _ _).alloc (Nat.le_refl _) _
    have hb3x := hb3.trans (hbx.mono hs3)
    have HBX := Lib.hid (HB1.out.trans (hb3x.mono (by omega)))
    have N3 := Lib.hid (One.new w3 30 (.slice (some ⟨ga, 0, none⟩) a.length ca))
    have X1 := Lib.hid (G1.out.below hb3x (by omega))
    have HRA := Lib.hid (ownsRow_below hra hbx (Nat.le_refl _))
    have HZA := Lib.hid (hza.keeps (Keeps.of_below hbx (fun j hj => hj.2)))
    have n0 := N3.out.cell
    have HUL := Lib.hid hul
    have HGA := Lib.hid hga
    clear hb3 hbx hb3x c0 e0 f0 ho3 hra hza hul hga
    have hcf := chain_field
    have hszx : (w3.alloc (.cells #[.slice (some ⟨ga, 0, none⟩) a.length ca] 30)).heap.size = w3.heap.size + 1 := by simp
    go_wp2_with fail
    go_region_law (first
      | (go_simp; go_at_call 56; refine (copyItems_any _ b _ (show Items (w3.alloc (.cells #[.slice (some ⟨ga, 0, none⟩) a.length ca] 30)).drew _ b from hMb.out.mono HBX.out.drew (Nat.le_refl _)) hbn).mono ?_; rintro e w4 ⟨v4, rfl, ho4, hb4⟩; obtain ⟨xo, xcap, rfl, _, _⟩ := own_slice ho4.1; have hN4 := N3.out.below (Below.undrew hb4) N3.out.lt; have n4 := hN4.cell; have hNx := hN4.below ((Below.refl _ w4).alloc (Nat.le_refl _) (.cells #[.slice xo b.length xcap] 34)) hN4.lt; have nx := hNx.cell)
      | (refine step_append_rowsO _ rfl (.tmp 15) (.tmp 17) rfl w1.heap.size (.slice (some ⟨w4.heap.size, 0, none⟩) 1 1) 1 [.slice xo b.length xcap] (by first | rfl | simp [Act.eval, Act.put]) (World.ownsRow_lit (base := w1.heap.size) (e := 34) (size := 1) w4 #[.slice xo b.length xcap] 1 (by have := hb4.size; simp at this; omega) (by unfold maxLen; omega) rfl) (.slice (some ⟨ga, 0, none⟩) a.length ca) us (by first | rfl | simp [Act.eval, Act.put]) (by have h := ownsRow_below (ownsRow_below HRA.out (Below.undrew hb4) (Nat.le_refl _)) ((Below.refl _ w4).alloc (Nat.le_refl _) (.cells #[.slice xo b.length xcap] 34)) (Nat.le_refl _); rw [← HUL.out] at h ⊢; exact row_of h (fun _ _ => trivial)) (rows_one HZA.out) (by omega) (by have := HUL.out; omega) (by have := hb4.size; simp at this ⊢; omega) ?_; intro v5 w5 hown5 hgrow5; obtain ⟨g5, c5, rfl, _, _⟩ := own_shape hown5 (by omega); have hn5 := hNx.grown hgrow5 (by intro e; have := hN4.lt; simp [Value.ownBlock] at e; omega); have n5 := hn5.cell; have z5 := hn5.free))
    all_goals
      have hs4 := hb4.size
      simp at hs4
      have HB4 := Lib.hid (HBX.out.trans ((Below.undrew hb4).mono HBX.out.size))
      have hbx4 : Below (w3.heap.size + 1) (w3.alloc (.cells #[.slice (some ⟨ga, 0, none⟩) a.length ca] 30)) w4 := by have := Below.undrew hb4; rw [← hszx]; exact this
      have hba : Below w4.heap.size w4 (w4.alloc (.cells #[.slice xo b.length xcap] 34)) := (Below.refl _ w4).alloc (Nat.le_refl _) _
      have hbA : Below (w3.heap.size + 1) (w3.alloc (.cells #[.slice (some ⟨ga, 0, none⟩) a.length ca] 30)) (w4.alloc (.cells #[.slice xo b.length xcap] 34)) := hbx4.trans (hba.mono (by omega))
      have hza4 := HZA.out.keeps (Keeps.of_below hbA (fun j hj => by have := hj.2; omega))
      have hzb := ((RowsZ.nil (w3.heap.size + 1) (w3.heap.size + 1) w4).snoc (RowZ.of ho4) (by simp) (by simp) (by omega)).keeps (Keeps.of_below hba (fun j hj => hj.2))
      have hrl := World.ownsRow_lit (base := w1.heap.size) (e := 34) (size := 1) w4 #[.slice xo b.length xcap] 1 (by omega) (by unfold maxLen; omega) rfl
      have hz5 := ((hzb.append hza4 (lo := w1.heap.size) (hi := w4.heap.size) (.inr (by simp)) (by omega) (Nat.le_refl _) (Nat.le_refl _) (by omega)).grown hrl hgrow5).wide (Nat.le_refl _) (show w4.heap.size ≤ w5.heap.size by have := hgrow5.size; simp at this; omega)
      have hul5 := HUL.out
      have hlt5 : g5 < w5.heap.size := (own_range hown5 rfl).2
      have hom : OwnM w1.heap.size w5.heap.size w5 (.slice (some ⟨g5, 0, none⟩) (1 + a.length) c5) (b :: a) := by
        refine ⟨[.slice xo b.length xcap] ++ us, .inl ⟨?_, fun g hg => ?_⟩, hz5⟩
        · have e : ([Value.slice xo b.length xcap] ++ us).length = 1 + a.length := by simp [hul5]; omega
          rw [e]
          rw [hul5] at hown5
          exact hown5
        · simp only [Value.ownBlock, Option.some.injEq] at hg
          omega
      have hos := (hom.other (b := w3.heap.size) hn5 (by decide) (by decide) ((Keeps.refl _ _).one 0 (.slice (some ⟨g5, 0, none⟩) (1 + a.length) c5)))
      have HOS := Lib.hid hos
      have hb45 : Below w1.heap.size w4 w5 := ((Below.refl _ w4).alloc (by omega) (.cells #[.slice xo b.length xcap] 34)).grown hgrow5 (by simp; omega) (fun j hj => (own_range hrl hj).1)
      have HB5 : Hid (Below w.heap.size w (w5.setCell ⟨w3.heap.size, 0, none⟩ (.slice (some ⟨g5, 0, none⟩) (1 + a.length) c5))) := (HB4.out.trans (hb45.mono (by omega))).setCell (by simp; omega) _
      have hx4 := (X1.out.below (Below.undrew hb4) X1.out.lt)
      have hx5 := hx4.below hba hx4.lt
      have HX5 := Lib.hid (hx5.grown hgrow5 (by intro e; simp [Value.ownBlock] at e; omega))
      have hs5 := hgrow5.size
      simp at hs5
      have HN6 : Hid (One (w5.setCell ⟨w3.heap.size, 0, none⟩ (.slice (some ⟨g5, 0, none⟩) (1 + a.length) c5)) (w.heap.size + 1) 30 (.slice none 0 0)) := HX5.out.keeps ((Keeps.refl (fun j => j = w.heap.size + 1) w5).setCell (by simp; omega) _) rfl
      have hs6 : w5.heap.size = (w5.setCell ⟨w3.heap.size, 0, none⟩ (.slice (some ⟨g5, 0, none⟩) (1 + a.length) c5)).heap.size := by simp
      clear hb4 hbx4 hba hbA hza4 hrl hz5 hown5 hgrow5 hom hos hb45 hx4 hx5 hN4 hNx nx n4 n0 ho4 hzb
      go_wp2_with fail
      refine (schkC_any _ (b :: a) _ HOS.out (by omega)).mono ?_
      rintro e w6 ⟨v6, rfl, ho6, hb6⟩
      have hsz6 := hb6.size
      have HB6 := Lib.hid (HB5.out.trans (hb6.mono HB5.out.size))
      have Q2 := Lib.hid (HN6.out.below hb6 HN6.out.lt)
      obtain ⟨yo, L, yc, rfl⟩ := ho6.shape
      have HO6 := Lib.hid ho6
      have HJ : Hid (ncB a b = validC (b :: a)) := by show _ = _; unfold ncB; rw [HVA.out]; rfl
      clear hb6 ho6 n5 z5
      have e0 := Q2.out.cell
      have f0 := Q2.out.free
      generalize validC (b :: a) = q at *
      have HB : Hid (Below w.heap.size w (w6.setCell ⟨w.heap.size + 1, 0, none⟩ (.slice yo L yc))) := HB6.out.setCell (by simp <;> omega) _
      go_wp2
      exact bodyPost_ret (v := okV (.slice yo L yc) q) (by simp [okV, results, Try.results15, go_sem, e0]) rfl ⟨.slice yo L yc, by rw [HJ.out], by rw [HJ.out]; exact (HO6.out.keeps ((Keeps.refl _ _).boxset (by simp; omega) _)).wide (by omega) (by simp), HB.out⟩
end Go.Proofs.Ytfocobgceelnoaa
