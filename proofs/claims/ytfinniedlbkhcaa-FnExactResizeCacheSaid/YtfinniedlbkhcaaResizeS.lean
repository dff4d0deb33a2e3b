/-
  A cache with another limit, by the model.
-/
import Derived.Test.YtfinniedlbkhcaaResize
import Derived.Test.YtfinniedlbkhcaaSOrd
namespace Go.Proofs.Ytfinniedlbkhcaa
open Go.RowKit

set_option maxHeartbeats 1600000 in
set_option maxRecDepth 100000 in
theorem sResizeCache_any (v : Value) (xs : List Itm) (m g s n : Int) (w : World) (h : Items w v xs) :
    Calls Try.prog 74 #[.agg #[v, .int .i64 m, .int .i64 g, .int .i64 s], .int .i64 n] w (NewW (fun v => .tuple #[.agg #[v, .int .i64 (rzM xs m g s n), .int .i64 (rzG xs m g s n), .int .i64 (rzS xs m g s n)], .bool (rzB xs m g s n)]) (rzL xs m g s n) w) := by
  have h0 := Lib.hid h
  obtain ⟨ao, cap, rfl, hlc, hcm, _, _⟩ := h
  go_enter Try.func74, Try.ntmps74
  have HA : Hid (Below w.heap.size w ((w.alloc (.cells #[.slice ao xs.length cap, .int .i64 m, .int .i64 g, .int .i64 s] 65)).alloc (.cells #[.slice none 0 0, .int .i64 0, .int .i64 0, .int .i64 0] 65))) := ((Below.refl _ _).alloc (Nat.le_refl _) _).alloc (by simp) _
  have F0 := (Four.new w 65 (.slice ao xs.length cap) (.int .i64 m) (.int .i64 g) (.int .i64 s)).below (B := w.heap.size + 1) ((Below.refl _ _).alloc (by simp) (.cells #[.slice none 0 0, .int .i64 0, .int .i64 0, .int .i64 0] 65)) (by omega)
  have F1 := Four.new (w.alloc (.cells #[.slice ao xs.length cap, .int .i64 m, .int .i64 g, .int .i64 s] 65)) 65 (.slice none 0 0) (.int .i64 0) (.int .i64 0) (.int .i64 0)
  simp at F1
  have HF0 := Lib.hid F0
  have HF1 := Lib.hid F1
  clear F0 F1
  cases hv : vcB xs m g s
  all_goals
    have HV := Lib.hid hv
    clear hv
    go_wp2_with fail
    refine (svc_v _ (h0.out.mono HA.out (Nat.le_refl _)) HV.out).mono ?_
    rintro e w1 ⟨rfl, hb1⟩
    have hs1 := hb1.size
    simp at hs1 hb1
    have HG0 := Lib.hid (HF0.out.below hb1 (by omega))
    have HG1 := Lib.hid (HF1.out.below hb1 (by omega))
    have HB1 : Hid (Below w.heap.size w w1) := HA.out.trans (hb1.mono (by omega))
    clear hb1
  · have HL := Lib.hid (rz_no (n := n) (by rw [HV.out]; rfl))
    obtain ⟨c0, c1, c2, c3⟩ := HG1.out.cells
    obtain ⟨f0, f1, f2, f3⟩ := HG1.out.free
    go_wp2
    exact bodyPost_ret (v := .tuple #[.agg #[.slice none 0 0, .int .i64 0, .int .i64 0, .int .i64 0], .bool false]) (by simp [results, Try.results74, go_sem, c0, c1, c2, c3]) rfl ⟨_, .slice none 0 0, [], ret_cb rfl HL.out.2.1.symm HL.out.2.2.1.symm HL.out.2.2.2.1.symm HL.out.2.2.2.2.symm, OwnI_nil _ _ _, Lib.hid (fun w h => by rw [HL.out.1]; exact h), by
      iterate 4 refine Below.setCell ?_ (by simp) _
      exact HB1.out⟩
  · have HY := Lib.hid (vc_yes HV.out)
    have hl := valid_len HY.out.1
    cases hr : rgB n 1 8
    all_goals
      have HRG := Lib.hid hr
      clear hr
      go_wp2_with fail
      refine (rg_v _ HRG.out).mono ?_
      rintro e w2 ⟨rfl, rfl⟩
    · have HL := Lib.hid (rz_no (n := n) (xs := xs) (m := m) (g := g) (s := s) (by rw [HRG.out]; simp))
      obtain ⟨c0, c1, c2, c3⟩ := HG1.out.cells
      obtain ⟨f0, f1, f2, f3⟩ := HG1.out.free
      go_wp2
      exact bodyPost_ret (v := .tuple #[.agg #[.slice none 0 0, .int .i64 0, .int .i64 0, .int .i64 0], .bool false]) (by simp [results, Try.results74, go_sem, c0, c1, c2, c3]) rfl ⟨_, .slice none 0 0, [], ret_cb rfl HL.out.2.1.symm HL.out.2.2.1.symm HL.out.2.2.2.1.symm HL.out.2.2.2.2.symm, OwnI_nil _ _ _, Lib.hid (fun w h => by rw [HL.out.1]; exact h), by
        iterate 4 refine Below.setCell ?_ (by simp) _
        exact HB1.out⟩
    · have HL := Lib.hid (rz_yes (n := n) (xs := xs) (m := m) (g := g) (s := s) (by rw [HV.out, HRG.out]; rfl))
      have HN := Lib.hid (rg_yes HRG.out)
      have hn1 := HN.out.1
      have hn8 := HN.out.2
      obtain ⟨a0, a1, a2, a3⟩ := HG0.out.cells
      go_wp2_with fail
      refine (copyC_any _ xs m g s _ (h0.out.mono HB1.out (Nat.le_refl _)) (by omega)).mono ?_
      rintro e w2 ⟨v2, rfl, ho2, hb2⟩
      have hs2 := hb2.size
      have hlt2 : w.heap.size + 1 < w2.heap.size := by omega
      obtain ⟨c0, c1, c2, c3⟩ := (HG1.out.below hb2 (by omega)).cells
      obtain ⟨f0, f1, f2, f3⟩ := (HG1.out.below hb2 (by omega)).free
      have HO2 := Lib.hid ho2
      have HB2 := Lib.hid (HB1.out.trans (hb2.mono HB1.out.size))
      clear a0 a1 a2 a3 hb2
      by_cases hgt : n < (xs.length : Int)
      · obtain ⟨gb, xcap, rfl, hxc, hgB⟩ := own_shape ho2.1 (by omega)
        obtain ⟨k, hk⟩ : ∃ k : Nat, (xs.length : Int) - n = (k : Int) := ⟨xs.length - n.toNat, by omega⟩
        clear ho2
        have HD : Hid (∀ w, Items w (.slice (some ⟨gb, 0, none⟩) xs.length xcap) xs → Items w (.slice (some ⟨gb, k * 2, none⟩) (xs.length - k) (xcap - k)) (rzL xs m g s n)) := fun w h => by
          have := h.drop (k := k) (by omega)
          rw [Nat.zero_add] at this
          rw [HL.out.1, show xs.length - n.toNat = k by omega]
          exact this
        go_wp2
        exact bodyPost_ret (v := .tuple #[.agg #[.slice (some ⟨gb, k * 2, none⟩) (xs.length - k) (xcap - k), .int .i64 n, .int .i64 g, .int .i64 s], .bool true]) (by simp [results, Try.results74, go_sem, c0, c1, c2, c3, hlt2]) rfl ⟨_, .slice (some ⟨gb, 0, none⟩) xs.length xcap, xs, ret_cb rfl HL.out.2.1.symm HL.out.2.2.1.symm HL.out.2.2.2.1.symm HL.out.2.2.2.2.symm, by
          refine (HO2.out.mid ?_).base HB1.out.size
          refine Keeps.alloc ?_ (fun j hj => hj.2) _
          iterate 4 refine Keeps.setCell ?_ (by simp <;> omega) _
          exact Keeps.refl _ _, HD, by
          refine Below.alloc ?_ (by simp <;> omega) _
          iterate 4 refine Below.setCell ?_ (by simp) _
          exact HB2.out⟩
      · obtain ⟨xo, xcap, rfl, _, _⟩ := own_slice ho2.1
        clear ho2
        have HD : Hid (∀ w, Items w (.slice xo xs.length xcap) xs → Items w (.slice xo xs.length xcap) (rzL xs m g s n)) := fun w h => by
          rw [HL.out.1, show xs.length - n.toNat = 0 by omega]
          exact h
        go_wp2
        exact bodyPost_ret (v := .tuple #[.agg #[.slice xo xs.length xcap, .int .i64 n, .int .i64 g, .int .i64 s], .bool true]) (by simp [results, Try.results74, go_sem, c0, c1, c2, c3, hlt2]) rfl ⟨_, .slice xo xs.length xcap, xs, ret_cb rfl HL.out.2.1.symm HL.out.2.2.1.symm HL.out.2.2.2.1.symm HL.out.2.2.2.2.symm, by
          refine (HO2.out.mid ?_).base HB1.out.size
          refine Keeps.alloc ?_ (fun j hj => hj.2) _
          iterate 4 refine Keeps.setCell ?_ (by simp <;> omega) _
          exact Keeps.refl _ _, HD, by
          refine Below.alloc ?_ (by simp <;> omega) _
          iterate 4 refine Below.setCell ?_ (by simp) _
          exact HB2.out⟩
end Go.Proofs.Ytfinniedlbkhcaa
