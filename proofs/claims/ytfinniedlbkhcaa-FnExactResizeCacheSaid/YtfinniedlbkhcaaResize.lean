/-
  A cache with another limit, by the program.
-/
import Derived.Test.YtfinniedlbkhcaaLook
import Derived.Test.YtfinniedlbkhcaaTrim
namespace Go.Proofs.Ytfinniedlbkhcaa
open Go.RowKit

theorem ret_cb {a b : Value} {m m' g g' s s' : Int} {c c' : Bool} (h : a = b) (h1 : m = m') (h2 : g = g') (h3 : s = s') (h5 : c = c') :
    Ending.returned (.tuple #[.agg #[a, .int .i64 m, .int .i64 g, .int .i64 s], .bool c]) = .returned (.tuple #[.agg #[b, .int .i64 m', .int .i64 g', .int .i64 s'], .bool c']) := by rw [h, h1, h2, h3, h5]
def rzB (xs : List Itm) (m g s n : Int) : Bool := vcB xs m g s && rgB n 1 8
def rzL (xs : List Itm) (m g s n : Int) : List Itm := if rzB xs m g s n = true then xs.drop (xs.length - n.toNat) else []
def rzM (xs : List Itm) (m g s n : Int) : Int := if rzB xs m g s n = true then n else 0
def rzG (xs : List Itm) (m g s n : Int) : Int := if rzB xs m g s n = true then g else 0
def rzS (xs : List Itm) (m g s n : Int) : Int := if rzB xs m g s n = true then s else 0
theorem rz_no {xs : List Itm} {m g s n : Int} (h : (vcB xs m g s && rgB n 1 8) = false) : rzL xs m g s n = [] ∧ rzM xs m g s n = 0 ∧ rzG xs m g s n = 0 ∧ rzS xs m g s n = 0 ∧ rzB xs m g s n = false := by
  have e : rzB xs m g s n = false := h
  unfold rzL rzM rzG rzS
  rw [e]
  exact ⟨rfl, rfl, rfl, rfl, rfl⟩
theorem rz_yes {xs : List Itm} {m g s n : Int} (h : (vcB xs m g s && rgB n 1 8) = true) : rzL xs m g s n = xs.drop (xs.length - n.toNat) ∧ rzM xs m g s n = n ∧ rzG xs m g s n = g ∧ rzS xs m g s n = s ∧ rzB xs m g s n = true := by
  have e : rzB xs m g s n = true := h
  unfold rzL rzM rzG rzS
  rw [e]
  exact ⟨rfl, rfl, rfl, rfl, rfl⟩
theorem rg_yes {n lo hi : Int} (h : rgB n lo hi = true) : lo ≤ n ∧ n ≤ hi := by
  unfold rgB at h
  simpa using h
theorem rz_le (xs : List Itm) (m g s n : Int) : (rzL xs m g s n).length ≤ 10000000 := if_len fun h => by
  unfold rzB at h
  simp only [Bool.and_eq_true] at h
  have := valid_len (vc_yes h.1).1
  simp
  omega
theorem ShelfAt.set1 {w : World} {sb r : Nat} {m g s : Int} (h : ShelfAt w sb r m g s) (n : Int) : ShelfAt (w.setCell ⟨sb, 1, none⟩ (.int .i64 n)) sb r n g s := by
  unfold ShelfAt at h ⊢; rw [heap_setCell_same w sb 1 _ _ _ h]; rfl

set_option maxHeartbeats 1600000 in
set_option maxRecDepth 100000 in
theorem ResizeCache_any (v : Value) (xs : List Itm) (m g s n : Int) (w : World) (h : Items w v xs) :
    Calls Try.prog 75 #[.agg #[v, .int .i64 m, .int .i64 g, .int .i64 s], .int .i64 n] w (NewL (fun v => .tuple #[.agg #[v, .int .i64 (rzM xs m g s n), .int .i64 (rzG xs m g s n), .int .i64 (rzS xs m g s n)], .bool (rzB xs m g s n)]) (rzL xs m g s n) w) := by
  have h0 := Lib.hid h
  obtain ⟨ao, cap, rfl, hlc, hcm, _, _⟩ := h
  go_enter Try.func75, Try.ntmps75
  have HA : Hid (Below w.heap.size w ((w.alloc (.cells #[.slice ao xs.length cap, .int .i64 m, .int .i64 g, .int .i64 s] 65)).alloc (.cells #[.slice none 0 0, .int .i64 0, .int .i64 0, .int .i64 0] 65))) := ((Below.refl _ _).alloc (Nat.le_refl _) _).alloc (by simp) _
  have F0 := (Four.new w 65 (.slice ao xs.length cap) (.int .i64 m) (.int .i64 g) (.int .i64 s)).below (B := w.heap.size + 1) ((Below.refl _ _).alloc (by simp) (.cells #[.slice none 0 0, .int .i64 0, .int .i64 0, .int .i64 0] 65)) (by omega)
  have F1 := Four.new (w.alloc (.cells #[.slice ao xs.length cap, .int .i64 m, .int .i64 g, .int .i64 s] 65)) 65 (.slice none 0 0) (.int .i64 0) (.int .i64 0) (.int .i64 0)
  simp at F1
  have HF0 := Lib.hid F0
  have HF1 := Lib.hid F1
  clear F0 F1
  cases hv : vcB xs m g s
  all_goals
    have HV := Lib.hid hv
    clear hv
    go_wp2_with fail
    refine (VC_v _ (h0.out.mono HA.out (Nat.le_refl _)) HV.out).mono ?_
    rintro e w1 ⟨rfl, hb1⟩
    have hs1 := hb1.size
    simp at hs1 hb1
    have HG0 := Lib.hid (HF0.out.below hb1 (by omega))
    have HG1 := Lib.hid (HF1.out.below hb1 (by omega))
    have HB1 : Hid (Below w.heap.size w w1) := HA.out.trans (hb1.mono (by omega))
    clear hb1
  · have HL := Lib.hid (rz_no (n := n) (by rw [HV.out]; rfl))
    obtain ⟨c0, c1, c2, c3⟩ := HG1.out.cells
    obtain ⟨f0, f1, f2, f3⟩ := HG1.out.free
    go_wp2
    exact bodyPost_ret (v := .tuple #[.agg #[.slice none 0 0, .int .i64 0, .int .i64 0, .int .i64 0], .bool false]) (by simp [results, Try.results75, go_sem, c0, c1, c2, c3]) rfl ⟨_, ret_cb rfl HL.out.2.1.symm HL.out.2.2.1.symm HL.out.2.2.2.1.symm HL.out.2.2.2.2.symm, by rw [HL.out.1]; exact OwnI_nil _ _ _, by
      iterate 4 refine Below.setCell ?_ (by simp) _
      exact HB1.out⟩
  · have HY := Lib.hid (vc_yes HV.out)
    have hl := valid_len HY.out.1
    cases hr : rgB n 1 8
    all_goals
      have HRG := Lib.hid hr
      clear hr
      go_wp2_with fail
      refine (isMost_v _ HRG.out).mono ?_
      rintro e w2 ⟨rfl, rfl⟩
    · have HL := Lib.hid (rz_no (n := n) (xs := xs) (m := m) (g := g) (s := s) (by rw [HRG.out]; simp))
      obtain ⟨c0, c1, c2, c3⟩ := HG1.out.cells
      obtain ⟨f0, f1, f2, f3⟩ := HG1.out.free
      go_wp2
      exact bodyPost_ret (v := .tuple #[.agg #[.slice none 0 0, .int .i64 0, .int .i64 0, .int .i64 0], .bool false]) (by simp [results, Try.results75, go_sem, c0, c1, c2, c3]) rfl ⟨_, ret_cb rfl HL.out.2.1.symm HL.out.2.2.1.symm HL.out.2.2.2.1.symm HL.out.2.2.2.2.symm, by rw [HL.out.1]; exact OwnI_nil _ _ _, by
        iterate 4 refine Below.setCell ?_ (by simp) _
        exact HB1.out⟩
    · have HL := Lib.hid (rz_yes (n := n) (xs := xs) (m := m) (g := g) (s := s) (by rw [HV.out, HRG.out]; rfl))
      have HN := Lib.hid (rg_yes HRG.out)
      obtain ⟨a0, a1, a2, a3⟩ := HG0.out.cells
      go_wp2_with fail
      refine (shelfOf_any _ xs m g s _ (h0.out.mono HB1.out (Nat.le_refl _)) (by omega)).mono ?_
      rintro e w2 ⟨sb, r, rt, ns, rfl, hns, hS, hR, hb2, hsb⟩
      have hln : ns.length ≤ 100000 := by rw [← its_len, hns]; omega
      have e1 := hS.cells.2.1
      have f1 := hS.free 1
      have HS := Lib.hid (hS.set1 n)
      have HR := Lib.hid (hR.setOut (a := ⟨sb, 1, none⟩) (.inr rfl) (.int .i64 n))
      have HB2 : Hid (Below w1.heap.size w1 (w2.setCell ⟨sb, 1, none⟩ (.int .i64 n))) := hb2.setCell hsb _
      have HNS := Lib.hid hns
      clear hS hR hb2 hns a0 a1 a2 a3
      go_wp2_with fail
      refine (trim_any HS.out HR.out hln (.inr rfl) (by have := HN.out; omega)).mono ?_
      rintro e w3 ⟨rfl, hS3, hR3, hk3⟩
      have hln3 : (ns.drop (ns.length - n.toNat)).length ≤ 100000 := by simp; omega
      have HN3 : Hid (its (ns.drop (ns.length - n.toNat)) = xs.drop (xs.length - n.toNat)) := by
        unfold Hid
        rw [← HNS.out, its_len]
        show (ns.drop (ns.length - n.toNat)).map (·.2) = (ns.map (·.2)).drop (ns.length - n.toNat)
        rw [List.map_drop]
      have HS3 := Lib.hid hS3
      have HR3 := Lib.hid hR3
      have HK3 := Lib.hid hk3
      clear hS3 hR3 hk3 e1 f1
      go_wp2_with fail
      refine (cache_any HS3.out HR3.out hln3).mono ?_
      rintro e w4 ⟨v4, rfl, ho4, hb4⟩
      have hlt3 : w.heap.size + 1 < w3.heap.size := by have := HB2.out.size; have := HK3.out.size; omega
      have HG4 := ((HG1.out.below HB2.out (by omega)).keeps HK3.out (.inl (by omega))).below hb4 hlt3
      obtain ⟨c0, c1, c2, c3⟩ := HG4.cells
      obtain ⟨f0, f1, f2, f3⟩ := HG4.free
      obtain ⟨xo, xcap, rfl, _, _⟩ := own_slice ho4.1
      have HO4 := Lib.hid ho4
      have HB4 := Lib.hid hb4
      have HB3 : Hid (Below w.heap.size w w3) := HB1.out.trans ((HB2.out.trans (HK3.out.below (fun j hj => .inl hj))).mono HB1.out.size)
      generalize (its (ns.drop (ns.length - n.toNat))).length = L at *
      clear ho4 hb4 HG4
      go_wp2
      exact bodyPost_ret (v := .tuple #[.agg #[.slice xo L xcap, .int .i64 n, .int .i64 g, .int .i64 s], .bool true]) (by simp [results, Try.results75, go_sem, c0, c1, c2, c3]) rfl ⟨_, ret_cb rfl HL.out.2.1.symm HL.out.2.2.1.symm HL.out.2.2.2.1.symm HL.out.2.2.2.2.symm, by
        rw [HL.out.1, ← HN3.out]
        refine (HO4.out.past ?_).base (by omega)
        iterate 4 refine Keeps.past ?_ (by exact hlt3) _
        exact Keeps.refl _ _, by
        iterate 4 refine Below.setCell ?_ (by simp) _
        exact HB3.out.trans (HB4.out.mono HB3.out.size)⟩
end Go.Proofs.Ytfinniedlbkhcaa
