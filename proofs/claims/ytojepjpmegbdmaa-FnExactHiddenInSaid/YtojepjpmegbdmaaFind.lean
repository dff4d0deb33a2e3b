/-
  The program's search in a list of maps: place, find, often, hides.
-/
import Derived.Test.YtojepjpmegbdmaaBack
import Derived.Test.YtojepjpmegbdmaaImplP
import Derived.Test.YtojepjpmegbdmaaSOrd2
import Derived.Deep.RegionHeld3
namespace Go.Proofs.Ytojepjpmegbdmaa
open Go.RowKit

set_option maxHeartbeats 1600000 in
set_option maxRecDepth 100000 in
theorem childPlace_any {b : Nat} {u : Value} {xs : List Itm} {s : ByteArray} {r : Int} (w : World) (hb : b < w.heap.size) (hc : w.cell? ⟨b, 1, none⟩ = some u) (h : Items w u xs) (hr : plcI xs s 0 = r) :
    Calls Try.prog 149 #[.pointer (some ⟨b, 0, none⟩), .string s] w fun e w' => e = .returned (.int .i64 r) ∧ Below w.heap.size w w' := by
  subst hr
  have HI := Lib.hid (show Items w.drew u xs from h)
  obtain ⟨ao, cap, rfl, -⟩ := id h
  clear h
  go_enter Try.func149, Try.ntmps149
  go_wp2_with fail
  have HA := Lib.hid ((Below.refl w.heap.size w).drew.alloc (Nat.le_refl _) (.cells #[.string s] 9))
  go_region_held3 (fun w' : World => w'.cell? ⟨b, 1, none⟩ = some (.slice ao xs.length cap))
    (first | exact hc | assumption | exact hS1 | exact hS2)
    (first
      | (go_at_call 169; refine (hasKey_any s _).mono ?_; rintro e w1 ⟨rfl, rfl⟩; have hS1 := (HA.out.cell (p := ⟨b, 1, none⟩) hb).trans hc)
      | (go_at_call 158; refine (IndexFunc_any _ xs s _ _ (HI.out.mono ((Below.refl _ _).alloc (Nat.le_refl _) _) (Nat.le_refl _)) (heap_alloc_new _ _)).mono ?_; rintro e w2 ⟨rfl, hb2⟩; have hS2 := ((HA.out.trans (hb2.mono HA.out.size)).cell (p := ⟨b, 1, none⟩) hb).trans hc))
  all_goals
    have HB := Lib.hid (HA.out.trans (hb2.mono HA.out.size))
    go_wp2
    go_ret
    exact ⟨rfl, HB.out⟩

def whP : List (List Itm) → ByteArray → Int
  | [], _ => -1
  | l :: r, s => if hasI l s = true then 0 else if 0 ≤ whP r s then whP r s + 1 else whP r s
def itP : List (List Itm) → ByteArray → Itm
  | [], _ => zI
  | l :: r, s => if hasI l s = true then (s, cnt l s) else itP r s
theorem whP_cons (l : List Itm) (r : List (List Itm)) (s : ByteArray) : whP (l :: r) s = if hasI l s = true then 0 else if 0 ≤ whP r s then whP r s + 1 else whP r s := rfl
theorem itP_cons (l : List Itm) (r : List (List Itm)) (s : ByteArray) : itP (l :: r) s = if hasI l s = true then (s, cnt l s) else itP r s := rfl
theorem whP_lt (ls : List (List Itm)) (s : ByteArray) : -1 ≤ whP ls s ∧ whP ls s < ls.length := by
  induction ls with
  | nil => simp [whP]
  | cons l r ih =>
    unfold whP
    split
    · simp
    · split <;> simp <;> omega
theorem ret_xi {x y : Itm} {a b : Int} (h : x = y) (h' : a = b) : Ending.returned (.tuple #[.agg #[.string x.1, .int .i64 x.2], .int .i64 a]) = .returned (.tuple #[.agg #[.string y.1, .int .i64 y.2], .int .i64 b]) := by rw [h, h']

/-- A block of two cells. -/
def Duo (w : World) (b T : Nat) (u0 u1 : Value) : Prop := w.heap[b]? = some (.cells #[u0, u1] T (0, 0))
theorem Duo.cells {w : World} {b T : Nat} {u0 u1 : Value} (h : Duo w b T u0 u1) : w.cell? ⟨b, 0, none⟩ = some u0 ∧ w.cell? ⟨b, 1, none⟩ = some u1 := by
  unfold Duo at h
  exact ⟨by simp only [World.cell?, h]; rfl, by simp only [World.cell?, h]; rfl⟩
theorem Duo.free {w : World} {b T : Nat} {u0 u1 : Value} (h : Duo w b T u0 u1) : w.frozen? ⟨b, 0, none⟩ = false ∧ w.frozen? ⟨b, 1, none⟩ = false := by
  unfold Duo at h
  exact ⟨by simp [World.frozen?, h], by simp [World.frozen?, h]⟩
theorem Duo.below {w w' : World} {b T B : Nat} {u0 u1 : Value} (h : Duo w b T u0 u1) (hb : Below B w w') (hB : b < B) : Duo w' b T u0 u1 := by
  unfold Duo at h ⊢
  rw [hb.block b hB, h]
theorem Duo.new (w : World) (T : Nat) (u0 u1 : Value) : Duo (w.alloc (.cells #[u0, u1] T)) w.heap.size T u0 u1 := by
  unfold Duo
  rw [heap_alloc_new]
theorem Duo.lt {w : World} {b T : Nat} {u0 u1 : Value} (h : Duo w b T u0 u1) : b < w.heap.size := by
  unfold Duo at h
  exact (Array.getElem?_eq_some_iff.1 h).1

set_option maxHeartbeats 1600000 in
set_option maxRecDepth 100000 in
theorem find_par (s : ByteArray) (ls : List (List Itm)) : ∀ (p : Option Addr) (w : World), Par w p ls → ls.length ≤ 4 →
    Calls Try.prog 96 #[.agg #[.pointer p], .string s] w fun e w' => e = .returned (.tuple #[.agg #[.string (itP ls s).1, .int .i64 (itP ls s).2], .int .i64 (whP ls s)]) ∧ Below w.heap.size w w' := by
  induction ls with
  | nil =>
    intro p w hp _
    obtain rfl : p = none := hp
    have HA : Hid (Below w.heap.size w ((w.alloc (.cells #[.pointer none] 91)).alloc (.cells #[.string ⟨#[]⟩, .int .i64 0] 87))) := ((Below.refl _ _).alloc (Nat.le_refl _) _).alloc (by simp) _
    have F1' := Duo.new (w.alloc (.cells #[.pointer none] 91)) 87 (.string ⟨#[]⟩) (.int .i64 0)
    simp at F1'
    obtain ⟨c0, c1⟩ := F1'.cells
    obtain ⟨f0, f1⟩ := F1'.free
    clear F1'
    go_enter Try.func96, Try.ntmps96
    go_wp2_with fail
    exact bodyPost_ret (v := .tuple #[.agg #[.string ⟨#[]⟩, .int .i64 0], .int .i64 (-1)]) (by simp [results, Try.results96, go_sem, c0, c1]) rfl ⟨ret_xi (x := zI) (y := itP [] s) (a := -1) (b := whP [] s) rfl rfl, HA.out⟩
  | cons l r ih =>
    intro p w hp hl
    obtain ⟨b, q, u, rfl, -, hb, h0, h1, hI, -, hq⟩ := hp
    simp at hl
    have HA : Hid (Below w.heap.size w ((w.alloc (.cells #[.pointer (some ⟨b, 0, none⟩)] 91)).alloc (.cells #[.string ⟨#[]⟩, .int .i64 0] 87))) := ((Below.refl _ _).alloc (Nat.le_refl _) _).alloc (by simp) _
    have F0 := (One.new w 91 (.pointer (some ⟨b, 0, none⟩))).below (B := w.heap.size + 1) ((Below.refl _ _).alloc (by simp) (.cells #[.string ⟨#[]⟩, .int .i64 0] 87)) (by simp)
    have F1 := Duo.new (w.alloc (.cells #[.pointer (some ⟨b, 0, none⟩)] 91)) 87 (.string ⟨#[]⟩) (.int .i64 0)
    simp at F1
    go_enter Try.func96, Try.ntmps96
    go_wp2_with fail
    obtain ⟨w2, hw2⟩ : ∃ w2, ((w.alloc (.cells #[.pointer (some ⟨b, 0, none⟩)] 91)).alloc (.cells #[.string ⟨#[]⟩, .int .i64 0] 87)) = w2 := ⟨_, rfl⟩
    rw [hw2] at F0 F1 HA ⊢
    have hs2 : w2.heap.size = w.heap.size + 2 := by rw [← hw2]; simp
    clear hw2
    have d1 := (HA.out.cell (p := ⟨b, 1, none⟩) hb).trans h1
    cases hh : hasI l s
    · have HW := Lib.hid (show whP (l :: r) s = (if 0 ≤ whP r s then whP r s + 1 else whP r s) ∧ itP (l :: r) s = itP r s from ⟨by rw [whP_cons, hh]; rfl, by rw [itP_cons, hh]; rfl⟩)
      have hpn := plcI_no 0 hh
      refine (childPlace_any _ (by omega) d1 (hI.mono HA.out (Nat.le_refl _)) hpn).mono ?_
      rintro e w3 ⟨rfl, hb3⟩
      have HB3 := Lib.hid (HA.out.trans (hb3.mono HA.out.size))
      have G0 := F0.below hb3 F0.lt
      have G1 := F1.below hb3 F1.lt
      have d0 := (HB3.out.cell (p := ⟨b, 0, none⟩) hb).trans h0
      have c0 := G0.cell
      have hs3 := hb3.size
      have HQ := Lib.hid (Par.mono HB3.out (Nat.le_refl _) hq)
      clear d1 hb3 F0 F1
      have hwl := whP_lt r s
      go_wp2_with fail
      refine (ih q _ HQ.out (by omega)).mono ?_
      rintro e w4 ⟨rfl, hb4⟩
      have HB4 := Lib.hid (HB3.out.trans (hb4.mono HB3.out.size))
      have hA4 : Below w4.heap.size w4 (w4.alloc (.cells #[.string (itP r s).1, .int .i64 (itP r s).2] 87)) := (Below.refl _ _).alloc (Nat.le_refl _) _
      have K1 := (G1.below hb4 G1.lt).below hA4 (G1.below hb4 G1.lt).lt
      obtain ⟨e0, e1⟩ := K1.cells
      obtain ⟨f0, f1⟩ := K1.free
      have HC := Lib.hid (HB4.out.trans (hA4.mono HB4.out.size))
      clear c0 d0 hA4 hb4 K1 G0 G1
      by_cases hw : 0 ≤ whP r s
      · have HW2 := Lib.hid (HW.out.1.trans (if_pos hw))
        have hw1 : whP r s < 9223372036854775807 := by omega
        go_wp2_with fail
        exact bodyPost_ret (v := .tuple #[.agg #[.string (itP r s).1, .int .i64 (itP r s).2], .int .i64 (whP r s + 1)]) (by simp [results, Try.results96, go_sem, e0, e1]) rfl ⟨ret_xi HW.out.2.symm HW2.out.symm, (HC.out.setCell (by simp) _).setCell (by simp) _⟩
      · have HW2 := Lib.hid (HW.out.1.trans (if_neg hw))
        go_wp2_with fail
        exact bodyPost_ret (v := .tuple #[.agg #[.string (itP r s).1, .int .i64 (itP r s).2], .int .i64 (whP r s)]) (by simp [results, Try.results96, go_sem, e0, e1]) rfl ⟨ret_xi HW.out.2.symm HW2.out.symm, (HC.out.setCell (by simp) _).setCell (by simp) _⟩
    · have HW := Lib.hid (show whP (l :: r) s = 0 ∧ itP (l :: r) s = (s, cnt l s) from ⟨by rw [whP_cons, hh]; rfl, by rw [itP_cons, hh]; rfl⟩)
      obtain ⟨k, hk, hpk, hlk⟩ := plcI_yes 0 hh
      simp only [Nat.add_zero] at hpk
      refine (childPlace_any _ (by omega) d1 (hI.mono HA.out (Nat.le_refl _)) hpk).mono ?_
      rintro e w3 ⟨rfl, hb3⟩
      have HB3 := Lib.hid (HA.out.trans (hb3.mono HA.out.size))
      have G0 := F0.below hb3 F0.lt
      have G1 := F1.below hb3 F1.lt
      have d0 := (HB3.out.cell (p := ⟨b, 1, none⟩) hb).trans h1
      have c0 := G0.cell
      obtain ⟨e0, e1⟩ := G1.cells
      obtain ⟨f0, f1⟩ := G1.free
      obtain ⟨b', o, cap, rfl, hlc, hcm, _, t0, t1⟩ := (hI.mono HB3.out (Nat.le_refl _)).at hk
      rw [hlk] at t0 t1
      have hs3 := hb3.size
      clear d1 hb3 F0 F1 hI h0 h1 hq G0 G1
      go_wp2_with fail
      exact bodyPost_ret (v := .tuple #[.agg #[.string s, .int .i64 (cnt l s)], .int .i64 0]) (by simp [results, Try.results96, go_sem, e0, e1]) rfl ⟨ret_xi (x := (s, cnt l s)) HW.out.2.symm HW.out.1.symm, (HB3.out.setCell (by simp) _).setCell (by simp) _⟩

/-! ### how many have it -/
def oftP : List (List Itm) → ByteArray → Int
  | [], _ => 0
  | l :: r, s => if hasI l s = true then oftP r s + 1 else oftP r s
theorem oftP_cons (l : List Itm) (r : List (List Itm)) (s : ByteArray) : oftP (l :: r) s = if hasI l s = true then oftP r s + 1 else oftP r s := rfl
theorem oftP_le (ls : List (List Itm)) (s : ByteArray) : 0 ≤ oftP ls s ∧ oftP ls s ≤ ls.length := by
  induction ls with
  | nil => simp [oftP]
  | cons l r ih =>
    rw [oftP_cons]
    split <;> simp <;> omega
theorem ret_i {a b : Int} (h : a = b) : Ending.returned (.int .i64 a) = .returned (.int .i64 b) := by rw [h]

set_option maxHeartbeats 1600000 in
set_option maxRecDepth 100000 in
theorem often_par (s : ByteArray) (ls : List (List Itm)) : ∀ (p : Option Addr) (w : World), Par w p ls → ls.length ≤ 4 →
    Calls Try.prog 119 #[.agg #[.pointer p], .string s] w fun e w' => e = .returned (.int .i64 (oftP ls s)) ∧ Below w.heap.size w w' := by
  induction ls with
  | nil =>
    intro p w hp _
    obtain rfl : p = none := hp
    have HA : Hid (Below w.heap.size w (w.alloc (.cells #[.pointer none] 91))) := (Below.refl _ _).alloc (Nat.le_refl _) _
    go_enter Try.func119, Try.ntmps119
    go_wp2_with fail
    go_ret
    exact ⟨rfl, HA.out⟩
  | cons l r ih =>
    intro p w hp hl
    obtain ⟨b, q, u, rfl, -, hb, h0, h1, hI, -, hq⟩ := hp
    simp at hl
    have HA : Hid (Below w.heap.size w (w.alloc (.cells #[.pointer (some ⟨b, 0, none⟩)] 91))) := (Below.refl _ _).alloc (Nat.le_refl _) _
    have F0 := One.new w 91 (.pointer (some ⟨b, 0, none⟩))
    have d0 := (HA.out.cell (p := ⟨b, 0, none⟩) hb).trans h0
    go_enter Try.func119, Try.ntmps119
    go_wp2_with fail
    clear d0
    obtain ⟨w2, hw2⟩ : ∃ w2, w.alloc (.cells #[.pointer (some ⟨b, 0, none⟩)] 91) = w2 := ⟨_, rfl⟩
    rw [hw2] at F0 HA ⊢
    have hs2 : w2.heap.size = w.heap.size + 1 := by rw [← hw2]; simp
    clear hw2
    refine (ih q _ (Par.mono HA.out (Nat.le_refl _) hq) (by omega)).mono ?_
    rintro e w3 ⟨rfl, hb3⟩
    have HB3 := Lib.hid (HA.out.trans (hb3.mono HA.out.size))
    have G0 := F0.below hb3 F0.lt
    have c0 := G0.cell
    have d1 := (HB3.out.cell (p := ⟨b, 1, none⟩) hb).trans h1
    have HI := Lib.hid (hI.mono HB3.out (Nat.le_refl _))
    have hol := oftP_le r s
    have hs3 := hb3.size
    clear hb3 F0 h0 h1 hI hq ih
    cases hh : hasI l s
    · have HW := Lib.hid (show oftP (l :: r) s = oftP r s by rw [oftP_cons, hh]; rfl)
      have hpn := plcI_no 0 hh
      go_wp2_with fail
      refine (childPlace_any _ (by omega) d1 HI.out hpn).mono ?_
      rintro e w4 ⟨rfl, hb4⟩
      have HB4 := Lib.hid (HB3.out.trans (hb4.mono HB3.out.size))
      go_wp2_with fail
      go_ret
      exact ⟨ret_i HW.out.symm, HB4.out⟩
    · have HW := Lib.hid (show oftP (l :: r) s = oftP r s + 1 by rw [oftP_cons, hh]; rfl)
      obtain ⟨k, hk, hpk, -⟩ := plcI_yes 0 hh
      simp only [Nat.add_zero] at hpk
      go_wp2_with fail
      refine (childPlace_any _ (by omega) d1 HI.out hpk).mono ?_
      rintro e w4 ⟨rfl, hb4⟩
      have HB4 := Lib.hid (HB3.out.trans (hb4.mono HB3.out.size))
      go_wp2_with fail
      go_ret
      exact ⟨ret_i HW.out.symm, HB4.out⟩
end Go.Proofs.Ytojepjpmegbdmaa
