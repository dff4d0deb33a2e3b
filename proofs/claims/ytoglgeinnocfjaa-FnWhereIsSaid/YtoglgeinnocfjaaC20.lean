/-
  Find, Where, HowO, Hid, Flat, ChL, CGet, Deep, DeepD, Hid2.
-/
import Derived.Deep.RegionHeld3
import Derived.Test.YtoglgeinnocfjaaC5
import Derived.Test.YtoglgeinnocfjaaC7
import Derived.Test.YtoglgeinnocfjaaC11
import Derived.Test.YtoglgeinnocfjaaC15
import Derived.Test.YtoglgeinnocfjaaC17
import Derived.Test.YtoglgeinnocfjaaC18
import Derived.Test.YtoglgeinnocfjaaC19
/-
  The program's search in a list of maps: place, find, often, hides.
-/
namespace Go.Proofs.Ytoglgeinnocfjaa
open Go.RowKit

set_option maxHeartbeats 1600000 in
set_option maxRecDepth 100000 in
theorem childPlace_any {b : Nat} {u : Value} {xs : List Itm} {s : ByteArray} {r : Int} (w : World) (hb : b < w.heap.size) (hc : w.cell? ⟨b, 1, none⟩ = some u) (h : Items w u xs) (hr : plcI xs s 0 = r) :
    Calls Try.prog 129 #[.pointer (some ⟨b, 0, none⟩), .string s] w fun e w' => e = .returned (.int .i64 r) ∧ Below w.heap.size w w' := by
  subst hr
  have HI := Lib.hid (show Items w.drew u xs from h)
  obtain ⟨ao, cap, rfl, -⟩ := id h
  clear h
  go_enter Try.func129, Try.ntmps129
  go_wp2_with fail
  have HA := Lib.hid ((Below.refl w.heap.size w).drew.alloc (Nat.le_refl _) (.cells #[.string s] 9))
  go_region_held3 (fun w' : World => w'.cell? ⟨b, 1, none⟩ = some (.slice ao xs.length cap))
    (first | exact hc | assumption | exact hS1 | exact hS2)
    (first
      | (go_at_call 103; refine (hasKey_any s _).mono ?_; rintro e w1 ⟨rfl, rfl⟩; have hS1 := (HA.out.cell (p := ⟨b, 1, none⟩) hb).trans hc)
      | (go_at_call 102; refine (IndexFunc_any _ xs s _ _ (HI.out.mono ((Below.refl _ _).alloc (Nat.le_refl _) _) (Nat.le_refl _)) (heap_alloc_new _ _)).mono ?_; rintro e w2 ⟨rfl, hb2⟩; have hS2 := ((HA.out.trans (hb2.mono HA.out.size)).cell (p := ⟨b, 1, none⟩) hb).trans hc))
  all_goals
    have HB := Lib.hid (HA.out.trans (hb2.mono HA.out.size))
    go_wp2
    go_ret
    exact ⟨rfl, HB.out⟩

def whP : List (List Itm) → ByteArray → Int
  | [], _ => -1
  | l :: r, s => if hasI l s = true then 0 else if 0 ≤ whP r s then whP r s + 1 else whP r s
def itP : List (List Itm) → ByteArray → Itm
  | [], _ => zI
  | l :: r, s => if hasI l s = true then (s, cnt l s) else itP r s
theorem whP_cons (l : List Itm) (r : List (List Itm)) (s : ByteArray) : whP (l :: r) s = if hasI l s = true then 0 else if 0 ≤ whP r s then whP r s + 1 else whP r s := rfl
theorem itP_cons (l : List Itm) (r : List (List Itm)) (s : ByteArray) : itP (l :: r) s = if hasI l s = true then (s, cnt l s) else itP r s := rfl
theorem whP_lt (ls : List (List Itm)) (s : ByteArray) : -1 ≤ whP ls s ∧ whP ls s < ls.length := by
  induction ls with
  | nil => simp [whP]
  | cons l r ih =>
    unfold whP
    split
    · simp
    · split <;> simp <;> omega
theorem ret_xi {x y : Itm} {a b : Int} (h : x = y) (h' : a = b) : Ending.returned (.tuple #[.agg #[.string x.1, .int .i64 x.2], .int .i64 a]) = .returned (.tuple #[.agg #[.string y.1, .int .i64 y.2], .int .i64 b]) := by rw [h, h']

/-- A block of two cells. -/
def Duo (w : World) (b T : Nat) (u0 u1 : Value) : Prop := w.heap[b]? = some (.cells #[u0, u1] T (0, 0))
theorem Duo.cells {w : World} {b T : Nat} {u0 u1 : Value} (h : Duo w b T u0 u1) : w.cell? ⟨b, 0, none⟩ = some u0 ∧ w.cell? ⟨b, 1, none⟩ = some u1 := by
  unfold Duo at h
  exact ⟨by simp only [World.cell?, h]; rfl, by simp only [World.cell?, h]; rfl⟩
theorem Duo.free {w : World} {b T : Nat} {u0 u1 : Value} (h : Duo w b T u0 u1) : w.frozen? ⟨b, 0, none⟩ = false ∧ w.frozen? ⟨b, 1, none⟩ = false := by
  unfold Duo at h
  exact ⟨by simp [World.frozen?, h], by simp [World.frozen?, h]⟩
theorem Duo.below {w w' : World} {b T B : Nat} {u0 u1 : Value} (h : Duo w b T u0 u1) (hb : Below B w w') (hB : b < B) : Duo w' b T u0 u1 := by
  unfold Duo at h ⊢
  rw [hb.block b hB, h]
theorem Duo.new (w : World) (T : Nat) (u0 u1 : Value) : Duo (w.alloc (.cells #[u0, u1] T)) w.heap.size T u0 u1 := by
  unfold Duo
  rw [heap_alloc_new]
theorem Duo.lt {w : World} {b T : Nat} {u0 u1 : Value} (h : Duo w b T u0 u1) : b < w.heap.size := by
  unfold Duo at h
  exact (Array.getElem?_eq_some_iff.1 h).1

set_option maxHeartbeats 1600000 in
set_option maxRecDepth 100000 in
theorem find_par (s : ByteArray) (ls : List (List Itm)) : ∀ (p : Option Addr) (w : World), Par w p ls → ls.length ≤ 4 →
    Calls Try.prog 100 #[.agg #[.pointer p], .string s] w fun e w' => e = .returned (.tuple #[.agg #[.string (itP ls s).1, .int .i64 (itP ls s).2], .int .i64 (whP ls s)]) ∧ Below w.heap.size w w' := by
  induction ls with
  | nil =>
    intro p w hp _
    obtain rfl : p = none := hp
    have HA : Hid (Below w.heap.size w ((w.alloc (.cells #[.pointer none] 103)).alloc (.cells #[.string ⟨#[]⟩, .int .i64 0] 74))) := ((Below.refl _ _).alloc (Nat.le_refl _) _).alloc (by simp) _
    have F1' := Duo.new (w.alloc (.cells #[.pointer none] 103)) 74 (.string ⟨#[]⟩) (.int .i64 0)
    simp at F1'
    obtain ⟨c0, c1⟩ := F1'.cells
    obtain ⟨f0, f1⟩ := F1'.free
    clear F1'
    go_enter Try.func100, Try.ntmps100
    go_wp2_with fail
    exact bodyPost_ret (v := .tuple #[.agg #[.string ⟨#[]⟩, .int .i64 0], .int .i64 (-1)]) (by simp [results, Try.results100, go_sem, c0, c1]) rfl ⟨ret_xi (x := zI) (y := itP [] s) (a := -1) (b := whP [] s) rfl rfl, HA.out⟩
  | cons l r ih =>
    intro p w hp hl
    obtain ⟨b, q, u, rfl, -, hb, h0, h1, hI, -, hq⟩ := hp
    simp at hl
    have HA : Hid (Below w.heap.size w ((w.alloc (.cells #[.pointer (some ⟨b, 0, none⟩)] 103)).alloc (.cells #[.string ⟨#[]⟩, .int .i64 0] 74))) := ((Below.refl _ _).alloc (Nat.le_refl _) _).alloc (by simp) _
    have F0 := (One.new w 103 (.pointer (some ⟨b, 0, none⟩))).below (B := w.heap.size + 1) ((Below.refl _ _).alloc (by simp) (.cells #[.string ⟨#[]⟩, .int .i64 0] 74)) (by simp)
    have F1 := Duo.new (w.alloc (.cells #[.pointer (some ⟨b, 0, none⟩)] 103)) 74 (.string ⟨#[]⟩) (.int .i64 0)
    simp at F1
    go_enter Try.func100, Try.ntmps100
    go_wp2_with fail
    obtain ⟨w2, hw2⟩ : ∃ w2, ((w.alloc (.cells #[.pointer (some ⟨b, 0, none⟩)] 103)).alloc (.cells #[.string ⟨#[]⟩, .int .i64 0] 74)) = w2 := ⟨_, rfl⟩
    rw [hw2] at F0 F1 HA ⊢
    have hs2 : w2.heap.size = w.heap.size + 2 := by rw [← hw2]; simp
    clear hw2
    have d1 := (HA.out.cell (p := ⟨b, 1, none⟩) hb).trans h1
    cases hh : hasI l s
    · have HW := Lib.hid (show whP (l :: r) s = (if 0 ≤ whP r s then whP r s + 1 else whP r s) ∧ itP (l :: r) s = itP r s from ⟨by rw [whP_cons, hh]; rfl, by rw [itP_cons, hh]; rfl⟩)
      have hpn := plcI_no 0 hh
      refine (childPlace_any _ (by omega) d1 (hI.mono HA.out (Nat.le_refl _)) hpn).mono ?_
      rintro e w3 ⟨rfl, hb3⟩
      have HB3 := Lib.hid (HA.out.trans (hb3.mono HA.out.size))
      have G0 := F0.below hb3 F0.lt
      have G1 := F1.below hb3 F1.lt
      have d0 := (HB3.out.cell (p := ⟨b, 0, none⟩) hb).trans h0
      have c0 := G0.cell
      have hs3 := hb3.size
      have HQ := Lib.hid (Par.mono HB3.out (Nat.le_refl _) hq)
      clear d1 hb3 F0 F1
      have hwl := whP_lt r s
      go_wp2_with fail
      refine (ih q _ HQ.out (by omega)).mono ?_
      rintro e w4 ⟨rfl, hb4⟩
      have HB4 := Lib.hid (HB3.out.trans (hb4.mono HB3.out.size))
      have hA4 : Below w4.heap.size w4 (w4.alloc (.cells #[.string (itP r s).1, .int .i64 (itP r s).2] 74)) := (Below.refl _ _).alloc (Nat.le_refl _) _
      have K1 := (G1.below hb4 G1.lt).below hA4 (G1.below hb4 G1.lt).lt
      obtain ⟨e0, e1⟩ := K1.cells
      obtain ⟨f0, f1⟩ := K1.free
      have HC := Lib.hid (HB4.out.trans (hA4.mono HB4.out.size))
      clear c0 d0 hA4 hb4 K1 G0 G1
      by_cases hw : 0 ≤ whP r s
      · have HW2 := Lib.hid (HW.out.1.trans (if_pos hw))
        have hw1 : whP r s < 9223372036854775807 := by omega
        go_wp2_with fail
        exact bodyPost_ret (v := .tuple #[.agg #[.string (itP r s).1, .int .i64 (itP r s).2], .int .i64 (whP r s + 1)]) (by simp [results, Try.results100, go_sem, e0, e1]) rfl ⟨ret_xi HW.out.2.symm HW2.out.symm, (HC.out.setCell (by simp) _).setCell (by simp) _⟩
      · have HW2 := Lib.hid (HW.out.1.trans (if_neg hw))
        go_wp2_with fail
        exact bodyPost_ret (v := .tuple #[.agg #[.string (itP r s).1, .int .i64 (itP r s).2], .int .i64 (whP r s)]) (by simp [results, Try.results100, go_sem, e0, e1]) rfl ⟨ret_xi HW.out.2.symm HW2.out.symm, (HC.out.setCell (by simp) _).setCell (by simp) _⟩
    · have HW := Lib.hid (show whP (l :: r) s = 0 ∧ itP (l :: r) s = (s, cnt l s) from ⟨by rw [whP_cons, hh]; rfl, by rw [itP_cons, hh]; rfl⟩)
      obtain ⟨k, hk, hpk, hlk⟩ := plcI_yes 0 hh
      simp only [Nat.add_zero] at hpk
      refine (childPlace_any _ (by omega) d1 (hI.mono HA.out (Nat.le_refl _)) hpk).mono ?_
      rintro e w3 ⟨rfl, hb3⟩
      have HB3 := Lib.hid (HA.out.trans (hb3.mono HA.out.size))
      have G0 := F0.below hb3 F0.lt
      have G1 := F1.below hb3 F1.lt
      have d0 := (HB3.out.cell (p := ⟨b, 1, none⟩) hb).trans h1
      have c0 := G0.cell
      obtain ⟨e0, e1⟩ := G1.cells
      obtain ⟨f0, f1⟩ := G1.free
      obtain ⟨b', o, cap, rfl, hlc, hcm, _, t0, t1⟩ := (hI.mono HB3.out (Nat.le_refl _)).at hk
      rw [hlk] at t0 t1
      have hs3 := hb3.size
      clear d1 hb3 F0 F1 hI h0 h1 hq G0 G1
      go_wp2_with fail
      exact bodyPost_ret (v := .tuple #[.agg #[.string s, .int .i64 (cnt l s)], .int .i64 0]) (by simp [results, Try.results100, go_sem, e0, e1]) rfl ⟨ret_xi (x := (s, cnt l s)) HW.out.2.symm HW.out.1.symm, (HB3.out.setCell (by simp) _).setCell (by simp) _⟩

/-! ### how many have it -/
def oftP : List (List Itm) → ByteArray → Int
  | [], _ => 0
  | l :: r, s => if hasI l s = true then oftP r s + 1 else oftP r s
theorem oftP_cons (l : List Itm) (r : List (List Itm)) (s : ByteArray) : oftP (l :: r) s = if hasI l s = true then oftP r s + 1 else oftP r s := rfl
theorem oftP_le (ls : List (List Itm)) (s : ByteArray) : 0 ≤ oftP ls s ∧ oftP ls s ≤ ls.length := by
  induction ls with
  | nil => simp [oftP]
  | cons l r ih =>
    rw [oftP_cons]
    split <;> simp <;> omega
theorem ret_i {a b : Int} (h : a = b) : Ending.returned (.int .i64 a) = .returned (.int .i64 b) := by rw [h]

set_option maxHeartbeats 1600000 in
set_option maxRecDepth 100000 in
theorem often_par (s : ByteArray) (ls : List (List Itm)) : ∀ (p : Option Addr) (w : World), Par w p ls → ls.length ≤ 4 →
    Calls Try.prog 104 #[.agg #[.pointer p], .string s] w fun e w' => e = .returned (.int .i64 (oftP ls s)) ∧ Below w.heap.size w w' := by
  induction ls with
  | nil =>
    intro p w hp _
    obtain rfl : p = none := hp
    have HA : Hid (Below w.heap.size w (w.alloc (.cells #[.pointer none] 103))) := (Below.refl _ _).alloc (Nat.le_refl _) _
    go_enter Try.func104, Try.ntmps104
    go_wp2_with fail
    go_ret
    exact ⟨rfl, HA.out⟩
  | cons l r ih =>
    intro p w hp hl
    obtain ⟨b, q, u, rfl, -, hb, h0, h1, hI, -, hq⟩ := hp
    simp at hl
    have HA : Hid (Below w.heap.size w (w.alloc (.cells #[.pointer (some ⟨b, 0, none⟩)] 103))) := (Below.refl _ _).alloc (Nat.le_refl _) _
    have F0 := One.new w 103 (.pointer (some ⟨b, 0, none⟩))
    have d0 := (HA.out.cell (p := ⟨b, 0, none⟩) hb).trans h0
    go_enter Try.func104, Try.ntmps104
    go_wp2_with fail
    clear d0
    obtain ⟨w2, hw2⟩ : ∃ w2, w.alloc (.cells #[.pointer (some ⟨b, 0, none⟩)] 103) = w2 := ⟨_, rfl⟩
    rw [hw2] at F0 HA ⊢
    have hs2 : w2.heap.size = w.heap.size + 1 := by rw [← hw2]; simp
    clear hw2
    refine (ih q _ (Par.mono HA.out (Nat.le_refl _) hq) (by omega)).mono ?_
    rintro e w3 ⟨rfl, hb3⟩
    have HB3 := Lib.hid (HA.out.trans (hb3.mono HA.out.size))
    have G0 := F0.below hb3 F0.lt
    have c0 := G0.cell
    have d1 := (HB3.out.cell (p := ⟨b, 1, none⟩) hb).trans h1
    have HI := Lib.hid (hI.mono HB3.out (Nat.le_refl _))
    have hol := oftP_le r s
    have hs3 := hb3.size
    clear hb3 F0 h0 h1 hI hq ih
    cases hh : hasI l s
    · have HW := Lib.hid (show oftP (l :: r) s = oftP r s by rw [oftP_cons, hh]; rfl)
      have hpn := plcI_no 0 hh
      go_wp2_with fail
      refine (childPlace_any _ (by omega) d1 HI.out hpn).mono ?_
      rintro e w4 ⟨rfl, hb4⟩
      have HB4 := Lib.hid (HB3.out.trans (hb4.mono HB3.out.size))
      go_wp2_with fail
      go_ret
      exact ⟨ret_i HW.out.symm, HB4.out⟩
    · have HW := Lib.hid (show oftP (l :: r) s = oftP r s + 1 by rw [oftP_cons, hh]; rfl)
      obtain ⟨k, hk, hpk, -⟩ := plcI_yes 0 hh
      simp only [Nat.add_zero] at hpk
      go_wp2_with fail
      refine (childPlace_any _ (by omega) d1 HI.out hpk).mono ?_
      rintro e w4 ⟨rfl, hb4⟩
      have HB4 := Lib.hid (HB3.out.trans (hb4.mono HB3.out.size))
      go_wp2_with fail
      go_ret
      exact ⟨ret_i HW.out.symm, HB4.out⟩
end Go.Proofs.Ytoglgeinnocfjaa
/-
  The first map that has a key, how many have it: by the model and by the program.
-/
namespace Go.Proofs.Ytoglgeinnocfjaa
open Go.RowKit

/-- The first map that has a key, counted from i. -/
def whQ : List (List Itm) → ByteArray → Nat → Int
  | [], _, _ => -1
  | l :: r, s, i => if hasI l s = true then i else whQ r s (i + 1)
theorem whQ_eq (ls : List (List Itm)) (s : ByteArray) : ∀ i : Nat, whQ ls s i = if 0 ≤ whP ls s then whP ls s + i else whP ls s := by
  induction ls with
  | nil => intro i; rfl
  | cons l r ih =>
    intro i
    rw [whP_cons]
    unfold whQ
    rw [ih]
    have := whP_lt r s
    split
    · simp
    · by_cases hw : 0 ≤ whP r s
      · rw [if_pos hw, if_pos hw, if_pos (by omega)]
        push_cast
        omega
      · rw [if_neg hw, if_neg hw, if_neg hw]
theorem whQ_zero (ls : List (List Itm)) (s : ByteArray) : whQ ls s 0 = whP ls s := by
  rw [whQ_eq]
  split <;> simp
def whC (ls : List (List Itm)) (s : ByteArray) : Int := if validC ls = true then whP ls s else -1
theorem whC_no {ls : List (List Itm)} {s : ByteArray} (h : validC ls = false) : whC ls s = -1 := by unfold whC; rw [h]; rfl
theorem whC_yes {ls : List (List Itm)} {s : ByteArray} (h : validC ls = true) : whC ls s = whP ls s := by unfold whC; rw [h]; rfl
theorem whQ_step {ls : List (List Itm)} {s : ByteArray} {k : Nat} (h : k < ls.length) (H : Hid (whP ls s = whQ (ls.drop k) s k)) (hh : hasI ls[k] s = false) : Hid (whP ls s = whQ (ls.drop (k + 1)) s (k + 1)) := by
  unfold Hid
  rw [H.out, List.drop_eq_getElem_cons h]
  show (if hasI ls[k] s = true then (k : Int) else whQ (ls.drop (k + 1)) s (k + 1)) = _
  rw [hh]
  rfl
theorem whQ_at {ls : List (List Itm)} {s : ByteArray} {k : Nat} (h : k < ls.length) (H : Hid (whP ls s = whQ (ls.drop k) s k)) (hh : hasI ls[k] s = true) : (k : Int) = whP ls s := by
  rw [H.out, List.drop_eq_getElem_cons h]
  show _ = (if hasI ls[k] s = true then (k : Int) else whQ (ls.drop (k + 1)) s (k + 1))
  rw [hh]
  rfl

set_option maxHeartbeats 1600000 in
set_option maxRecDepth 100000 in
theorem where_any {v : Value} {ls : List (List Itm)} {s : ByteArray} {r : Int} (w : World) (h : Maps w v ls) (hr : whP ls s = r) :
    Calls Try.prog 101 #[.agg #[v], .string s] w fun e w' => e = .returned (.int .i64 r) ∧ Below w.heap.size w w' := by
  subst hr
  have hM := Lib.hid h
  obtain ⟨ao, cap, rfl, hlc, hcm⟩ := h.slice
  clear h
  go_enter Try.func101, Try.ntmps101
  have HA : Hid (Below w.heap.size w (w.alloc (.cells #[.slice ao ls.length cap] 51))) := (Below.refl _ _).alloc (Nat.le_refl _) _
  have HF := Lib.hid (One.new w 51 (.slice ao ls.length cap))
  go_wp2_with fail
  go_loopw [5] (fun i wr => ∃ k : Nat, k ≤ ls.length ∧ i = .int .i64 k ∧ Hid (whP ls s = whQ (ls.drop k) s k) ∧ Hid (Below w.heap.size w wr) ∧ Hid (One wr w.heap.size 51 (.slice ao ls.length cap))) (fun i _ => ls.length - (intOf i).toNat)
  case atStart => exact ⟨0, Nat.zero_le _, rfl, (whQ_zero ls s).symm, HA.out, HF.out⟩
  case round =>
    obtain ⟨k, hk, rfl, HG, HB, HO⟩ := hrel
    have c0 := HO.out.cell
    by_cases hlt : k < ls.length
    · obtain ⟨b, o, cap', u, e, hb, h1, hI⟩ := hM.out.at hlt
      simp only [Value.slice.injEq] at e
      obtain ⟨rfl, _, rfl⟩ := e
      have c1 := (HB.out.cell (p := ⟨b, _, none⟩) hb).trans h1
      have HI := Lib.hid (hI.mono HB.out (Nat.le_refl _))
      clear h1 hI
      cases hh : hasI ls[k] s
      · have HS := whQ_step hlt HG hh
        go_wp2_with fail
        refine (place_no _ HI.out hh).mono ?_
        rintro e w1 ⟨rfl, rfl⟩
        go_wp2
        go_roundw
        case rel => exact ⟨k + 1, by omega, by go_num, HS, HB, HO⟩
        case measure => simp [intOf]; omega
      · have HS := Lib.hid (whQ_at hlt HG hh)
        obtain ⟨j, hj, hpj, -⟩ := placeI_at ls[k] s 0 hh
        simp only [Nat.add_zero] at hpj
        go_wp2_with fail
        refine (place_at _ HI.out hpj).mono ?_
        rintro e w1 ⟨rfl, rfl⟩
        go_wp2
        go_ret
        exact ⟨ret_i HS.out, HB.out⟩
    · obtain rfl : k = ls.length := by omega
      have HS : Hid ((-1 : Int) = whP ls s) := by
        have := HG.out
        rw [List.drop_length] at this
        exact this.symm
      go_wp2
      go_ret
      exact ⟨ret_i HS.out, HB.out⟩

set_option maxHeartbeats 800000 in
set_option maxRecDepth 100000 in
theorem sWhereIs_any (v : Value) (ls : List (List Itm)) (s : ByteArray) (w : World) (h : Maps w v ls) :
    Calls Try.prog 47 #[.agg #[v], .string s] w (RetQ (.int .i64 (whC ls s)) w) := by
  have hM := Lib.hid h
  obtain ⟨ao, cap, rfl, hlc, hcm⟩ := h.slice
  clear h
  go_enter Try.func47, Try.ntmps47
  have HA : Hid (Below w.heap.size w (w.alloc (.cells #[.slice ao ls.length cap] 51))) := (Below.refl _ _).alloc (Nat.le_refl _) _
  have F0 := Lib.hid (One.new w 51 (.slice ao ls.length cap))
  cases hv : validC ls
  all_goals
    have HV := Lib.hid hv
    clear hv
    go_wp2_with fail
    refine (svC_v _ (hM.out.mono HA.out (Nat.le_refl _)) HV.out).mono ?_
    rintro e w1 ⟨rfl, hb1⟩
    have hw1 := Lib.hid (HA.out.trans (hb1.mono HA.out.size))
    have c0 := (F0.out.below hb1 F0.out.lt).cell
    clear hb1
  · have HC := Lib.hid (whC_no (s := s) HV.out)
    go_wp2
    go_ret
    exact ⟨ret_i HC.out.symm, hw1.out⟩
  · have HC := Lib.hid (whC_yes (s := s) HV.out)
    go_wp2_with fail
    refine (where_any _ (hM.out.mono hw1.out (Nat.le_refl _)) rfl).mono ?_
    rintro e w2 ⟨rfl, hb2⟩
    go_wp2
    go_ret
    exact ⟨ret_i HC.out.symm, hw1.out.trans (hb2.mono hw1.out.size)⟩

set_option maxHeartbeats 800000 in
set_option maxRecDepth 100000 in
theorem WhereIs_any (v : Value) (ls : List (List Itm)) (s : ByteArray) (w : World) (h : Maps w v ls) :
    Calls Try.prog 46 #[.agg #[v], .string s] w (RetQ (.int .i64 (whC ls s)) w) := by
  have hM := Lib.hid h
  obtain ⟨ao, cap, rfl, hlc, hcm⟩ := h.slice
  clear h
  go_enter Try.func46, Try.ntmps46
  have HA : Hid (Below w.heap.size w (w.alloc (.cells #[.slice ao ls.length cap] 51))) := (Below.refl _ _).alloc (Nat.le_refl _) _
  have F0 := Lib.hid (One.new w 51 (.slice ao ls.length cap))
  cases hv : validC ls
  all_goals
    have HV := Lib.hid hv
    clear hv
    go_wp2_with fail
    refine (vC_v _ (hM.out.mono HA.out (Nat.le_refl _)) HV.out).mono ?_
    rintro e w1 ⟨rfl, hb1⟩
    have hw1 := Lib.hid (HA.out.trans (hb1.mono HA.out.size))
    have c0 := (F0.out.below hb1 F0.out.lt).cell
    clear hb1
  · have HC := Lib.hid (whC_no (s := s) HV.out)
    go_wp2
    go_ret
    exact ⟨ret_i HC.out.symm, hw1.out⟩
  · have HC := Lib.hid (whC_yes (s := s) HV.out)
    have hl := validC_iff.1 HV.out
    go_wp2_with fail
    refine (parentOf_any _ ls _ (hM.out.mono hw1.out (Nat.le_refl _)) (by omega) (by omega)).mono ?_
    rintro e w2 ⟨q, rfl, hp, hb2⟩
    have hw2 := Lib.hid (hw1.out.trans (hb2.mono hw1.out.size))
    have HP := Lib.hid hp
    clear hp hb2 c0
    go_wp2_with fail
    refine (find_par s ls q _ HP.out (by omega)).mono ?_
    rintro e w3 ⟨rfl, hb3⟩
    have hw3 := Lib.hid (hw2.out.trans (hb3.mono hw2.out.size))
    clear hb3
    go_wp2
    go_ret
    exact ⟨ret_i HC.out.symm, hw3.out.alloc hw3.out.size _⟩
end Go.Proofs.Ytoglgeinnocfjaa
/-
  How many maps have a key; the number of the first one: by the model and by the program.
-/
namespace Go.Proofs.Ytoglgeinnocfjaa
open Go.RowKit

def ofC (ls : List (List Itm)) (s : ByteArray) : Int := if validC ls = true then oftP ls s else -1
theorem ofC_no {ls : List (List Itm)} {s : ByteArray} (h : validC ls = false) : ofC ls s = -1 := by unfold ofC; rw [h]; rfl
theorem ofC_yes {ls : List (List Itm)} {s : ByteArray} (h : validC ls = true) : ofC ls s = oftP ls s := by unfold ofC; rw [h]; rfl
theorem oftP_snoc (ls : List (List Itm)) (x : List Itm) (s : ByteArray) : oftP (ls ++ [x]) s = if hasI x s = true then oftP ls s + 1 else oftP ls s := by
  induction ls with
  | nil => rfl
  | cons l r ih =>
    rw [List.cons_append, oftP_cons, oftP_cons, ih]
    split <;> split <;> rfl
theorem oftP_step {ls : List (List Itm)} {s : ByteArray} {k : Nat} (h : k < ls.length) {b : Bool} (hh : hasI ls[k] s = b) : oftP (ls.take (k + 1)) s = if b = true then oftP (ls.take k) s + 1 else oftP (ls.take k) s := by
  rw [List.take_succ_eq_append_getElem h, oftP_snoc, hh]

set_option maxHeartbeats 1600000 in
set_option maxRecDepth 100000 in
theorem sHowOften_any (v : Value) (ls : List (List Itm)) (s : ByteArray) (w : World) (h : Maps w v ls) :
    Calls Try.prog 60 #[.agg #[v], .string s] w (RetQ (.int .i64 (ofC ls s)) w) := by
  have hM := Lib.hid h
  obtain ⟨ao, cap, rfl, hlc, hcm⟩ := h.slice
  clear h
  go_enter Try.func60, Try.ntmps60
  have HA : Hid (Below w.heap.size w (w.alloc (.cells #[.slice ao ls.length cap] 51))) := (Below.refl _ _).alloc (Nat.le_refl _) _
  have F0 := Lib.hid (One.new w 51 (.slice ao ls.length cap))
  cases hv : validC ls
  all_goals
    have HV := Lib.hid hv
    clear hv
    go_wp2_with fail
    refine (svC_v _ (hM.out.mono HA.out (Nat.le_refl _)) HV.out).mono ?_
    rintro e w1 ⟨rfl, hb1⟩
    have hw1 := Lib.hid (HA.out.trans (hb1.mono HA.out.size))
    have G0 := Lib.hid (F0.out.below hb1 F0.out.lt)
    have c0 := G0.out.cell
    clear hb1
  · have HC := Lib.hid (ofC_no (s := s) HV.out)
    go_wp2
    go_ret
    exact ⟨ret_i HC.out.symm, hw1.out⟩
  · have HC := Lib.hid (ofC_yes (s := s) HV.out)
    have hl := validC_iff.1 HV.out
    have hl4 : ls.length ≤ 4 := by omega
    clear hl
    go_wp2_with fail
    go_loopw [5, 6] (fun t i wr => ∃ k : Nat, k ≤ ls.length ∧ ∃ n : Int, t = .int .i64 n ∧ 0 ≤ n ∧ n ≤ k ∧ Hid (n = oftP (ls.take k) s) ∧ i = .int .i64 k ∧ Hid (Below w.heap.size w wr) ∧ Hid (One wr w.heap.size 51 (.slice ao ls.length cap))) (fun _ i _ => ls.length - (intOf i).toNat)
    case atStart => exact ⟨0, Nat.zero_le _, 0, rfl, by omega, by omega, rfl, rfl, hw1.out, G0.out⟩
    case round =>
      obtain ⟨k, hk, n, rfl, hn0, hn1, HN, rfl, HB, HO⟩ := hrel
      have c0 := HO.out.cell
      by_cases hlt : k < ls.length
      · obtain ⟨b, o, cap', u, e, hb, h1, hI⟩ := hM.out.at hlt
        simp only [Value.slice.injEq] at e
        obtain ⟨rfl, _, rfl⟩ := e
        have c1 := (HB.out.cell (p := ⟨b, _, none⟩) hb).trans h1
        have HI := Lib.hid (hI.mono HB.out (Nat.le_refl _))
        clear h1 hI
        cases hh : hasI ls[k] s
        · have HS := Lib.hid (oftP_step hlt hh)
          go_wp2_with fail
          refine (place_no _ HI.out hh).mono ?_
          rintro e w1 ⟨rfl, rfl⟩
          go_wp2
          go_roundw
          case rel => exact ⟨k + 1, by omega, n, rfl, hn0, by omega, HN.out.trans HS.out.symm, by go_num, HB, HO⟩
          case measure => simp [intOf]; omega
        · have HS := Lib.hid (oftP_step hlt hh)
          obtain ⟨j, hj, hpj, -⟩ := placeI_at ls[k] s 0 hh
          simp only [Nat.add_zero] at hpj
          go_wp2_with fail
          refine (place_at _ HI.out hpj).mono ?_
          rintro e w1 ⟨rfl, rfl⟩
          go_wp2
          go_roundw
          case rel => exact ⟨k + 1, by omega, n + 1, by go_num, by omega, by omega, (by rw [HN.out]; exact HS.out.symm), by go_num, HB, HO⟩
          case measure => simp [intOf]; omega
      · obtain rfl : k = ls.length := by omega
        have HS : Hid (n = oftP ls s) := by
          have := HN.out
          rw [List.take_length] at this
          exact this
        go_wp2
        go_ret
        exact ⟨ret_i (HS.out.trans HC.out.symm), HB.out⟩

set_option maxHeartbeats 800000 in
set_option maxRecDepth 100000 in
theorem HowOften_any (v : Value) (ls : List (List Itm)) (s : ByteArray) (w : World) (h : Maps w v ls) :
    Calls Try.prog 49 #[.agg #[v], .string s] w (RetQ (.int .i64 (ofC ls s)) w) := by
  have hM := Lib.hid h
  obtain ⟨ao, cap, rfl, hlc, hcm⟩ := h.slice
  clear h
  go_enter Try.func49, Try.ntmps49
  have HA : Hid (Below w.heap.size w (w.alloc (.cells #[.slice ao ls.length cap] 51))) := (Below.refl _ _).alloc (Nat.le_refl _) _
  have F0 := Lib.hid (One.new w 51 (.slice ao ls.length cap))
  cases hv : validC ls
  all_goals
    have HV := Lib.hid hv
    clear hv
    go_wp2_with fail
    refine (vC_v _ (hM.out.mono HA.out (Nat.le_refl _)) HV.out).mono ?_
    rintro e w1 ⟨rfl, hb1⟩
    have hw1 := Lib.hid (HA.out.trans (hb1.mono HA.out.size))
    have c0 := (F0.out.below hb1 F0.out.lt).cell
    clear hb1
  · have HC := Lib.hid (ofC_no (s := s) HV.out)
    go_wp2
    go_ret
    exact ⟨ret_i HC.out.symm, hw1.out⟩
  · have HC := Lib.hid (ofC_yes (s := s) HV.out)
    have hl := validC_iff.1 HV.out
    go_wp2_with fail
    refine (parentOf_any _ ls _ (hM.out.mono hw1.out (Nat.le_refl _)) (by omega) (by omega)).mono ?_
    rintro e w2 ⟨q, rfl, hp, hb2⟩
    have hw2 := Lib.hid (hw1.out.trans (hb2.mono hw1.out.size))
    have HP := Lib.hid hp
    clear hp hb2 c0
    go_wp2_with fail
    refine (often_par s ls q _ HP.out (by omega)).mono ?_
    rintro e w3 ⟨rfl, hb3⟩
    have hw3 := Lib.hid (hw2.out.trans (hb3.mono hw2.out.size))
    clear hb3
    go_wp2
    go_ret
    exact ⟨ret_i HC.out.symm, hw3.out⟩

/-! ### the number of the first map that has it -/
def cgN (ls : List (List Itm)) (s : ByteArray) : Int := if validC ls = true then (itP ls s).2 else 0
def cgB (ls : List (List Itm)) (s : ByteArray) : Bool := validC ls && decide (0 ≤ whP ls s)
theorem wh_cases (ls : List (List Itm)) (s : ByteArray) : (whP ls s = -1 ∧ itP ls s = zI) ∨ ∃ k, ∃ h : k < ls.length, whP ls s = (k : Int) ∧ itP ls s = (s, cnt ls[k] s) ∧ hasI ls[k] s = true := by
  induction ls with
  | nil => exact .inl ⟨rfl, rfl⟩
  | cons l r ih =>
    cases hh : hasI l s
    · rcases ih with ⟨h1, h2⟩ | ⟨k, hk, h1, h2, h3⟩
      · exact .inl ⟨by rw [whP_cons, hh, h1]; rfl, by rw [itP_cons, hh, h2]; rfl⟩
      · refine .inr ⟨k + 1, by simp; omega, ?_, by rw [itP_cons, hh]; simpa using h2, by simpa using h3⟩
        rw [whP_cons, hh, h1, if_neg (by simp), if_pos (by omega)]
        rfl
    · exact .inr ⟨0, by simp, by rw [whP_cons, hh]; rfl, by rw [itP_cons, hh]; rfl, by simpa using hh⟩
theorem cg_no {ls : List (List Itm)} {s : ByteArray} (h : validC ls = false ∨ (whP ls s = -1 ∧ itP ls s = zI)) : cgN ls s = 0 ∧ cgB ls s = false := by
  unfold cgN cgB
  rcases h with h | ⟨h, h'⟩
  · rw [h]; exact ⟨rfl, rfl⟩
  · rw [h, h']
    exact ⟨by split <;> rfl, by simp⟩
theorem cg_yes {ls : List (List Itm)} {s : ByteArray} (h : validC ls = true) : cgN ls s = (itP ls s).2 ∧ cgB ls s = decide (0 ≤ whP ls s) := by
  unfold cgN cgB
  rw [h]
  exact ⟨rfl, rfl⟩

set_option maxHeartbeats 800000 in
set_option maxRecDepth 100000 in
theorem ChainGet_any (v : Value) (ls : List (List Itm)) (s : ByteArray) (w : World) (h : Maps w v ls) :
    Calls Try.prog 54 #[.agg #[v], .string s] w (RetQ (.tuple #[.int .i64 (cgN ls s), .bool (cgB ls s)]) w) := by
  have hM := Lib.hid h
  obtain ⟨ao, cap, rfl, hlc, hcm⟩ := h.slice
  clear h
  go_enter Try.func54, Try.ntmps54
  have HA : Hid (Below w.heap.size w (w.alloc (.cells #[.slice ao ls.length cap] 51))) := (Below.refl _ _).alloc (Nat.le_refl _) _
  have F0 := Lib.hid (One.new w 51 (.slice ao ls.length cap))
  cases hv : validC ls
  all_goals
    have HV := Lib.hid hv
    clear hv
    go_wp2_with fail
    refine (vC_v _ (hM.out.mono HA.out (Nat.le_refl _)) HV.out).mono ?_
    rintro e w1 ⟨rfl, hb1⟩
    have hw1 := Lib.hid (HA.out.trans (hb1.mono HA.out.size))
    have c0 := (F0.out.below hb1 F0.out.lt).cell
    clear hb1
  · have HC := Lib.hid (cg_no (s := s) (.inl HV.out))
    go_wp2
    go_ret2
    exact ⟨ret_ib HC.out.1.symm HC.out.2.symm, hw1.out⟩
  · have HC := Lib.hid (cg_yes (s := s) HV.out)
    have hl := validC_iff.1 HV.out
    go_wp2_with fail
    refine (parentOf_any _ ls _ (hM.out.mono hw1.out (Nat.le_refl _)) (by omega) (by omega)).mono ?_
    rintro e w2 ⟨q, rfl, hp, hb2⟩
    have hw2 := Lib.hid (hw1.out.trans (hb2.mono hw1.out.size))
    have HP := Lib.hid hp
    clear hp hb2 c0
    go_wp2_with fail
    refine (find_par s ls q _ HP.out (by omega)).mono ?_
    rintro e w3 ⟨rfl, hb3⟩
    have hw3 := Lib.hid (hw2.out.trans (hb3.mono hw2.out.size))
    clear hb3
    go_wp2
    go_ret2
    exact ⟨ret_ib HC.out.1.symm HC.out.2.symm, hw3.out.alloc hw3.out.size _⟩
end Go.Proofs.Ytoglgeinnocfjaa
/-
  The keys of a map that maps ahead of it have, by the model.
-/
namespace Go.Proofs.Ytoglgeinnocfjaa
open Go.RowKit

def hidF (ls : List (List Itm)) (b : Int) (l : List Itm) : List ByteArray := (l.filter fun x => decide (whP ls x.1 < b)).map Prod.fst
def hiB (ls : List (List Itm)) (b : Int) : Bool := validC ls && rgB b 0 ((ls.length : Int) - 1)
def hiL (ls : List (List Itm)) (b : Int) : List ByteArray := if hiB ls b = true then hidF ls b (ls[b.toNat]?.getD []) else []
theorem hi_no {ls : List (List Itm)} {b : Int} (h : hiB ls b = false) : hiL ls b = [] := by unfold hiL; rw [h]; rfl
theorem hi_yes {ls : List (List Itm)} {k : Nat} (hv : validC ls = true) (hk : k < ls.length) : hiL ls (k : Int) = hidF ls k ls[k] := by
  have : hiB ls (k : Int) = true := by
    unfold hiB rgB
    rw [hv]
    simp
    omega
  unfold hiL
  rw [this, if_pos rfl, Int.toNat_natCast, List.getElem?_eq_getElem hk]
  rfl
theorem rg_k {b : Int} {n : Nat} (h : rgB b 0 ((n : Int) - 1) = true) : ∃ k : Nat, b = (k : Int) ∧ k < n := by
  unfold rgB at h
  rw [Bool.and_eq_true, decide_eq_true_eq, decide_eq_true_eq] at h
  exact ⟨b.toNat, by omega, by omega⟩
theorem hid_step {ls : List (List Itm)} {b : Int} {l : List Itm} {i : Nat} (h : i < l.length) : hidF ls b (l.take (i + 1)) = if whP ls l[i].1 < b then hidF ls b (l.take i) ++ [l[i].1] else hidF ls b (l.take i) := by
  unfold hidF
  rw [List.take_succ_eq_append_getElem h, List.filter_append, List.map_append]
  by_cases hx : whP ls l[i].1 < b
  · simp [hx]
  · simp [hx]
theorem hid_le (ls : List (List Itm)) (b : Int) (l : List Itm) : (hidF ls b l).length ≤ l.length := by
  unfold hidF
  rw [List.length_map]
  exact List.length_filter_le _ _
theorem hid_ok {ls : List (List Itm)} {b : Int} {l : List Itm} (h : okI l) : okT (hidF ls b l) := fun t ht => by
  unfold hidF at ht
  obtain ⟨x, hx, rfl⟩ := List.mem_map.1 ht
  exact (h x (List.mem_filter.1 hx).1).1
theorem hi_le (ls : List (List Itm)) (b : Int) : (hiL ls b).length ≤ 10000000 := by
  cases h : hiB ls b
  · rw [hi_no h]; simp
  · unfold hiB at h
    rw [Bool.and_eq_true] at h
    obtain ⟨k, rfl, hk⟩ := rg_k h.2
    rw [hi_yes h.1 hk]
    have := hid_le ls k ls[k]
    have := valid_len ((validC_iff.1 h.1).1 _ (List.getElem_mem hk))
    omega

set_option maxHeartbeats 3200000 in
set_option maxRecDepth 100000 in
theorem sHiddenIn_any (v : Value) (ls : List (List Itm)) (b : Int) (w : World) (h : Maps w v ls) (hb : -9223372036854775808 ≤ b ∧ b ≤ 9223372036854775807) :
    Calls Try.prog 64 #[.agg #[v], .int .i64 b] w (NewT (fun v => v) (hiL ls b) w) := by
  have hM := Lib.hid h
  obtain ⟨ao, cap, rfl, hlc, hcm⟩ := h.slice
  clear h
  go_enter Try.func64, Try.ntmps64
  have HA : Hid (Below w.heap.size w (w.alloc (.cells #[.slice ao ls.length cap] 51))) := (Below.refl _ _).alloc (Nat.le_refl _) _
  have F0 := Lib.hid (One.new w 51 (.slice ao ls.length cap))
  cases hv : validC ls
  all_goals
    have HV := Lib.hid hv
    clear hv
    go_wp2_with fail
    refine (svC_v _ (hM.out.mono HA.out (Nat.le_refl _)) HV.out).mono ?_
    rintro e w1 ⟨rfl, hb1⟩
    have hw1 := Lib.hid (HA.out.trans (hb1.mono HA.out.size))
    have G0 := Lib.hid (F0.out.below hb1 F0.out.lt)
    have c0 := G0.out.cell
    clear hb1
  · have HC := Lib.hid (hi_no (ls := ls) (b := b) (by unfold hiB; rw [HV.out]; rfl))
    go_wp2
    go_ret
    exact ⟨_, rfl, by rw [HC.out]; exact OwnT_nil _ _, hw1.out⟩
  · have hl := validC_iff.1 HV.out
    have hl4 : ls.length ≤ 4 := hl.2.2
    have hl1 : 1 ≤ ls.length := hl.2.1
    cases hr : rgB b 0 ((ls.length : Int) - 1)
    · have HR := Lib.hid hr
      have HC := Lib.hid (hi_no (ls := ls) (b := b) (by unfold hiB; rw [hr]; simp))
      clear hr hl
      go_wp2_with fail
      refine (rg_v _ HR.out).mono ?_
      rintro e w2 ⟨rfl, rfl⟩
      go_wp2
      go_ret
      exact ⟨_, rfl, by rw [HC.out]; exact OwnT_nil _ _, hw1.out⟩
    · obtain ⟨k, rfl, hk⟩ := rg_k hr
      have HR := Lib.hid hr
      have HC := Lib.hid (hi_yes HV.out hk)
      have hln : ls[k].length ≤ 8 := valid_len (hl.1 _ (List.getElem_mem hk))
      obtain ⟨bb, o, cap', u, e, hbb, h1, hI⟩ := hM.out.at hk
      simp only [Value.slice.injEq] at e
      obtain ⟨rfl, _, rfl⟩ := e
      have HII := Lib.hid hI
      obtain ⟨uo, ucap, rfl, hul, huc, huo, hcell⟩ := hI
      have H1 := Lib.hid h1
      have HCELL := Lib.hid hcell
      have HOK := Lib.hid huo
      have hkc : (k : Int) < (ls.length : Int) := by omega
      clear hr hl h1 hcell huo
      obtain ⟨i0, hi0, hz0, hz1, hz2⟩ := info_parts Try.infoS
      have hown0 := World.ownsRow_lit (base := w1.heap.size) (e := 9) (size := 1) w1 #[] 0 (Nat.le_refl _) (by unfold maxLen; omega) rfl
      go_wp2_with fail
      refine (rg_v _ HR.out).mono ?_
      rintro e w2 ⟨rfl, rfl⟩
      go_wp2_with fail
      go_loopw [5, 6] (fun x i wr => ∃ j : Nat, j ≤ ls[k].length ∧ i = .int .i64 j ∧ wr.ownsRow w1.heap.size 9 1 x (hidF ls k (ls[k].take j)).length (cellsT (hidF ls k (ls[k].take j))) ∧ Hid (Below w1.heap.size w1 wr) ∧ w1.heap.size < wr.heap.size) (fun _ i _ => ls[k].length - (intOf i).toNat)
      case atStart => exact ⟨0, Nat.zero_le _, rfl, hown0, (Below.refl _ _).alloc (Nat.le_refl _) _, by simp⟩
      case round =>
        obtain ⟨j, hj, rfl, hrow, HB, hsz⟩ := hrel
        clear hown0 c0
        have HBW := Lib.hid (hw1.out.trans (HB.out.mono hw1.out.size))
        have GR := Lib.hid (G0.out.below HB.out G0.out.lt)
        have c0 := GR.out.cell
        have c1 := (HBW.out.cell (p := ⟨bb, _, none⟩) hbb).trans H1.out
        by_cases hlt : j < ls[k].length
        · obtain ⟨b', o', rfl, hb', k1, _⟩ := HCELL.out j hlt
          have c2 := (HBW.out.cell (p := ⟨b', _, none⟩) hb').trans k1
          have hle := hid_le ls k (ls[k].take j)
          have hle2 : (ls[k].take j).length ≤ 8 := by simp; omega
          have HMd := Lib.hid (show Maps wr.drew _ ls from hM.out.mono HBW.out.drew (Nat.le_refl _))
          have hlw : Hid (bb < wr.heap.size) := Nat.lt_of_lt_of_le hbb HBW.out.size
          have hlw' : Hid (b' < wr.heap.size) := Nat.lt_of_lt_of_le hb' HBW.out.size
          have HL := Lib.hid GR.out.lt
          have HST := Lib.hid (hid_step (ls := ls) (b := k) hlt)
          have HROW := Lib.hid hrow
          clear k1 hrow
          by_cases hx : whP ls ls[k][j].1 < (k : Int)
          all_goals
            go_wp2_with fail
            go_region_held3 (fun w' : World => (w'.cell? ⟨w.heap.size, 0, none⟩ = some (.slice (some ⟨bb, o, none⟩) ls.length cap) ∧ w'.cell? ⟨bb, o + k, none⟩ = some (.slice (some ⟨b', o', none⟩) ls[k].length ucap)) ∧ w'.cell? ⟨b', o' + j * 2, none⟩ = some (.string ls[k][j].1))
              (first | exact ⟨⟨c0, c1⟩, c2⟩ | assumption | exact hS1)
              (first
                | (go_at_call 101; refine (where_any _ HMd.out rfl).mono ?_; rintro e w3 ⟨rfl, hb3⟩; have hS1 : (w3.cell? ⟨w.heap.size, 0, none⟩ = some (.slice (some ⟨bb, o, none⟩) ls.length cap) ∧ w3.cell? ⟨bb, o + k, none⟩ = some (.slice (some ⟨b', o', none⟩) ls[k].length ucap)) ∧ w3.cell? ⟨b', o' + j * 2, none⟩ = some (.string ls[k][j].1) := ⟨⟨(Below.cell (Below.undrew hb3) (p := ⟨w.heap.size, 0, none⟩) HL.out).trans c0, (Below.cell (Below.undrew hb3) (p := ⟨bb, o + k, none⟩) hlw.out).trans c1⟩, (Below.cell (Below.undrew hb3) (p := ⟨b', o' + j * 2, none⟩) hlw'.out).trans c2⟩))
          · have hB3 : Below wr.heap.size wr w3 := Below.undrew hb3
            have hrow3 := ownsRow_below HROW.out hB3 (Nat.le_refl _)
            obtain ⟨⟨x0, x1⟩, x2⟩ := hS1
            have HE := Lib.hid (HST.out.trans (if_pos hx))
            have hs3 := hB3.size
            have hbl3 := Lib.hid (HB.out.trans (hB3.mono HB.out.size))
            generalize hidF ls k (ls[k].take j) = L at *
            obtain ⟨xo, xcap, rfl, _, _⟩ := own_slice hrow3
            clear hb3 hB3 c0 c1 c2 HST
            go_wp2_with (at_builtin; refine wpList_append_own _ rfl _ _ 70 rfl w1.heap.size 9 i0 (.string ⟨#[]⟩) 1 16 Try.underlying70 hi0 hz0 hz1 hz2 rfl (by decide) (.slice xo L.length xcap) L.length (cellsT L) rfl (hrow3.alloc _) ⟨w3.heap.size, 0, none⟩ 1 1 [.string ls[k][j].1] rfl rfl (cell_one_new _ _ _) (by intro u hu; simp at hu; subst hu; rfl) (by unfold maxLen; omega) (by omega) (by simp; omega) ?_; intro v' w4 hown4 hgrow4 hnil4)
            have hs4 := hgrow4.size
            simp at hs4
            have hrow4 : w4.ownsRow w1.heap.size 9 1 v' (L ++ [ls[k][j].1]).length (cellsT (L ++ [ls[k][j].1])) := by
              have e3 : (L ++ [ls[k][j].1]).length = L.length + 1 := by simp
              rw [cellsT_snoc, e3]; exact hown4
            have hb4 := (hbl3.out.alloc hbl3.out.size _).grown hgrow4 (by simp; omega) (fun j hj => (hrow3.lt j hj).1)
            have HB4 := Lib.hid hb4
            rw [← HE.out] at hrow4
            clear hown4 hgrow4 hnil4 hb4 hrow3
            go_wp2
            go_roundw
            case rel => exact ⟨j + 1, by omega, by go_num, hrow4, HB4, by omega⟩
            case measure => simp [intOf]; omega
          · have hB3 : Below wr.heap.size wr w3 := Below.undrew hb3
            have hrow3 := ownsRow_below HROW.out hB3 (Nat.le_refl _)
            have HE := Lib.hid (HST.out.trans (if_neg (Int.not_lt.2 hx)))
            have hs3 := hB3.size
            have hbl3 := Lib.hid (HB.out.trans (hB3.mono HB.out.size))
            rw [← HE.out] at hrow3
            have HR3 := Lib.hid hrow3
            have hxd : decide (whP ls ls[k][j].1 < (k : Int)) = false := decide_eq_false (Int.not_lt.2 hx)
            clear hb3 hB3 c0 c1 c2 HST hrow3 hS1
            go_wp2
            go_roundw
            case rel => exact ⟨j + 1, by omega, by go_num, HR3.out, hbl3, by omega⟩
            case measure => simp [intOf]; omega
        · obtain rfl : j = ls[k].length := by omega
          rw [List.take_length] at hrow
          go_wp2
          go_ret
          exact ⟨_, rfl, by rw [HC.out]; exact ⟨ownsRow_base hrow hw1.out.size, hid_ok HOK.out⟩, HBW.out⟩
end Go.Proofs.Ytoglgeinnocfjaa
/-
  A chain's items as one map, and their keys, by the model.
-/
namespace Go.Proofs.Ytoglgeinnocfjaa
open Go.RowKit

/-- From the last map to the first one, each put over what there is. -/
def flatI : List (List Itm) → List Itm
  | [] => []
  | l :: r => overI (flatI r) l
theorem flatI_len {ls : List (List Itm)} : (flatI ls).length ≤ tot ls := by
  induction ls with
  | nil => simp [flatI, tot]
  | cons l r ih =>
    have := overI_len l (flatI r)
    simp only [flatI, tot]
    omega
theorem flatI_ok {ls : List (List Itm)} (h : ∀ l ∈ ls, okI l) : okI (flatI ls) := by
  induction ls with
  | nil => intro x hx; simp [flatI] at hx
  | cons l r ih => exact okI_over (ih (fun m hm => h m (by simp [hm]))) (h l (by simp))
theorem flat_step {ls : List (List Itm)} {k : Nat} (h : k < ls.length) : flatI (ls.drop k) = overI (flatI (ls.drop (k + 1))) ls[k] := by
  rw [List.drop_eq_getElem_cons h]
  rfl
theorem tot_drop_le (ls : List (List Itm)) (j : Nat) : tot (ls.drop j) ≤ tot ls := by
  induction ls generalizing j with
  | nil => simp
  | cons x r ih =>
    cases j with
    | zero => simp
    | succ j =>
      have := ih j
      simp only [List.drop_succ_cons, tot]
      omega
theorem row_tot {ls : List (List Itm)} {k : Nat} (h : k < ls.length) : ls[k].length ≤ tot ls := by
  induction ls generalizing k with
  | nil => simp at h
  | cons x r ih =>
    cases k with
    | zero => simp only [List.getElem_cons_zero, tot]; omega
    | succ k =>
      have := ih (k := k) (by simpa using h)
      simp only [List.getElem_cons_succ, tot]
      omega

set_option maxHeartbeats 1600000 in
set_option maxRecDepth 100000 in
theorem flat_any (v : Value) (ls : List (List Itm)) (w : World) (h : Maps w v ls) (h4 : ls.length ≤ 1000) (ht : tot ls ≤ 1000) :
    Calls Try.prog 126 #[.agg #[v]] w (FreshI (flatI ls) w) := by
  have hM := Lib.hid h
  obtain ⟨ao, cap, rfl, hlc, hcm⟩ := h.slice
  clear h
  go_enter Try.func126, Try.ntmps126
  have HA : Hid (Below w.heap.size w (w.alloc (.cells #[.slice ao ls.length cap] 51))) := (Below.refl _ _).alloc (Nat.le_refl _) _
  have HA2 : Hid (Below w.heap.size w ((w.alloc (.cells #[.slice ao ls.length cap] 51)).alloc (.cells #[] 74))) := (HA.out).alloc HA.out.size _
  have F0 := Lib.hid ((One.new w 51 (.slice ao ls.length cap)).below (B := w.heap.size + 1) ((Below.refl _ _).alloc (by simp) (.cells #[] 74)) (by simp))
  have hown0 : Hid (OwnI 74 ((w.alloc (.cells #[.slice ao ls.length cap] 51)).alloc (.cells #[] 74)) (w.heap.size + 1) (.slice (some ⟨w.heap.size + 1, 0, none⟩) 0 0) []) := by
    have h := World.ownsRow_lit (base := w.heap.size + 1) (e := 74) (size := 2) (w.alloc (.cells #[.slice ao ls.length cap] 51)) #[] 0 (by simp) (by unfold maxLen; omega) rfl
    simp only [World.size_alloc] at h
    exact ⟨h, fun x hx => by simp at hx⟩
  have c0 := F0.out.cell
  go_wp2_with fail
  go_loopw [3, 4] (fun x i wr => ∃ k : Nat, k ≤ ls.length ∧ i = .int .i64 ((k : Int) - 1) ∧ Hid (OwnI 74 wr (w.heap.size + 1) x (flatI (ls.drop k))) ∧ Hid (Below w.heap.size w wr) ∧ Hid (One wr w.heap.size 51 (.slice ao ls.length cap))) (fun _ i _ => (intOf i + 1).toNat)
  case atStart => exact ⟨ls.length, Nat.le_refl _, by go_num, by rw [List.drop_length]; exact hown0.out, HA2.out, F0.out⟩
  case round =>
    obtain ⟨k, hk, rfl, HO, HB, HF⟩ := hrel
    clear c0
    cases k with
    | zero =>
      go_wp2
      go_ret
      exact ⟨_, rfl, HO.out.base (Nat.le_succ _), HB.out⟩
    | succ m =>
      have hm : m < ls.length := by omega
      obtain ⟨b, o, cap', u, e, hb, h1, hI⟩ := hM.out.at hm
      simp only [Value.slice.injEq] at e
      obtain ⟨rfl, _, rfl⟩ := e
      have c0 := HF.out.cell
      have c1 := (HB.out.cell (p := ⟨b, _, none⟩) hb).trans h1
      have HI := Lib.hid (hI.mono HB.out (Nat.le_refl _))
      have hfl := flatI_len (ls := ls.drop (m + 1))
      have hdl := tot_drop_le ls (m + 1)
      have hrl := row_tot hm
      have HST := Lib.hid (flat_step hm)
      have hsz := HF.out.lt
      clear h1 hI
      go_wp2_with fail
      refine (soverlaid_any _ _ _ _ _ HO.out.items HI.out (by omega) (by omega)).mono ?_
      rintro e w2 ⟨v2, rfl, ho2, hb2⟩
      rw [← HST.out] at ho2
      have HO2 := Lib.hid (ho2.base (B' := w.heap.size + 1) (by omega))
      have HB2 := Lib.hid (HB.out.trans (hb2.mono HB.out.size))
      have HF2 := Lib.hid (HF.out.below hb2 HF.out.lt)
      clear ho2 hb2 c0 c1
      go_wp2
      go_roundw
      case rel => exact ⟨m, by omega, by go_num, HO2.out, HB2.out, HF2.out⟩
      case measure => simp [intOf]
end Go.Proofs.Ytoglgeinnocfjaa
/-
  Pure facts of chains: the first map that has a key, how often it is there.
-/
namespace Go.Proofs.Ytoglgeinnocfjaa
open Go.RowKit

theorem vc_first {ls : List (List Itm)} (h : validC ls = true) : ∃ h0 : 0 < ls.length, validI ls[0] = true ∧ validC (ls.take 1) = true := by
  have h1 := validC_iff.1 h
  have h0 : 0 < ls.length := h1.2.1
  refine ⟨h0, h1.1 _ (List.getElem_mem h0), validC_iff.2 ⟨fun l hl => h1.1 l (List.mem_of_mem_take hl), ?_, ?_⟩⟩ <;> rw [List.length_take] <;> omega
theorem wh_le (s : ByteArray) : ∀ (ls : List (List Itm)) (k : Nat) (h : k < ls.length), hasI ls[k] s = true → 0 ≤ whP ls s ∧ whP ls s ≤ k
  | [], k, h, _ => by simp at h
  | l :: r, 0, h, hh => by
    have hh' : hasI l s = true := hh
    rw [whP_cons, if_pos hh']
    omega
  | l :: r, k + 1, h, hh => by
    have h' : k < r.length := by simpa using h
    have := wh_le s r k h' hh
    rw [whP_cons]
    split
    · omega
    · rw [if_pos this.1]; omega
theorem wh_at (s : ByteArray) : ∀ (ls : List (List Itm)) (k : Nat) (h : k < ls.length), whP ls s = k → hasI ls[k] s = true
  | [], k, h, _ => by simp at h
  | l :: r, 0, h, hw => by
    rw [whP_cons] at hw
    by_cases hh : hasI l s = true
    · exact hh
    · rw [if_neg hh] at hw
      have := whP_lt r s
      split at hw <;> omega
  | l :: r, k + 1, h, hw => by
    have h' : k < r.length := by simpa using h
    rw [whP_cons] at hw
    have := whP_lt r s
    have e : whP r s = k := by
      split at hw
      · omega
      · split at hw <;> omega
    exact wh_at s r k h' e
theorem wh_oft (s : ByteArray) : ∀ ls : List (List Itm), 0 ≤ whP ls s ↔ 0 < oftP ls s
  | [] => by unfold whP oftP; omega
  | l :: r => by
    have h1 := wh_oft s r
    have h2 := oftP_le r s
    have h3 := whP_lt r s
    rw [whP_cons, oftP_cons]
    split
    · constructor <;> intro <;> omega
    · split
      · rename_i hp
        have := h1.1 hp
        constructor <;> intro <;> omega
      · exact h1
theorem oft_split (s : ByteArray) (ls : List (List Itm)) : oftP ls s = oftP (ls.take 1) s + oftP (ls.drop 1) s := by
  cases ls with
  | nil => rfl
  | cons l r =>
    show oftP (l :: r) s = oftP [l] s + oftP r s
    rw [oftP_cons, oftP_cons]
    show _ = (if hasI l s = true then (0 : Int) + 1 else 0) + _
    split <;> omega
theorem vc_drop {ls : List (List Itm)} (h : validC ls = true) (h1 : 1 < ls.length) : validC (ls.drop 1) = true := by
  have h2 := validC_iff.1 h
  refine validC_iff.2 ⟨fun l hl => h2.1 l (List.mem_of_mem_drop hl), ?_, ?_⟩ <;> rw [List.length_drop] <;> omega
end Go.Proofs.Ytoglgeinnocfjaa
/-
  The number of the first map that has a key, by the model.
-/
namespace Go.Proofs.Ytoglgeinnocfjaa
open Go.RowKit
end Go.Proofs.Ytoglgeinnocfjaa
/-
  An item put into, and dropped from, the map of a chain where it is, by the program.
-/
namespace Go.Proofs.Ytoglgeinnocfjaa
open Go.RowKit

def dpK (ls : List (List Itm)) (s : ByteArray) : Nat := (whP ls s).toNat
def dpB (ls : List (List Itm)) (s : ByteArray) (n : Int) : Bool := validC ls && okP (ls[dpK ls s]?.getD []) s n
def dpL (ls : List (List Itm)) (s : ByteArray) (n : Int) : List (List Itm) := ifM (dpB ls s n) (ls.set (dpK ls s) (putL (ls[dpK ls s]?.getD []) s n))
theorem dp_no {ls : List (List Itm)} {s : ByteArray} {n : Int} (h : validC ls = false) : dpB ls s n = false ∧ dpL ls s n = [] := by
  unfold dpL dpB
  rw [h]
  exact ⟨rfl, rfl⟩
theorem dp_at {ls : List (List Itm)} {s : ByteArray} {n : Int} {k : Nat} (h : validC ls = true) (hk : k < ls.length) (hw : dpK ls s = k) : dpB ls s n = okP ls[k] s n ∧ dpL ls s n = ifM (okP ls[k] s n) (ls.set k (putL ls[k] s n)) := by
  unfold dpL dpB
  rw [h, hw, List.getElem?_eq_getElem hk]
  exact ⟨rfl, rfl⟩
theorem dp_k {ls : List (List Itm)} {s : ByteArray} (h : 0 < ls.length) : ∃ k, k < ls.length ∧ dpK ls s = k ∧ ((whP ls s = -1 ∧ k = 0) ∨ whP ls s = (k : Int)) := by
  rcases wh_cases ls s with h1 | ⟨k, hk, h1, _⟩
  · exact ⟨0, h, by unfold dpK; rw [h1.1]; rfl, .inl ⟨h1.1, rfl⟩⟩
  · exact ⟨k, hk, by unfold dpK; rw [h1]; rfl, .inr h1⟩
theorem dp_of {ls : List (List Itm)} {s : ByteArray} {n : Int} {k : Nat} (h : validC ls = true) (hk : k < ls.length) (hw : dpK ls s = k) : validC (ls.set k (putI ls[k] s n)) = dpB ls s n ∧ ifM (validC (ls.set k (putI ls[k] s n))) (ls.set k (putI ls[k] s n)) = dpL ls s n := by
  have h1 := (validC_iff.1 h).1 _ (List.getElem_mem hk)
  have e := dp_at (n := n) h hk hw
  have e1 : validC (ls.set k (putI ls[k] s n)) = okP ls[k] s n := by
    rw [validC_set h hk]
    unfold okP
    rw [h1]
    rfl
  rw [e.1, e.2, e1]
  refine ⟨rfl, ?_⟩
  cases hb : okP ls[k] s n
  · rfl
  · unfold putL
    rw [hb]
    rfl
theorem dp_le (ls : List (List Itm)) (s : ByteArray) (n : Int) : tot (dpL ls s n) ≤ 10000000 := by
  cases hv : validC ls
  · rw [(dp_no hv).2]
    simp [tot]
  · have h0 : 0 < ls.length := by have := validC_iff.1 hv; omega
    obtain ⟨k, hk, hw, _⟩ := dp_k (s := s) h0
    rw [← (dp_of (n := n) hv hk hw).2]
    cases hb : validC (ls.set k (putI ls[k] s n))
    · simp [ifM, tot]
    · have := tot_mem hb
      simp only [ifM, if_true]
      omega

def ddB (ls : List (List Itm)) (s : ByteArray) : Bool := validC ls && decide (0 ≤ whP ls s)
def ddL (ls : List (List Itm)) (s : ByteArray) : List (List Itm) := ifM (ddB ls s) (ls.set (dpK ls s) (delI (ls[dpK ls s]?.getD []) s))
theorem dd_no {ls : List (List Itm)} {s : ByteArray} (h : validC ls = false ∨ whP ls s = -1) : ddB ls s = false ∧ ddL ls s = [] := by
  unfold ddL ddB
  rcases h with h | h
  · rw [h]; exact ⟨rfl, rfl⟩
  · rw [h]; simp [ifM]
theorem dd_yes {ls : List (List Itm)} {s : ByteArray} {k : Nat} (h : validC ls = true) (hk : k < ls.length) (hw : whP ls s = (k : Int)) (hh : hasI ls[k] s = true) : ddB ls s = true ∧ ddL ls s = ls.set k (delI ls[k] s) ∧ okG ls[k] s = true ∧ drpL ls[k] s = delI ls[k] s := by
  have h1 := (validC_iff.1 h).1 _ (List.getElem_mem hk)
  have e1 : dpK ls s = k := by unfold dpK; rw [hw]; rfl
  have e2 : okG ls[k] s = true := by unfold okG; rw [h1, hh]; rfl
  have e3 : ddB ls s = true := by unfold ddB; rw [h, hw]; simp
  refine ⟨e3, ?_, e2, drpL_yes e2⟩
  unfold ddL
  rw [e3, e1, List.getElem?_eq_getElem hk]
  rfl
theorem tot_set_le {ls : List (List Itm)} {k : Nat} (hk : k < ls.length) {l : List Itm} (hl : l.length ≤ ls[k].length) : tot (ls.set k l) ≤ tot ls := by
  induction ls generalizing k with
  | nil => simp at hk
  | cons x r ih =>
    cases k with
    | zero => simp only [List.set_cons_zero, tot]; simp at hl; omega
    | succ k =>
      simp at hk hl
      have := ih hk hl
      simp only [List.set_cons_succ, tot]
      omega
theorem dd_le (ls : List (List Itm)) (s : ByteArray) : tot (ddL ls s) ≤ 10000000 := by
  cases hv : validC ls
  · rw [(dd_no (.inl hv)).2]; simp [tot]
  · rcases wh_cases ls s with h1 | ⟨k, hk, h1, _, h3⟩
    · rw [(dd_no (.inr h1.1)).2]; simp [tot]
    · rw [(dd_yes hv hk h1 h3).2.1]
      have := tot_set_le hk (del_le ls[k] s)
      have := tot_mem hv
      omega
theorem WhereIs_v {v : Value} {ls : List (List Itm)} {s : ByteArray} {r : Int} (w : World) (h : Maps w v ls) (hr : whC ls s = r) : Calls Try.prog 46 #[.agg #[v], .string s] w fun e w' => e = .returned (.int .i64 r) ∧ Below w.heap.size w w' := by
  subst hr
  exact WhereIs_any v ls s w h

set_option maxHeartbeats 1600000 in
set_option maxRecDepth 100000 in
theorem DeepDrop_any (v : Value) (ls : List (List Itm)) (s : ByteArray) (w : World) (h : Maps w v ls) :
    Calls Try.prog 57 #[.agg #[v], .string s] w (NewM (fun v => .tuple #[.agg #[v], .bool (ddB ls s)]) (ddL ls s) w) := by
  have hM := Lib.hid h
  clear h
  go_enter Try.func57, Try.ntmps57
  have HA : Hid (Below w.heap.size w ((w.alloc (.cells #[v] 51)).alloc (.cells #[.slice none 0 0] 51))) := ((Below.refl _ _).alloc (Nat.le_refl _) _).alloc (by simp) _
  have F0 := Lib.hid ((One.new w 51 v).below (B := w.heap.size + 1) ((Below.refl _ _).alloc (by simp) (.cells #[.slice none 0 0] 51)) (by omega))
  have F1' := One.new (w.alloc (.cells #[v] 51)) 51 (.slice none 0 0)
  simp at F1'
  have F1 := Lib.hid F1'
  clear F1'
  have c0 := F0.out.cell
  have HCC : (Hid (whC ls s = -1) ∧ Hid (ddB ls s = false ∧ ddL ls s = [])) ∨ ∃ k : Nat, k < ls.length ∧ Hid (whC ls s = (k : Int)) ∧ validC ls = true ∧ Hid (ddB ls s = true ∧ ∃ h : k < ls.length, ddL ls s = ls.set k (delI ls[k] s) ∧ okG ls[k] s = true ∧ drpL ls[k] s = delI ls[k] s) := by
    cases hv : validC ls
    · exact .inl ⟨whC_no hv, dd_no (.inl hv)⟩
    · rcases wh_cases ls s with h1 | ⟨k, hk, h1, _, h3⟩
      · exact .inl ⟨(whC_yes hv).trans h1.1, dd_no (.inr h1.1)⟩
      · have := dd_yes hv hk h1 h3
        exact .inr ⟨k, hk, (whC_yes hv).trans h1, rfl, this.1, hk, this.2⟩
  rcases HCC with ⟨HW, HD⟩ | ⟨k, hk, HW, hv, HD⟩
  · go_wp2_with fail
    refine (WhereIs_v _ (hM.out.mono HA.out (Nat.le_refl _)) HW.out).mono ?_
    rintro e w1 ⟨rfl, hb1⟩
    have hs1 := hb1.size
    simp at hs1 hb1
    have hw1 := Lib.hid (HA.out.trans (hb1.mono (by omega)))
    have G1 := Lib.hid (F1.out.below hb1 (by omega))
    have e0 := G1.out.cell
    have f0 := G1.out.free
    have HB : Hid (Below w.heap.size w (w1.setCell ⟨w.heap.size + 1, 0, none⟩ (.slice none 0 0))) := hw1.out.setCell (by simp) _
    clear c0 hb1
    go_wp2
    refine bodyPost_ret (v := okV (.slice none 0 0) false) (by simp [okV, results, Try.results57, go_sem, e0]) rfl ⟨_, ret_m rfl HD.out.1.symm, ?_, HB.out⟩
    rw [HD.out.2]
    exact OwnM.nil _ _ _
  · have ht := tot_mem hv
    go_wp2_with fail
    refine (WhereIs_v _ (hM.out.mono HA.out (Nat.le_refl _)) HW.out).mono ?_
    rintro e w1 ⟨rfl, hb1⟩
    have hs1 := hb1.size
    simp at hs1 hb1
    have hw1 := Lib.hid (HA.out.trans (hb1.mono (by omega)))
    have G0 := Lib.hid (F0.out.below hb1 (by omega))
    have G1 := Lib.hid (F1.out.below hb1 (by omega))
    clear c0 hb1
    have c0 := G0.out.cell
    have HP := Lib.hid (dropAt_any v ls k s w1 (hM.out.mono hw1.out (Nat.le_refl _)) hk (by omega) (by omega))
    rw [HD.out.2.2.2.1, HD.out.2.2.2.2, ← HD.out.2.2.1] at HP
    have hkn : ¬ ((k : Int) < 0) := by omega
    go_wp2_with fail
    refine HP.out.mono ?_
    rintro e w2 ⟨v2, rfl, ho2, hb2⟩
    have H2 := Lib.hid (G1.out.below hb2 G1.out.lt)
    obtain ⟨vo, L, vc, rfl⟩ := ho2.shape
    have e0 := H2.out.cell
    have f0 := H2.out.free
    have HO := Lib.hid (ho2.other H2.out (by decide) (by decide) ((Keeps.refl _ _).one 0 (.slice vo L vc)))
    have HB : Hid (Below w.heap.size w (w2.setCell ⟨w.heap.size + 1, 0, none⟩ (.slice vo L vc))) := (hw1.out.trans (hb2.mono hw1.out.size)).setCell (by simp) _
    clear c0 ho2 hb2
    go_wp2
    exact bodyPost_ret (v := okV (.slice vo L vc) true) (by simp [okV, results, Try.results57, go_sem, e0]) rfl ⟨_, ret_m rfl HD.out.1.symm, HO.out.wide (by omega) (by simp), HB.out⟩
end Go.Proofs.Ytoglgeinnocfjaa
/-
  An item dropped from the map of a chain where it is, by the model.
-/
namespace Go.Proofs.Ytoglgeinnocfjaa
open Go.RowKit

set_option maxHeartbeats 3200000 in
set_option maxRecDepth 100000 in
theorem sDeepDrop_any (v : Value) (ls : List (List Itm)) (s : ByteArray) (w : World) (h : Maps w v ls) :
    Calls Try.prog 58 #[.agg #[v], .string s] w (NewM (fun v => .tuple #[.agg #[v], .bool (ddB ls s)]) (ddL ls s) w) := by
  have hM := Lib.hid h
  obtain ⟨ao, cap, rfl, hlc, hcm⟩ := h.slice
  clear h
  go_enter Try.func58, Try.ntmps58
  have HA : Hid (Below w.heap.size w ((w.alloc (.cells #[.slice ao ls.length cap] 51)).alloc (.cells #[.slice none 0 0] 51))) := ((Below.refl _ _).alloc (Nat.le_refl _) _).alloc (by simp) _
  have F0 := Lib.hid ((One.new w 51 (.slice ao ls.length cap)).below (B := w.heap.size + 1) ((Below.refl _ _).alloc (by simp) (.cells #[.slice none 0 0] 51)) (by omega))
  have F1' := One.new (w.alloc (.cells #[.slice ao ls.length cap] 51)) 51 (.slice none 0 0)
  simp at F1'
  have F1 := Lib.hid F1'
  clear F1'
  have c0 := F0.out.cell
  obtain ⟨r, HR⟩ : ∃ r, Hid (whP ls s = r) := ⟨_, rfl⟩
  cases hv : validC ls
  all_goals
    have HV := Lib.hid hv
    clear hv
    go_wp2_with fail
    refine (where_any _ (hM.out.mono HA.out (Nat.le_refl _)) HR.out).mono ?_
    rintro e w0 ⟨rfl, hb0⟩
    have hs0 := hb0.size
    simp at hs0 hb0
    have hw0 := Lib.hid (HA.out.trans (hb0.mono (by omega)))
    have E0 := Lib.hid (F0.out.below hb0 (by omega))
    have E1 := Lib.hid (F1.out.below hb0 (by omega))
    clear c0 hb0
    have c0 := E0.out.cell
    go_wp2_with fail
    refine (svC_v _ (hM.out.mono hw0.out (Nat.le_refl _)) HV.out).mono ?_
    rintro e w1 ⟨rfl, hb1⟩
    have hw1 := Lib.hid (hw0.out.trans (hb1.mono hw0.out.size))
    have G0 := Lib.hid (E0.out.below hb1 E0.out.lt)
    have G1 := Lib.hid (E1.out.below hb1 E1.out.lt)
    have hs1 := hb1.size
    clear c0 hb1
  · have e0 := G1.out.cell
    have f0 := G1.out.free
    have HB : Hid (Below w.heap.size w (w1.setCell ⟨w.heap.size + 1, 0, none⟩ (.slice none 0 0))) := hw1.out.setCell (by simp) _
    have HD := Lib.hid (dd_no (s := s) (.inl HV.out))
    go_wp2
    refine bodyPost_ret (v := okV (.slice none 0 0) false) (by simp [okV, results, Try.results58, go_sem, e0]) rfl ⟨_, ret_m rfl HD.out.1.symm, ?_, HB.out⟩
    rw [HD.out.2]
    exact OwnM.nil _ _ _
  · rcases wh_cases ls s with hn | ⟨k, hk, hk1, _, hk3⟩
    · have HD := Lib.hid (dd_no (ls := ls) (s := s) (.inr hn.1))
      obtain rfl : r = -1 := HR.out.symm.trans hn.1
      have e0 := G1.out.cell
      have f0 := G1.out.free
      have HB : Hid (Below w.heap.size w (w1.setCell ⟨w.heap.size + 1, 0, none⟩ (.slice none 0 0))) := hw1.out.setCell (by simp) _
      clear hn
      go_wp2
      refine bodyPost_ret (v := okV (.slice none 0 0) false) (by simp [okV, results, Try.results58, go_sem, e0]) rfl ⟨_, ret_m rfl HD.out.1.symm, ?_, HB.out⟩
      rw [HD.out.2]
      exact OwnM.nil _ _ _
    · have HD := Lib.hid (dd_yes HV.out hk hk1 hk3)
      obtain rfl : r = (k : Int) := HR.out.symm.trans hk1
      have hl := validC_iff.1 HV.out
      have ht := tot_mem HV.out
      have hln : ls[k].length ≤ 8 := valid_len (hl.1 _ (List.getElem_mem hk))
      obtain ⟨j, hj, p1, p2, p3, _⟩ := placeI_del ls[k] s 0 hk3
      have P1 := Lib.hid (p1.trans (by simp) : placeI ls[k] s 0 = (j : Int))
      have P3 := Lib.hid p3
      have hkn : ¬ ((k : Int) < 0) := by omega
      have hkc : (k : Int) < (ls.length : Int) := by omega
      have hk1' : k ≤ 4 := by omega
      have c0 := G0.out.cell
      clear hk1 hk3 p1 p2 p3
      go_wp2_with fail
      refine (scopyChain_any _ ls _ (hM.out.mono hw1.out (Nat.le_refl _)) (by omega) (by omega)).mono ?_
      rintro e w2 ⟨v2, rfl, ho2, hb2⟩
      obtain ⟨g, cap2, rfl, hg1, hg2⟩ := ho2.head (Nat.lt_of_le_of_lt (Nat.zero_le _) hk)
      have hs2 := hb2.size
      have HA2 : Hid (Below w2.heap.size w2 (w2.alloc (.cells #[.slice (some ⟨g, 0, none⟩) ls.length cap2] 51))) := (Below.refl _ _).alloc (Nat.le_refl _) _
      have HO2 := Lib.hid (ho2.keeps (Keeps.of_below HA2.out (fun j hj => hj.2)))
      have FN := Lib.hid (One.new w2 51 (.slice (some ⟨g, 0, none⟩) ls.length cap2))
      have G2 := Lib.hid ((G1.out.below hb2 G1.out.lt).below HA2.out (by have := G1.out.lt; omega))
      have HW2 := Lib.hid ((hw1.out.trans (hb2.mono hw1.out.size)).trans (HA2.out.mono (by have := hw1.out.size; omega)))
      obtain ⟨u2, hcb, hI⟩ := HO2.out.cell hk
      have HI2 := Lib.hid hI
      have d0 := FN.out.cell
      have hA2 : (w2.alloc (.cells #[.slice (some ⟨g, 0, none⟩) ls.length cap2] 51)).heap.size = w2.heap.size + 1 := by simp
      have hgne : Hid (w.heap.size + 1 ≠ g) := by have := hw1.out.size; have := G1.out.lt; unfold Hid; omega
      clear c0 hI ho2 hb2
      go_wp2_with fail
      generalize w2.alloc (.cells #[.slice (some ⟨g, 0, none⟩) ls.length cap2] 51) = W at *
      go_region_law (first
          | (go_simp; go_at_call 113; refine (place_at _ (Items.drew HI2.out) P1.out).mono ?_; rintro e w5 ⟨rfl, rfl⟩)
          | (go_simp; go_at_call 112; refine (swithout_any _ ls[k] j _ (Items.drew HI2.out) hj (by omega)).mono ?_; rintro e w3 ⟨u3, rfl, ho3, hb3⟩; rw [← P3.out] at ho3; have hF3 := FN.out.below (Below.undrew hb3) (by show w2.heap.size < W.heap.size; omega); have c3 := hF3.cell; have hM3 := HO2.out.keeps (Keeps.of_below (Below.undrew hb3) (fun j hj => by have := hj.2; show j < W.heap.size; omega)); obtain ⟨g', cap', eg, _, _, ⟨x, hc5⟩, f5, hput⟩ := hM3.put (lo := w.heap.size) (hi := w3.heap.size) (RowZ.of ho3) hk (.inr (by show w2.heap.size ≤ W.heap.size; omega)) hw1.out.size (by show w.heap.size ≤ W.heap.size; exact HW2.out.size) (by have := hb3.size; simp at this; omega) (Nat.le_refl _); simp only [Value.slice.injEq, Option.some.injEq, Addr.mk.injEq, and_true] at eg; obtain ⟨rfl, _, rfl⟩ := eg; obtain ⟨uo, uc, rfl, _, _⟩ := own_slice ho3.1; have c4 := (hF3.keeps ((Keeps.refl (fun j => j ≠ g) w3).setCell (a := ⟨g, k, none⟩) (fun h => h rfl) (.slice uo (delI ls[k] s).length uc)) (by omega)).cell))
      all_goals
        have hw3 : W.heap.size ≤ w3.heap.size := hb3.size
        have hbS : Below W.heap.size W w3 := Below.undrew hb3
        have HO3 := Lib.hid hput
        have HW3 : Hid (Below w.heap.size w (w3.setCell ⟨g, k, none⟩ (.slice uo (delI ls[k] s).length uc))) := (HW2.out.trans (hbS.mono HW2.out.size)).setCell (by simp; have := hw1.out.size; omega) _
        have hkS : Keeps (fun j => j ≠ g) w3 (w3.setCell ⟨g, k, none⟩ (.slice uo (delI ls[k] s).length uc)) := (Keeps.refl _ _).one k _
        have G3 := Lib.hid ((G2.out.below hbS G2.out.lt).keeps hkS hgne.out)
        have F3 := Lib.hid (hF3.keeps hkS (by omega))
        have hsz3 : w3.heap.size = (w3.setCell ⟨g, k, none⟩ (.slice uo (delI ls[k] s).length uc)).heap.size := by simp
        generalize w3.setCell ⟨g, k, none⟩ (.slice uo (delI ls[k] s).length uc) = X at *
        clear hF3 c3 c4 hM3 hc5 f5 hput hbS hb3 ho3 hcb d0 hkS
        have d0 := F3.out.cell
        have r0 := G3.out.cell
        have r1 := G3.out.free
        have HX := (HO3.out.other G3.out (by decide) (by decide) ((Keeps.refl _ _).one 0 (.slice (some ⟨g, 0, none⟩) ls.length cap2)))
        have HBX : Hid (Below w.heap.size w (X.setCell ⟨w.heap.size + 1, 0, none⟩ (.slice (some ⟨g, 0, none⟩) ls.length cap2))) := HW3.out.setCell (by simp) _
        have hzz : w3.heap.size ≤ (X.setCell ⟨w.heap.size + 1, 0, none⟩ (.slice (some ⟨g, 0, none⟩) ls.length cap2)).heap.size := by simp; omega
        have HXX := Lib.hid (HX.wide (Nat.le_refl _) hzz)
        clear HX hzz
        go_wp2
        refine bodyPost_ret (v := okV (.slice (some ⟨g, 0, none⟩) ls.length cap2) true) (by simp [okV, results, Try.results58, go_sem, r0]) rfl ⟨_, ret_m rfl HD.out.1.symm, ?_, HBX.out⟩
        rw [HD.out.2.1]
        exact HXX.out
end Go.Proofs.Ytoglgeinnocfjaa
/-
  The keys of a map that maps ahead of it have, by the program.
-/
namespace Go.Proofs.Ytoglgeinnocfjaa
open Go.RowKit

set_option maxHeartbeats 800000 in
set_option maxRecDepth 100000 in
theorem hides_par {s : ByteArray} {ls : List (List Itm)} {p : Option Addr} {b : Int} {r : Bool} (w : World) (hp : Par w p ls) (hl : ls.length ≤ 4) (hr : decide (whP ls s < b) = r) :
    Calls Try.prog 114 #[.agg #[.pointer p], .string s, .int .i64 b] w fun e w' => e = .returned (.bool r) ∧ Below w.heap.size w w' := by
  subst hr
  have HA : Hid (Below w.heap.size w (w.alloc (.cells #[.pointer p] 103))) := (Below.refl _ _).alloc (Nat.le_refl _) _
  have HP := Lib.hid (Par.mono HA.out (Nat.le_refl _) hp)
  clear hp
  go_enter Try.func114, Try.ntmps114
  go_wp2_with fail
  refine (find_par s ls p _ HP.out hl).mono ?_
  rintro e w2 ⟨rfl, hb2⟩
  have HB2 := Lib.hid (HA.out.trans (hb2.mono HA.out.size))
  clear hb2
  go_wp2
  go_ret
  exact ⟨rfl, HB2.out.alloc HB2.out.size _⟩

set_option maxHeartbeats 3200000 in
set_option maxRecDepth 100000 in
theorem HiddenIn_any (v : Value) (ls : List (List Itm)) (b : Int) (w : World) (h : Maps w v ls) (hb : -9223372036854775808 ≤ b ∧ b ≤ 9223372036854775807) :
    Calls Try.prog 62 #[.agg #[v], .int .i64 b] w (NewT (fun v => v) (hiL ls b) w) := by
  have hM := Lib.hid h
  obtain ⟨ao, cap, rfl, hlc, hcm⟩ := h.slice
  clear h
  go_enter Try.func62, Try.ntmps62
  have HA : Hid (Below w.heap.size w (w.alloc (.cells #[.slice ao ls.length cap] 51))) := (Below.refl _ _).alloc (Nat.le_refl _) _
  have F0 := Lib.hid (One.new w 51 (.slice ao ls.length cap))
  cases hv : validC ls
  all_goals
    have HV := Lib.hid hv
    clear hv
    go_wp2_with fail
    refine (vC_v _ (hM.out.mono HA.out (Nat.le_refl _)) HV.out).mono ?_
    rintro e w1 ⟨rfl, hb1⟩
    have hw1 := Lib.hid (HA.out.trans (hb1.mono HA.out.size))
    have G0 := Lib.hid (F0.out.below hb1 F0.out.lt)
    have c0 := G0.out.cell
    clear hb1
  · have HC := Lib.hid (hi_no (ls := ls) (b := b) (by unfold hiB; rw [HV.out]; rfl))
    go_wp2
    go_ret
    exact ⟨_, rfl, by rw [HC.out]; exact OwnT_nil _ _, hw1.out⟩
  · have hl := validC_iff.1 HV.out
    have hl4 : ls.length ≤ 4 := hl.2.2
    have hl1 : 1 ≤ ls.length := hl.2.1
    by_cases hb0 : b < 0
    · have HC := Lib.hid (hi_no (ls := ls) (b := b) (by unfold hiB rgB; rw [show decide ((0 : Int) ≤ b) = false by simp; omega]; simp))
      clear hl
      go_wp2
      go_ret
      exact ⟨_, rfl, by rw [HC.out]; exact OwnT_nil _ _, hw1.out⟩
    by_cases hbl : (ls.length : Int) ≤ b
    · have HC := Lib.hid (hi_no (ls := ls) (b := b) (by unfold hiB rgB; rw [show decide (b ≤ (ls.length : Int) - 1) = false by simp; omega]; simp))
      clear hl
      go_wp2
      go_ret
      exact ⟨_, rfl, by rw [HC.out]; exact OwnT_nil _ _, hw1.out⟩
    obtain ⟨k, rfl⟩ : ∃ k : Nat, b = (k : Int) := ⟨b.toNat, by omega⟩
    have hk : k < ls.length := by omega
    have HC := Lib.hid (hi_yes HV.out hk)
    have hln : ls[k].length ≤ 8 := valid_len (hl.1 _ (List.getElem_mem hk))
    obtain ⟨bb, o, cap', u, e, hbb, h1, hI⟩ := hM.out.at hk
    simp only [Value.slice.injEq] at e
    obtain ⟨rfl, _, rfl⟩ := e
    obtain ⟨uo, ucap, rfl, hul, huc, huo, hcell⟩ := hI
    have H1 := Lib.hid h1
    have HCELL := Lib.hid hcell
    have HOK := Lib.hid huo
    have hkc : (k : Int) < (ls.length : Int) := by omega
    clear hl h1 hcell huo
    obtain ⟨i0, hi0, hz0, hz1, hz2⟩ := info_parts Try.infoS
    go_wp2_with fail
    refine (parentOf_any _ ls _ (hM.out.mono hw1.out (Nat.le_refl _)) (by omega) (by omega)).mono ?_
    rintro e w2 ⟨q, rfl, hp, hb2⟩
    have hw2 := Lib.hid (hw1.out.trans (hb2.mono hw1.out.size))
    have G2 := G0.out.below hb2 G0.out.lt
    have hA2 : Below w2.heap.size w2 (w2.alloc (.cells #[.pointer q] 103)) := (Below.refl _ _).alloc (Nat.le_refl _) _
    have HP := Lib.hid (Par.mono hA2 (Nat.le_refl _) hp)
    have HQ := Lib.hid (One.new w2 103 (.pointer q))
    have c0' := (G2.below hA2 G2.lt).cell
    have HW2 := Lib.hid (hw2.out.trans (hA2.mono hw2.out.size))
    have c1 := (HW2.out.cell (p := ⟨bb, _, none⟩) hbb).trans H1.out
    have hs2 : (w2.alloc (.cells #[.pointer q] 103)).heap.size = w2.heap.size + 1 := by simp
    clear hp hb2 c0 G2
    go_wp2_with fail
    obtain ⟨W, hW⟩ : ∃ W, w2.alloc (.cells #[.pointer q] 103) = W := ⟨_, rfl⟩
    rw [hW] at HP HQ c0' HW2 c1 hs2 hA2 ⊢
    clear hW c0' c1
    have hown0 : W.ownsRow W.heap.size 9 1 (.slice none 0 0) (hidF ls k (ls[k].take 0)).length (cellsT (hidF ls k (ls[k].take 0))) := World.ownsRow_nil _ _ _ _
    go_loopw [6, 31] (fun x i wr => ∃ j : Nat, j ≤ ls[k].length ∧ i = .int .i64 j ∧ wr.ownsRow W.heap.size 9 1 x (hidF ls k (ls[k].take j)).length (cellsT (hidF ls k (ls[k].take j))) ∧ Hid (Below W.heap.size W wr)) (fun _ i _ => ls[k].length - (intOf i).toNat)
    case atStart => exact ⟨0, Nat.zero_le _, rfl, hown0, Below.refl _ _⟩
    case round =>
      obtain ⟨j, hj, rfl, hrow, HB⟩ := hrel
      clear hown0 hA2
      have HBW := Lib.hid (HW2.out.trans (HB.out.mono HW2.out.size))
      by_cases hlt : j < ls[k].length
      · obtain ⟨b', o', rfl, hb', k1, k2⟩ := HCELL.out j hlt
        have c2 := (HBW.out.cell (p := ⟨b', _, none⟩) hb').trans k1
        have c3 := (HBW.out.cell (p := ⟨b', _, none⟩) hb').trans k2
        have hle := hid_le ls k (ls[k].take j)
        have hle2 : (ls[k].take j).length ≤ 8 := by simp; omega
        have hAr : Below wr.heap.size wr (wr.alloc (.cells #[.string ls[k][j].1, .int .i64 ls[k][j].2] 74)) := (Below.refl _ _).alloc (Nat.le_refl _) _
        have QR := HQ.out.below HB.out HQ.out.lt
        have d0 := (QR.below hAr QR.lt).cell
        have DI := Lib.hid (Duo.new wr 74 (.string ls[k][j].1) (.int .i64 ls[k][j].2))
        have HPR := Lib.hid (Par.mono hAr (Nat.le_refl _) (Par.mono HB.out (Nat.le_refl _) HP.out))
        have hrow2 := ownsRow_below hrow hAr (Nat.le_refl _)
        have HROW := Lib.hid hrow2
        have HBA := Lib.hid (HB.out.trans (hAr.mono HB.out.size))
        have HST := Lib.hid (hid_step (ls := ls) (b := k) hlt)
        clear k1 k2 hrow hrow2 hAr QR
        by_cases hx : whP ls ls[k][j].1 < (k : Int)
        · have HE := Lib.hid (HST.out.trans (if_pos hx))
          have HXD := Lib.hid (decide_eq_true hx)
          go_wp2_with fail
          refine (hides_par _ HPR.out hl4 HXD.out).mono ?_
          rintro e w3 ⟨rfl, hb3⟩
          have hrow3 := ownsRow_below HROW.out hb3 (Nat.le_refl _)
          obtain ⟨x0, x1⟩ := (DI.out.below hb3 DI.out.lt).cells
          have hs3 := hb3.size
          have hbl3 := Lib.hid (HBA.out.trans (hb3.mono HBA.out.size))
          simp at hs3
          generalize hidF ls k (ls[k].take j) = L at *
          obtain ⟨xo, xcap, rfl, _, _⟩ := own_slice hrow3
          clear hb3 c2 c3 d0 HST hx
          go_wp2_with (at_builtin; refine wpList_append_own _ rfl _ _ 70 rfl W.heap.size 9 i0 (.string ⟨#[]⟩) 1 16 Try.underlying70 hi0 hz0 hz1 hz2 rfl (by decide) (.slice xo L.length xcap) L.length (cellsT L) rfl (hrow3.alloc _) ⟨w3.heap.size, 0, none⟩ 1 1 [.string ls[k][j].1] rfl rfl (cell_one_new _ _ _) (by intro u hu; simp at hu; subst hu; rfl) (by unfold maxLen; omega) (by omega) (by have := hbl3.out.size; simp; omega) ?_; intro v' w4 hown4 hgrow4 hnil4)
          have hs4 := hgrow4.size
          simp at hs4
          have hrow4 : w4.ownsRow W.heap.size 9 1 v' (L ++ [ls[k][j].1]).length (cellsT (L ++ [ls[k][j].1])) := by
            have e3 : (L ++ [ls[k][j].1]).length = L.length + 1 := by simp
            rw [cellsT_snoc, e3]; exact hown4
          have hb4 := (hbl3.out.alloc hbl3.out.size _).grown hgrow4 (by have := hbl3.out.size; simp; omega) (fun j hj => (hrow3.lt j hj).1)
          have HB4 := Lib.hid hb4
          rw [← HE.out] at hrow4
          clear hown4 hgrow4 hnil4 hb4 hrow3
          go_wp2
          go_roundw
          case rel => exact ⟨j + 1, by omega, by go_num, hrow4, HB4⟩
          case measure => simp [intOf]; omega
        · have HE := Lib.hid (HST.out.trans (if_neg hx))
          have HXD := Lib.hid (decide_eq_false hx)
          go_wp2_with fail
          refine (hides_par _ HPR.out hl4 HXD.out).mono ?_
          rintro e w3 ⟨rfl, hb3⟩
          have hrow3 := ownsRow_below HROW.out hb3 (Nat.le_refl _)
          have hbl3 := Lib.hid (HBA.out.trans (hb3.mono HBA.out.size))
          rw [← HE.out] at hrow3
          have HR3 := Lib.hid hrow3
          clear hb3 c2 c3 d0 HST hx hrow3
          go_wp2
          go_roundw
          case rel => exact ⟨j + 1, by omega, by go_num, HR3.out, hbl3⟩
          case measure => simp [intOf]; omega
      · obtain rfl : j = ls[k].length := by omega
        rw [List.take_length] at hrow
        go_wp2
        go_ret
        exact ⟨_, rfl, by rw [HC.out]; exact ⟨ownsRow_base hrow HW2.out.size, hid_ok HOK.out⟩, HBW.out⟩
end Go.Proofs.Ytoglgeinnocfjaa
