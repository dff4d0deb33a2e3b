/-
  The model's functions, further: without zeros, times a number, within, the same, the total.
-/
import Derived.Test.YtbiflkekhabpoaaPure2
import Derived.Test.YtbiflkekhabpoaaImpl2
import Derived.Test.YtbiflkekhabpoaaObjs
namespace Go.Proofs.Ytbiflkekhabpoaa
open Go.RowKit

theorem nzI_yes {l : List Itm} {k : Nat} (h : k < l.length) (hq : ¬ l[k].2 = 0) : nzI (l.take (k + 1)) = nzI (l.take k) ++ [l[k]] := by
  unfold nzI; rw [List.take_succ_eq_append_getElem h, List.filter_append]; simp [hq]
theorem nzI_no {l : List Itm} {k : Nat} (h : k < l.length) (hq : l[k].2 = 0) : nzI (l.take (k + 1)) = nzI (l.take k) := by
  unfold nzI; rw [List.take_succ_eq_append_getElem h, List.filter_append]; simp [hq]

set_option maxHeartbeats 1600000 in
theorem sDropZero_any (va : Value) (a : List Itm) (w : World) (ha : Items w va a) :
    Calls Try.prog 56 #[va] w (NewI (if validI a = true then nzI (sumL a [] 1) else []) w) := by
  cases hv : validI a
  · have H := Lib.hid hv
    clear hv
    go_enter Try.func56, Try.ntmps56
    go_wp2_with fail
    refine (sVi_v _ ha H.out).mono ?_
    rintro e w1 ⟨rfl, hb1⟩
    go_wp2
    go_ret
    exact ⟨_, rfl, OwnI_nil _ _ _, hb1⟩
  · have H := Lib.hid hv
    clear hv
    have HS := Lib.hid (sumL_one H.out)
    have hn := valid_len H.out
    have ha' := ha
    obtain ⟨ao, cap, rfl, hlc, hcm, hok, hcell⟩ := ha'
    obtain ⟨i0, hi0, hz0, hz1, hz2⟩ := info_parts Try.infoI
    go_enter Try.func56, Try.ntmps56
    go_wp2_with fail
    refine (sVi_v _ ha H.out).mono ?_
    rintro e w1 ⟨rfl, hb1⟩
    clear ha
    have hown0 := World.ownsRow_lit (base := w1.heap.size) (e := 54) (size := 2) w1 #[] 0 (Nat.le_refl _) (by unfold maxLen; omega) rfl
    go_wp2
    go_loopw [3, 4] (fun x i wr => ∃ k : Nat, k ≤ a.length ∧ i = .int .i64 k ∧ wr.ownsRow w1.heap.size 54 2 x (nzI (a.take k)).length (cellsI (nzI (a.take k))) ∧ Below w1.heap.size w1 wr ∧ w1.heap.size < wr.heap.size) (fun _ i _ => a.length - (intOf i).toNat)
    case atStart => exact ⟨0, Nat.zero_le _, rfl, hown0, (Below.refl _ _).alloc (Nat.le_refl _) _, by simp⟩
    case round =>
      obtain ⟨k, hk, rfl, hrow, hbl, hsz⟩ := hrel
      by_cases hlt : k < a.length
      · obtain ⟨b, o, rfl, hb, h1, h2⟩ := hcell k hlt
        have hb' := Nat.lt_of_lt_of_le hb hb1.size
        have c1 := (hbl.cell (p := ⟨b, _, none⟩) hb').trans ((hb1.cell (p := ⟨b, _, none⟩) hb).trans h1)
        have c2 := (hbl.cell (p := ⟨b, _, none⟩) hb').trans ((hb1.cell (p := ⟨b, _, none⟩) hb).trans h2)
        have hle : (nzI (a.take k)).length ≤ k := Nat.le_trans (List.length_filter_le _ _) (List.length_take_le _ _)
        clear h1 h2
        obtain ⟨xo, xcap, rfl, _, _⟩ := own_slice hrow
        by_cases hp : a[k].2 = 0
        · have e1 := Lib.hid (nzI_no hlt hp)
          go_wp2
          go_roundw
          case rel => exact ⟨k + 1, by omega, by go_num, by rw [e1.out]; exact hrow, hbl, hsz⟩
          case measure => simp [intOf]; omega
        · have e1 := Lib.hid (nzI_yes hlt hp)
          go_wp2_with (at_builtin; refine wpList_append_own _ rfl _ _ 25 rfl w1.heap.size 54 i0 (.agg #[.string ⟨#[]⟩, .int .i64 0]) 2 24 Try.underlying25 hi0 hz0 hz1 hz2 rfl (by decide) (.slice xo (nzI (a.take k)).length xcap) (nzI (a.take k)).length (cellsI (nzI (a.take k))) rfl (hrow.alloc _) ⟨wr.heap.size, 0, none⟩ 1 1 [.string a[k].1, .int .i64 a[k].2] rfl rfl (cells_two_new _ _ _ _) (by intro u hu; simp at hu; rcases hu with rfl | rfl <;> rfl) (by unfold maxLen; omega) (by omega) (by simp; omega) ?_; intro v' w2 hown2 hgrow2 hnil2)
          have hs2 := hgrow2.size
          simp at hs2
          have hrow3 : w2.ownsRow w1.heap.size 54 2 v' (nzI (a.take (k + 1))).length (cellsI (nzI (a.take (k + 1)))) := by
            rw [e1.out, cellsI_snoc, List.length_append]; exact hown2
          have hb3 := (hbl.alloc (Nat.le_of_lt hsz) _).grown hgrow2 (by simp; omega) (fun j hj => (hrow.lt j hj).1)
          clear hown2 hrow c1 c2 hgrow2 hnil2
          go_roundw
          case rel => exact ⟨k + 1, by omega, by go_num, hrow3, hb3, by omega⟩
          case measure => simp [intOf]; omega
      · obtain rfl : k = a.length := by omega
        rw [List.take_length] at hrow
        go_wp2
        go_ret
        rw [HS.out]
        exact ⟨_, rfl, ⟨ownsRow_base hrow hb1.size, okI_filter hok _⟩, hb1.trans (hbl.mono hb1.size)⟩

/-! ### times a number -/
def mapTo (f : Itm → Int) (l : List Itm) (k : Nat) : List Itm := (l.take k).map (fun x => (x.1, f x)) ++ l.drop k
theorem mapTo_length (f : Itm → Int) (l : List Itm) (k : Nat) : (mapTo f l k).length = l.length := by simp [mapTo]; omega
theorem mapTo_get {f : Itm → Int} {l : List Itm} {k : Nat} (h : k < l.length) : (mapTo f l k)[k]'(by rw [mapTo_length]; exact h) = l[k] := by
  unfold mapTo
  rw [List.getElem_append_right (by simp; omega)]
  simp [Nat.min_eq_left (Nat.le_of_lt h)]
theorem mapTo_step {f : Itm → Int} {l : List Itm} {k : Nat} (h : k < l.length) : (mapTo f l k).set k (l[k].1, f l[k]) = mapTo f l (k + 1) := by
  unfold mapTo
  rw [List.set_append_right _ _ (by simp; omega), List.take_succ_eq_append_getElem h, List.drop_eq_getElem_cons h, List.length_map, List.length_take, Nat.min_eq_left (Nat.le_of_lt h), Nat.sub_self, List.map_append, List.append_assoc]
  rfl
theorem mapTo_all (f : Itm → Int) (l : List Itm) : mapTo f l l.length = l.map fun x => (x.1, f x) := by simp [mapTo]

theorem row_cell_at {w : World} {B E S g n c m : Nat} {xs : List Value} {u : Value} (h : w.ownsRow B E S (.slice (some ⟨g, 0, none⟩) n c) m xs) {j : Nat} (hj : xs[j]? = some u) : w.cell? ⟨g, j, none⟩ = some u := by
  have hj1 : j < m * S := by have := (List.getElem?_eq_some_iff.1 hj).1; rw [h.1] at this; exact this
  rcases h.2 with ⟨h', _⟩ | ⟨g', cap', cur, h', hb, hg, hnc, hcm, hcs, htake⟩
  · simp at h'
  · simp only [Value.slice.injEq, Option.some.injEq, Addr.mk.injEq, and_true] at h'
    obtain ⟨rfl, rfl, rfl⟩ := h'
    have hj' : j < cur.size := by rw [hcs]; exact Nat.lt_of_lt_of_le hj1 (Nat.mul_le_mul_right _ hnc)
    rw [cell_of_row w g j cur E (0, 0) hg, ← hj, ← htake, List.getElem?_take_of_lt hj1]
    simp
/-- One number of a row of its own written. -/
theorem row_number {w : World} {B E g n cap : Nat} {l : List Itm} {k : Nat} (h : w.ownsRow B E 2 (.slice (some ⟨g, 0, none⟩) n cap) n (cellsI l)) (hk : k < l.length) (m : Int) :
    (w.setCell ⟨g, k * 2 + 1, none⟩ (.int .i64 m)).ownsRow B E 2 (.slice (some ⟨g, 0, none⟩) n cap) n (cellsI (l.set k (l[k].1, m))) := by
  have h1 := (h.stored (k * 2 + 1) (.int .i64 m)).1
  rw [cellsI_set l k hk m] at h1
  exact h1
theorem cells_at {l : List Itm} {k : Nat} (h : k < l.length) : (cellsI l)[k * 2]? = some (.string l[k].1) ∧ (cellsI l)[k * 2 + 1]? = some (.int .i64 l[k].2) := by
  induction l generalizing k with
  | nil => simp at h
  | cons x r ih =>
    cases k with
    | zero => simp [cellsI]
    | succ k =>
      have := ih (k := k) (by simpa using h)
      have e : (k + 1) * 2 = k * 2 + 1 + 1 := by omega
      rw [e]
      simpa [cellsI] using this

set_option maxHeartbeats 1600000 in
theorem sScaleCounts_any (va : Value) (a : List Itm) (m : Int) (w : World) (ha : Items w va a) :
    Calls Try.prog 58 #[va, .int .i64 m] w (NewI2 (if (validI a && numB m) = true then chkI (sumL [] a m) else []) ((validI a && numB m) && validI (sumL [] a m)) w) := by
  go_enter Try.func58, Try.ntmps58
  cases hv : validI a
  · have H := Lib.hid hv
    clear hv
    go_wp2_with fail
    refine (sVi_v _ ha H.out).mono ?_
    rintro e w1 ⟨rfl, hb1⟩
    go_wp2
    go_ret2
    exact ⟨_, rfl, OwnI_nil _ _ _, hb1⟩
  · have H := Lib.hid hv
    clear hv
    cases hm : numB m
    · have HM := Lib.hid (show (decide (-9999 ≤ m) && decide (m ≤ 9999)) = false from hm)
      clear hm
      go_wp2_with fail
      refine (sVi_v _ ha H.out).mono ?_
      rintro e w1 ⟨rfl, hb1⟩
      go_wp2_with fail
      refine (inRange_v _ HM.out).mono ?_
      rintro e w2 ⟨rfl, rfl⟩
      go_wp2
      go_ret2
      exact ⟨_, rfl, OwnI_nil _ _ _, hb1⟩
    · have HM := Lib.hid (show (decide (-9999 ≤ m) && decide (m ≤ 9999)) = true from hm)
      have hmb := numB_iff.1 hm
      clear hm
      have hsb := valid_small (m := m) H.out hmb.1 hmb.2
      have hn := valid_len H.out
      have HE := Lib.hid (scale_eq (valid_uniq H.out) m)
      have hok := ha.ok
      go_wp2_with fail
      refine (sVi_v _ ha H.out).mono ?_
      rintro e w1 ⟨rfl, hb1⟩
      go_wp2_with fail
      refine (inRange_v _ HM.out).mono ?_
      rintro e w2 ⟨rfl, rfl⟩
      go_wp2_with fail
      refine (copyItems_any va a w2 (ha.mono hb1 (Nat.le_refl _)) (by omega)).mono ?_
      rintro e w3 ⟨v3, rfl, ho3, hb3⟩
      clear ha
      obtain ⟨ao, cap, rfl, hlc, hcm⟩ := own_slice ho3.1
      have hrow0 : w3.ownsRow w2.heap.size 54 2 (.slice ao a.length cap) a.length (cellsI (mapTo (fun x => x.2 * m) a 0)) := by
        have : mapTo (fun x => x.2 * m) a 0 = a := by simp [mapTo]
        rw [this]; exact ho3.1
      clear ho3
      go_wp2
      go_loopw [7] (fun i wr => ∃ k : Nat, k ≤ a.length ∧ i = .int .i64 k ∧ wr.ownsRow w2.heap.size 54 2 (.slice ao a.length cap) a.length (cellsI (mapTo (fun x => x.2 * m) a k)) ∧ Below w2.heap.size w2 wr) (fun i _ => a.length - (intOf i).toNat)
      case atStart => exact ⟨0, Nat.zero_le _, rfl, hrow0, hb3⟩
      case round =>
        obtain ⟨k, hk, rfl, hrow, hbl⟩ := hrel
        by_cases hlt : k < a.length
        · obtain ⟨g, cap', e, hgc, hgB⟩ := own_shape hrow (by omega)
          simp only [Value.slice.injEq] at e
          obtain ⟨rfl, _, rfl⟩ := e
          have hg := mapTo_get (f := fun x => x.2 * m) hlt
          have hc := (cells_at (l := mapTo (fun x => x.2 * m) a k) (k := k) (by rw [mapTo_length]; exact hlt)).2
          rw [hg] at hc
          have c2 := row_cell_at hrow hc
          have f1 := hrow.frozenAt (k * 2 + 1)
          have hmul := hsb.2 _ (List.getElem_mem hlt)
          have e1 : IntKind.i64.wrap (a[k].2 * m) = a[k].2 * m := IntWalk.i64_in _ (by omega)
          have hrow3 := row_number hrow (k := k) (by rw [mapTo_length]; exact hlt) (a[k].2 * m)
          rw [hg, mapTo_step hlt] at hrow3
          have HR := Lib.hid hrow3
          clear hg hc hrow hrow3
          go_wp2
          go_roundw
          case rel => exact ⟨k + 1, by omega, by go_num, HR.out, hbl.setCell hgB _⟩
          case measure => simp [intOf]; omega
        · obtain rfl : k = a.length := by omega
          rw [mapTo_all, ← HE.out] at hrow
          have hlen : (sumL [] a m).length = a.length := by rw [HE.out, List.length_map]
          have hok2 := sumL_ok (small_nil 1) hsb (fun x hx => by simp at hx) hok
          have hoI : OwnI 54 wr w2.heap.size (.slice ao a.length cap) (sumL [] a m) := ⟨by rw [hlen]; exact hrow, hok2⟩
          go_wp2_with fail
          refine (schecked_any _ hoI).mono ?_
          rintro e w4 ⟨v4, rfl, ho4, hb4⟩
          go_wp2
          go_ret2
          exact ⟨_, rfl, ho4.base hb1.size, hb1.trans ((hbl.trans (hb4.mono hbl.size)).mono hb1.size)⟩
end Go.Proofs.Ytbiflkekhabpoaa
