/-
  The model's functions, further: what is common to both, and the greater of both.
-/
import Derived.Test.YtbiflkekhabpoaaSpec5
namespace Go.Proofs.Ytbiflkekhabpoaa
open Go.RowKit

theorem min_if (x c : Int) : (if c < x then c else x) = min x c := by split <;> omega
theorem max_if (x c : Int) : (if x < c then c else x) = max x c := by split <;> omega

set_option maxHeartbeats 1600000 in
set_option maxRecDepth 100000 in
theorem sMeetCounts_any (va vb : Value) (a b : List Itm) (w : World) (ha : Items w va a) (hb : Items w vb b) :
    Calls Try.prog 48 #[va, vb] w (NewI (if (validI a && validI b) = true then posI (sumL a (posI (sumL a b (-1))) (-1)) else []) w) := by
  go_enter Try.func48, Try.ntmps48
  cases hv : (validI a && validI b)
  · have H := Lib.hid hv
    clear hv
    go_wp2_with fail
    refine (both_v _ ha hb H.out).mono ?_
    rintro e w1 ⟨rfl, hb1⟩
    go_wp2
    go_ret
    exact ⟨_, rfl, OwnI_nil _ _ _, hb1⟩
  · have H := Lib.hid hv
    clear hv
    have HV := both_yes H.out
    have hn := valid_len HV.1
    have HE : Hid (posI (sumL a (posI (sumL a b (-1))) (-1)) = posI (a.map fun x => (x.1, min x.2 (cnt b x.1)))) := by
      unfold Hid
      rw [sumL_valid HV.1, sumL_valid HV.1]
      exact meet_eq (valid_uniq HV.1) (valid_uniq HV.2)
    have hca := valid_num HV.1
    have hcb := valid_cnt HV.2
    have hok := ha.ok
    go_wp2_with fail
    refine (both_v _ ha hb H.out).mono ?_
    rintro e w1 ⟨rfl, hb1⟩
    go_wp2_with fail
    refine (copyItems_any va a w1 (ha.mono hb1 (Nat.le_refl _)) (by omega)).mono ?_
    rintro e w3 ⟨v3, rfl, ho3, hb3⟩
    have hIb := Lib.hid (hb.mono hb1 (Nat.le_refl _))
    clear ha hb
    obtain ⟨ao, cap, rfl, hlc, hcm⟩ := own_slice ho3.1
    have hrow0 : w3.ownsRow w1.heap.size 54 2 (.slice ao a.length cap) a.length (cellsI (mapTo (fun x => min x.2 (cnt b x.1)) a 0)) := by
      have : mapTo (fun x => min x.2 (cnt b x.1)) a 0 = a := by simp [mapTo]
      rw [this]; exact ho3.1
    clear ho3
    go_wp2
    go_loopw [6] (fun i wr => ∃ k : Nat, k ≤ a.length ∧ i = .int .i64 k ∧ wr.ownsRow w1.heap.size 54 2 (.slice ao a.length cap) a.length (cellsI (mapTo (fun x => min x.2 (cnt b x.1)) a k)) ∧ Below w1.heap.size w1 wr) (fun i _ => a.length - (intOf i).toNat)
    case atStart => exact ⟨0, Nat.zero_le _, rfl, hrow0, hb3⟩
    case round =>
      obtain ⟨k, hk, rfl, hrow, hbl⟩ := hrel
      by_cases hlt : k < a.length
      · obtain ⟨g, cap', e, hgc, hgB⟩ := own_shape hrow (by omega)
        simp only [Value.slice.injEq] at e
        obtain ⟨rfl, _, rfl⟩ := e
        have hg := mapTo_get (f := fun x => min x.2 (cnt b x.1)) hlt
        have hc := cells_at (l := mapTo (fun x => min x.2 (cnt b x.1)) a k) (k := k) (by rw [mapTo_length]; exact hlt)
        rw [hg] at hc
        have c1 := row_cell_at hrow hc.1
        have c2 := row_cell_at hrow hc.2
        have f1 := hrow.frozenAt (k * 2 + 1)
        have hrow3 := row_number hrow (k := k) (by rw [mapTo_length]; exact hlt) (min a[k].2 (cnt b a[k].1))
        rw [hg, mapTo_step hlt] at hrow3
        have HR := Lib.hid hrow3
        have hI := Lib.hid (hIb.out.mono hbl (Nat.le_refl _))
        clear hg hc hrow hrow3
        go_wp2_with fail
        refine wp_region_still_tail 17 (by kernel_rfl) (by kernel_rfl) ?_
        simp only [List.take_succ_cons, List.take_zero, List.drop_succ_cons, List.drop_zero]
        repeat still_step
        still_call (count_v _ hI.out.drew)
        repeat still_step
        refine wpStill_nil ?_
        change wpList _ _ _ _ _ wr.drew
        go_wp2
        go_roundw
        case rel => exact ⟨k + 1, by omega, by go_num, by rw [min_if]; exact HR.out, hbl.drew.setCell hgB _⟩
        case measure => simp [intOf]; omega
      · obtain rfl : k = a.length := by omega
        rw [mapTo_all] at hrow
        have hoI : OwnI 54 wr w1.heap.size (.slice ao a.length cap) (a.map fun x => (x.1, min x.2 (cnt b x.1))) := ⟨by rw [List.length_map]; exact hrow, fun x hx => by
          obtain ⟨y, hy, rfl⟩ := List.mem_map.1 hx
          have h1 := hok y hy
          have h2 := hcb y.1
          refine ⟨h1.1, ?_, ?_⟩
          · show _ ≤ min y.2 (cnt b y.1); omega
          · show min y.2 (cnt b y.1) ≤ _; omega⟩
        go_wp2_with fail
        refine (spositive_any _ _ wr hoI.items (by rw [List.length_map]; omega)).mono ?_
        rintro e w4 ⟨v4, rfl, ho4, hb4⟩
        rw [← HE.out] at ho4
        go_wp2
        go_ret
        exact ⟨_, rfl, ho4.base (Nat.le_trans hb1.size hbl.size), hb1.trans ((hbl.trans (hb4.mono hbl.size)).mono hb1.size)⟩
theorem rest_yes {b a : List Itm} {k : Nat} (h : k < b.length) (hq : hasI a b[k].1 = false) : restI (b.take (k + 1)) a = restI (b.take k) a ++ [b[k]] := by
  unfold restI; rw [List.take_succ_eq_append_getElem h, List.filter_append]; simp [hq]
theorem rest_no {b a : List Itm} {k : Nat} (h : k < b.length) (hq : hasI a b[k].1 = true) : restI (b.take (k + 1)) a = restI (b.take k) a := by
  unfold restI; rw [List.take_succ_eq_append_getElem h, List.filter_append]; simp [hq]

set_option maxHeartbeats 1600000 in
theorem srest_any (v va : Value) (xs a : List Itm) (w : World) (h : Items w v xs) (ha : Items w va a) (hn : xs.length ≤ 1000000) :
    Calls Try.prog 96 #[v, va] w (FreshI (restI xs a) w) := by
  obtain ⟨ao, cap, rfl, hlc, hcm, hok, hcell⟩ := h
  obtain ⟨i0, hi0, hz0, hz1, hz2⟩ := info_parts Try.infoI
  have hown0 := World.ownsRow_lit (base := w.heap.size) (e := 54) (size := 2) w #[] 0 (Nat.le_refl _) (by unfold maxLen; omega) rfl
  go_enter Try.func96, Try.ntmps96
  go_wp2
  go_loopw [5, 6] (fun x i wr => ∃ k : Nat, k ≤ xs.length ∧ i = .int .i64 k ∧ wr.ownsRow w.heap.size 54 2 x (restI (xs.take k) a).length (cellsI (restI (xs.take k) a)) ∧ Below w.heap.size w wr ∧ w.heap.size < wr.heap.size) (fun _ i _ => xs.length - (intOf i).toNat)
  case atStart => exact ⟨0, Nat.zero_le _, rfl, hown0, (Below.refl _ _).alloc (Nat.le_refl _) _, by simp⟩
  case round =>
    obtain ⟨k, hk, rfl, hrow, hbl, hsz⟩ := hrel
    by_cases hlt : k < xs.length
    · obtain ⟨b, o, rfl, hb, h1, h2⟩ := hcell k hlt
      have c1 := (hbl.cell (p := ⟨b, _, none⟩) hb).trans h1
      have c2 := (hbl.cell (p := ⟨b, _, none⟩) hb).trans h2
      have hle : (restI (xs.take k) a).length ≤ k := Nat.le_trans (List.length_filter_le _ _) (List.length_take_le _ _)
      have hI := Lib.hid (ha.mono hbl (Nat.le_refl _))
      have HP := placeI_has a xs[k].1 0
      clear h1 h2
      obtain ⟨xo, xcap, rfl, _, _⟩ := own_slice hrow
      cases hp : hasI a xs[k].1
      · have e1 := Lib.hid (rest_yes hlt hp)
        have hpl : placeI a xs[k].1 0 < 0 := by have := HP.1 hp; omega
        clear HP
        go_wp2_with (first
          | (go_at_call 110; refine (place_any _ _ _ _ hI.out).mono ?_; rintro e w2 ⟨rfl, rfl⟩)
          | (at_builtin; refine wpList_append_own _ rfl _ _ 25 rfl w.heap.size 54 i0 (.agg #[.string ⟨#[]⟩, .int .i64 0]) 2 24 Try.underlying25 hi0 hz0 hz1 hz2 rfl (by decide) (.slice xo (restI (xs.take k) a).length xcap) (restI (xs.take k) a).length (cellsI (restI (xs.take k) a)) rfl (hrow.alloc _) ⟨wr.heap.size, 0, none⟩ 1 1 [.string xs[k].1, .int .i64 xs[k].2] rfl rfl (cells_two_new _ _ _ _) (by intro u hu; simp at hu; rcases hu with rfl | rfl <;> rfl) (by unfold maxLen; omega) (by omega) (by simp; omega) ?_; intro v' w2 hown2 hgrow2 hnil2))
        have hs2 := hgrow2.size
        simp at hs2
        have hrow3 : w2.ownsRow w.heap.size 54 2 v' (restI (xs.take (k + 1)) a).length (cellsI (restI (xs.take (k + 1)) a)) := by
          rw [e1.out, cellsI_snoc, List.length_append]; exact hown2
        have hb3 := (hbl.alloc (Nat.le_of_lt hsz) _).grown hgrow2 (by simp; omega) (fun j hj => (hrow.lt j hj).1)
        clear hown2 hrow c1 c2 hgrow2 hnil2
        go_roundw
        case rel => exact ⟨k + 1, by omega, by go_num, hrow3, hb3, by omega⟩
        case measure => simp [intOf]; omega
      · have e1 := Lib.hid (rest_no hlt hp)
        have hpl : 0 ≤ placeI a xs[k].1 0 := by have := HP.2 hp; omega
        clear HP
        go_wp2_with (go_at_call 110; refine (place_any _ _ _ _ hI.out).mono ?_; rintro e w2 ⟨rfl, rfl⟩)
        go_roundw
        case rel => exact ⟨k + 1, by omega, by go_num, by rw [e1.out]; exact hrow, hbl, hsz⟩
        case measure => simp [intOf]; omega
    · obtain rfl : k = xs.length := by omega
      rw [List.take_length] at hrow
      go_wp2
      go_ret
      exact ⟨_, rfl, ⟨hrow, okI_filter hok _⟩, hbl⟩
end Go.Proofs.Ytbiflkekhabpoaa
