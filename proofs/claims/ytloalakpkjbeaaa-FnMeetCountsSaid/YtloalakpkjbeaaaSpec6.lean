/-
  The model's functions, further: what is common to both, and the greater of both.
-/
import Derived.Test.YtloalakpkjbeaaaSpec5
namespace Go.Proofs.Ytloalakpkjbeaaa
open Go.RowKit

theorem min_if (x c : Int) : (if c < x then c else x) = min x c := by split <;> omega
theorem max_if (x c : Int) : (if x < c then c else x) = max x c := by split <;> omega

set_option maxHeartbeats 1600000 in
set_option maxRecDepth 100000 in
theorem sMeetCounts_any (va vb : Value) (a b : List Itm) (w : World) (ha : Items w va a) (hb : Items w vb b) :
    Calls Try.prog 40 #[va, vb] w (NewI (if (validI a && validI b) = true then posI (sumL a (posI (sumL a b (-1))) (-1)) else []) w) := by
  go_enter Try.func40, Try.ntmps40
  cases hv : (validI a && validI b)
  · have H := Lib.hid hv
    clear hv
    go_wp2_with fail
    refine (both_v _ ha hb H.out).mono ?_
    rintro e w1 ⟨rfl, hb1⟩
    go_wp2
    go_ret
    exact ⟨_, rfl, OwnI_nil _ _ _, hb1⟩
  · have H := Lib.hid hv
    clear hv
    have HV := both_yes H.out
    have hn := valid_len HV.1
    have HE : Hid (posI (sumL a (posI (sumL a b (-1))) (-1)) = posI (a.map fun x => (x.1, min x.2 (cnt b x.1)))) := by
      unfold Hid
      rw [sumL_valid HV.1, sumL_valid HV.1]
      exact meet_eq (valid_uniq HV.1) (valid_uniq HV.2)
    have hca := valid_num HV.1
    have hcb := valid_cnt HV.2
    have hok := ha.ok
    go_wp2_with fail
    refine (both_v _ ha hb H.out).mono ?_
    rintro e w1 ⟨rfl, hb1⟩
    go_wp2_with fail
    refine (copyItems_any va a w1 (ha.mono hb1 (Nat.le_refl _)) (by omega)).mono ?_
    rintro e w3 ⟨v3, rfl, ho3, hb3⟩
    have hIb := Lib.hid (hb.mono hb1 (Nat.le_refl _))
    clear ha hb
    obtain ⟨ao, cap, rfl, hlc, hcm⟩ := own_slice ho3.1
    have hrow0 : w3.ownsRow w1.heap.size 39 2 (.slice ao a.length cap) a.length (cellsI (mapTo (fun x => min x.2 (cnt b x.1)) a 0)) := by
      have : mapTo (fun x => min x.2 (cnt b x.1)) a 0 = a := by simp [mapTo]
      rw [this]; exact ho3.1
    clear ho3
    go_wp2
    go_loopw [6] (fun i wr => ∃ k : Nat, k ≤ a.length ∧ i = .int .i64 k ∧ wr.ownsRow w1.heap.size 39 2 (.slice ao a.length cap) a.length (cellsI (mapTo (fun x => min x.2 (cnt b x.1)) a k)) ∧ Below w1.heap.size w1 wr) (fun i _ => a.length - (intOf i).toNat)
    case atStart => exact ⟨0, Nat.zero_le _, rfl, hrow0, hb3⟩
    case round =>
      obtain ⟨k, hk, rfl, hrow, hbl⟩ := hrel
      by_cases hlt : k < a.length
      · obtain ⟨g, cap', e, hgc, hgB⟩ := own_shape hrow (by omega)
        simp only [Value.slice.injEq] at e
        obtain ⟨rfl, _, rfl⟩ := e
        have hg := mapTo_get (f := fun x => min x.2 (cnt b x.1)) hlt
        have hc := cells_at (l := mapTo (fun x => min x.2 (cnt b x.1)) a k) (k := k) (by rw [mapTo_length]; exact hlt)
        rw [hg] at hc
        have c1 := row_cell_at hrow hc.1
        have c2 := row_cell_at hrow hc.2
        have f1 := hrow.frozenAt (k * 2 + 1)
        have hrow3 := row_number hrow (k := k) (by rw [mapTo_length]; exact hlt) (min a[k].2 (cnt b a[k].1))
        rw [hg, mapTo_step hlt] at hrow3
        have HR := Lib.hid hrow3
        have hI := Lib.hid (hIb.out.mono hbl (Nat.le_refl _))
        clear hg hc hrow hrow3
        go_wp2_with fail
        refine wp_region_still_tail 17 (by kernel_rfl) (by kernel_rfl) ?_
        simp only [List.take_succ_cons, List.take_zero, List.drop_succ_cons, List.drop_zero]
        repeat still_step
        still_call (count_v _ hI.out.drew)
        repeat still_step
        refine wpStill_nil ?_
        change wpList _ _ _ _ _ wr.drew
        go_wp2
        go_roundw
        case rel => exact ⟨k + 1, by omega, by go_num, by rw [min_if]; exact HR.out, hbl.drew.setCell hgB _⟩
        case measure => simp [intOf]; omega
      · obtain rfl : k = a.length := by omega
        rw [mapTo_all] at hrow
        have hoI : OwnI 39 wr w1.heap.size (.slice ao a.length cap) (a.map fun x => (x.1, min x.2 (cnt b x.1))) := ⟨by rw [List.length_map]; exact hrow, fun x hx => by
          obtain ⟨y, hy, rfl⟩ := List.mem_map.1 hx
          have h1 := hok y hy
          have h2 := hcb y.1
          refine ⟨h1.1, ?_, ?_⟩
          · show _ ≤ min y.2 (cnt b y.1); omega
          · show min y.2 (cnt b y.1) ≤ _; omega⟩
        go_wp2_with fail
        refine (spositive_any _ _ wr hoI.items (by rw [List.length_map]; omega)).mono ?_
        rintro e w4 ⟨v4, rfl, ho4, hb4⟩
        rw [← HE.out] at ho4
        go_wp2
        go_ret
        exact ⟨_, rfl, ho4.base (Nat.le_trans hb1.size hbl.size), hb1.trans ((hbl.trans (hb4.mono hbl.size)).mono hb1.size)⟩
end Go.Proofs.Ytloalakpkjbeaaa
