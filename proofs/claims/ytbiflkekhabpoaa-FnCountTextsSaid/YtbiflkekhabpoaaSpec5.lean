/-
  The model's functions, further: within and the same.
-/
import Derived.Test.YtbiflkekhabpoaaSpec4
namespace Go.Proofs.Ytbiflkekhabpoaa
open Go.RowKit

theorem drewN_self (w : World) : ∃ n, w = w.drewN n := ⟨0, rfl⟩
theorem drewN_belows {w w' : World} (h : ∃ n, w' = w.drewN n) : Below w.heap.size w w' := by
  obtain ⟨n, rfl⟩ := h
  exact ⟨rfl, rfl, rfl, Nat.le_refl _, fun _ _ => rfl⟩
theorem Items.drewN {w wr : World} {v : Value} {xs : List Itm} (h : Items w v xs) (hw : ∃ n, wr = w.drewN n) : Items wr v xs := h.mono (drewN_belows hw) (Nat.le_refl _)

theorem all_step {l : List Itm} {p : Itm → Bool} {k : Nat} (h : k < l.length) (hk : (l.take k).all p = true) (hp : p l[k] = true) : (l.take (k + 1)).all p = true := by
  rw [List.take_succ_eq_append_getElem h, List.all_append, hk]
  simp [hp]
theorem all_bad {l : List Itm} {p : Itm → Bool} {k : Nat} (h : k < l.length) (hp : p l[k] = false) : l.all p = false := by
  cases ha : l.all p
  · rfl
  · rw [List.all_eq_true] at ha
    rw [ha _ (List.getElem_mem h)] at hp
    cases hp

set_option maxHeartbeats 1600000 in
theorem swithin_any (va vb : Value) (a b : List Itm) (w : World) (ha : Items w va a) (hb : Items w vb b) :
    Calls Try.prog 102 #[va, vb] w fun e w' => e = .returned (.bool (withinI a b)) ∧ ∃ n, w' = w.drewN n := by
  have hIa := Lib.hid ha
  have hIb := Lib.hid hb
  obtain ⟨ao, cap, rfl, hlc, hcm, hok, hcell⟩ := ha
  obtain ⟨ao', cap', rfl, hlc', hcm', hok', hcell'⟩ := hb
  go_enter Try.func102, Try.ntmps102
  go_wp2
  go_loopw [5] (fun i wr => ∃ k : Nat, k ≤ a.length ∧ i = .int .i64 k ∧ Hid ((a.take k).all (fun x => decide (x.2 ≤ cnt b x.1)) = true) ∧ Hid (∃ n, wr = w.drewN n)) (fun i _ => a.length - (intOf i).toNat)
  case atStart => exact ⟨0, Nat.zero_le _, rfl, rfl, drewN_self _⟩
  case round =>
    obtain ⟨k, hk, rfl, HA, HW⟩ := hrel
    by_cases hlt : k < a.length
    · obtain ⟨g, o, rfl, hg, h1, h2⟩ := hcell k hlt
      have hbl := drewN_belows HW.out
      have c1 := (hbl.cell (p := ⟨g, _, none⟩) hg).trans h1
      have c2 := (hbl.cell (p := ⟨g, _, none⟩) hg).trans h2
      have hIb2 := Lib.hid (hIb.out.drewN HW.out)
      clear h1 h2
      by_cases hp : cnt b a[k].1 < a[k].2
      · go_wp2_with fail
        go_quiet ((go_at_call 81; exact Calls.quiet_of_same (count_v _ hIb2.out)))
        go_wp2
        go_ret
        refine ⟨ret_bool ?_, drewN_go HW.out _⟩
        unfold withinI
        rw [all_bad hlt (by rw [decide_eq_false_iff_not]; omega), Bool.false_and]
      · have hA' : Hid ((a.take (k + 1)).all (fun x => decide (x.2 ≤ cnt b x.1)) = true) := all_step hlt HA.out (by rw [decide_eq_true_eq]; omega)
        go_wp2_with fail
        go_quiet ((go_at_call 81; exact Calls.quiet_of_same (count_v _ hIb2.out)))
        go_wp2
        go_roundw
        case rel => exact ⟨k + 1, by omega, by go_num, hA', drewN_go HW.out _⟩
        case measure => simp [intOf]; omega
    · obtain rfl : k = a.length := by omega
      rw [List.take_length] at HA
      go_wp2
      go_loopw [6] (fun i wr => ∃ k : Nat, k ≤ b.length ∧ i = .int .i64 k ∧ Hid ((b.take k).all (fun x => decide (cnt a x.1 ≤ x.2)) = true) ∧ Hid (∃ n, wr = w.drewN n)) (fun i _ => b.length - (intOf i).toNat)
      case atStart => exact ⟨0, Nat.zero_le _, rfl, rfl, HW⟩
      case round =>
        clear HW
        obtain ⟨k, hk, rfl, HB, HW⟩ := hrel
        by_cases hlt2 : k < b.length
        · obtain ⟨g, o, rfl, hg, h1, h2⟩ := hcell' k hlt2
          have hbl := drewN_belows HW.out
          have c1 := (hbl.cell (p := ⟨g, _, none⟩) hg).trans h1
          have c2 := (hbl.cell (p := ⟨g, _, none⟩) hg).trans h2
          have hIa2 := Lib.hid (hIa.out.drewN HW.out)
          clear h1 h2
          by_cases hp : b[k].2 < cnt a b[k].1
          · go_wp2_with fail
            go_quiet ((go_at_call 81; exact Calls.quiet_of_same (count_v _ hIa2.out)))
            go_wp2
            go_ret
            refine ⟨ret_bool ?_, drewN_go HW.out _⟩
            unfold withinI
            rw [all_bad (l := b) hlt2 (by rw [decide_eq_false_iff_not]; omega), Bool.and_false]
          · have hB' : Hid ((b.take (k + 1)).all (fun x => decide (cnt a x.1 ≤ x.2)) = true) := all_step hlt2 HB.out (by rw [decide_eq_true_eq]; omega)
            go_wp2_with fail
            go_quiet ((go_at_call 81; exact Calls.quiet_of_same (count_v _ hIa2.out)))
            go_wp2
            go_roundw
            case rel => exact ⟨k + 1, by omega, by go_num, hB', drewN_go HW.out _⟩
            case measure => simp [intOf]; omega
        · obtain rfl : k = b.length := by omega
          rw [List.take_length] at HB
          go_wp2
          go_ret
          refine ⟨ret_bool ?_, HW.out⟩
          unfold withinI
          rw [HA.out, HB.out]
          rfl

theorem swithin_v {va vb : Value} {a b : List Itm} {r : Bool} (w : World) (ha : Items w va a) (hb : Items w vb b) (hr : withinI a b = r) :
    Calls Try.prog 102 #[va, vb] w fun e w' => e = .returned (.bool r) ∧ Below w.heap.size w w' :=
  (swithin_any va vb a b w ha hb).mono fun _ _ ⟨he, hw⟩ => ⟨hr ▸ he, drewN_belows hw⟩

theorem sWithinCounts_any (va vb : Value) (a b : List Itm) (w : World) (ha : Items w va a) (hb : Items w vb b) :
    Calls Try.prog 65 #[va, vb] w fun e w' => e = .returned (.bool ((validI a && validI b) && decide ((posI (sumL a b (-1))).length = 0))) ∧ Below w.heap.size w w' := by
  go_enter Try.func65, Try.ntmps65
  cases hv : (validI a && validI b)
  · have H := Lib.hid hv
    clear hv
    go_wp2_with fail
    refine (both_v _ ha hb H.out).mono ?_
    rintro e w1 ⟨rfl, hb1⟩
    go_wp2
    go_ret
    exact ⟨rfl, hb1⟩
  · have H := Lib.hid hv
    clear hv
    have HV := both_yes H.out
    rw [sumL_valid HV.1, within_eq (valid_uniq HV.1) (valid_uniq HV.2)]
    go_wp2_with fail
    refine (both_v _ ha hb H.out).mono ?_
    rintro e w1 ⟨rfl, hb1⟩
    go_wp2_with fail
    refine (swithin_v w1 (ha.mono hb1 (Nat.le_refl _)) (hb.mono hb1 (Nat.le_refl _)) rfl).mono ?_
    rintro e w2 ⟨rfl, hb2⟩
    go_wp2
    go_ret
    exact ⟨rfl, hb1.trans (hb2.mono hb1.size)⟩

theorem sSameCounts_any (va vb : Value) (a b : List Itm) (w : World) (ha : Items w va a) (hb : Items w vb b) :
    Calls Try.prog 67 #[va, vb] w fun e w' => e = .returned (.bool ((validI a && validI b) && decide ((nzI (sumL a b (-1))).length = 0))) ∧ Below w.heap.size w w' := by
  go_enter Try.func67, Try.ntmps67
  cases hv : (validI a && validI b)
  · have H := Lib.hid hv
    clear hv
    go_wp2_with fail
    refine (both_v _ ha hb H.out).mono ?_
    rintro e w1 ⟨rfl, hb1⟩
    go_wp2
    go_ret
    exact ⟨rfl, hb1⟩
  · have H := Lib.hid hv
    clear hv
    have HV := both_yes H.out
    rw [sumL_valid HV.1, same_eq (valid_uniq HV.1) (valid_uniq HV.2)]
    cases hw1 : withinI a b
    · have HW1 := Lib.hid hw1
      clear hw1
      go_wp2_with fail
      refine (both_v _ ha hb H.out).mono ?_
      rintro e w1 ⟨rfl, hb1⟩
      go_wp2_with fail
      refine (swithin_v w1 (ha.mono hb1 (Nat.le_refl _)) (hb.mono hb1 (Nat.le_refl _)) HW1.out).mono ?_
      rintro e w2 ⟨rfl, hb2⟩
      go_wp2
      go_ret
      exact ⟨rfl, hb1.trans (hb2.mono hb1.size)⟩
    · have HW1 := Lib.hid hw1
      clear hw1
      go_wp2_with fail
      refine (both_v _ ha hb H.out).mono ?_
      rintro e w1 ⟨rfl, hb1⟩
      go_wp2_with fail
      refine (swithin_v w1 (ha.mono hb1 (Nat.le_refl _)) (hb.mono hb1 (Nat.le_refl _)) HW1.out).mono ?_
      rintro e w2 ⟨rfl, hb2⟩
      have hb12 := hb1.trans (hb2.mono hb1.size)
      go_wp2_with fail
      refine (swithin_v w2 (hb.mono hb12 (Nat.le_refl _)) (ha.mono hb12 (Nat.le_refl _)) rfl).mono ?_
      rintro e w3 ⟨rfl, hb3⟩
      go_wp2
      go_ret
      exact ⟨rfl, hb12.trans (hb3.mono hb12.size)⟩
end Go.Proofs.Ytbiflkekhabpoaa
