/-
  Whether a deque is valid, by the model and by the program; a deque that is checked.
-/
import Derived.Test.YtcipkdegcplmcaaNumT
namespace Go.Proofs.Ytcipkdegcplmcaa
open Go.RowKit

def allN (xs : List Int) : Bool := xs.all numB
def areN (xs : List Int) : Bool := decide (xs.length ≤ 10) && allN xs
def limB (m : Int) : Bool := decide (-1 ≤ m) && decide (m ≤ 10)
def validD (xs : List Int) (m : Int) : Bool := allN xs && limB m && decide (xs.length ≤ 10) && (decide (m < 0) || decide ((xs.length : Int) ≤ m))
theorem allN_iff {xs : List Int} : allN xs = true ↔ ∀ x ∈ xs, -9999 ≤ x ∧ x ≤ 9999 := by simp [allN, numB]
theorem limB_iff {m : Int} : limB m = true ↔ -1 ≤ m ∧ m ≤ 10 := by simp [limB]
theorem areN_iff {xs : List Int} : areN xs = true ↔ xs.length ≤ 10 ∧ allN xs = true := by simp [areN]
theorem validD_iff {xs : List Int} {m : Int} : validD xs m = true ↔ allN xs = true ∧ (-1 ≤ m ∧ m ≤ 10) ∧ xs.length ≤ 10 ∧ (m < 0 ∨ (xs.length : Int) ≤ m) := by
  unfold validD
  rw [Bool.and_eq_true, Bool.and_eq_true, Bool.and_eq_true, limB_iff, Bool.or_eq_true, decide_eq_true_eq, decide_eq_true_eq, decide_eq_true_eq]
  exact ⟨fun ⟨⟨⟨a, b⟩, c⟩, d⟩ => ⟨a, b, c, d⟩, fun ⟨a, b, c, d⟩ => ⟨⟨⟨a, b⟩, c⟩, d⟩⟩
theorem validD_len {xs : List Int} {m : Int} (h : validD xs m = true) : xs.length ≤ 10 := (validD_iff.1 h).2.2.1
theorem validD_all {xs : List Int} {m : Int} (h : validD xs m = true) : allN xs = true := (validD_iff.1 h).1
theorem validD_lim {xs : List Int} {m : Int} (h : validD xs m = true) : -1 ≤ m ∧ m ≤ 10 := (validD_iff.1 h).2.1
theorem vd_no {xs : List Int} {m : Int} (H : Hid (allN xs = false)) : false = validD xs m := by unfold validD; rw [H.out]; rfl
theorem vd_b {xs : List Int} {m : Int} {b : Bool} (H : Hid (allN xs = true)) (h : b = true ↔ (-1 ≤ m ∧ m ≤ 10) ∧ xs.length ≤ 10 ∧ (m < 0 ∨ (xs.length : Int) ≤ m)) : b = validD xs m := by
  rw [Bool.eq_iff_iff, validD_iff, h]
  exact ⟨fun h => ⟨H.out, h⟩, fun h => h.2⟩
theorem allN_at {xs : List Int} {k : Nat} (hk : k < xs.length) (h : numB xs[k] = false) : allN xs = false := by
  cases e : allN xs
  · rfl
  · have := allN_iff.1 e _ (List.getElem_mem hk)
    rw [← numB_iff, h] at this
    cases this
theorem allN_upto {xs : List Int} {k : Nat} (h : allN (xs.take k) = true) (hk : k < xs.length) (hn : numB xs[k] = true) : allN (xs.take (k + 1)) = true := by
  rw [List.take_succ_eq_append_getElem hk]
  unfold allN at *
  rw [List.all_append, h]
  simp [hn]

theorem rgN_v {n lo hi : Int} {b : Bool} (w : World) (h : (decide (lo ≤ n) && decide (n ≤ hi)) = b) : Calls Try.prog 82 #[.int .i64 n, .int .i64 lo, .int .i64 hi] w fun e w' => e = .returned (.bool b) ∧ w = w' :=
  (inRange_any n lo hi w).mono fun _ _ ⟨he, hw⟩ => ⟨by rw [he, h], hw⟩
theorem isNum_v {n : Int} {b : Bool} (w : World) (h : numB n = b) : Calls Try.prog 86 #[.int .i64 n] w fun e w' => e = .returned (.bool b) ∧ w = w' :=
  (isNumber_any n w).mono fun _ _ ⟨he, hw⟩ => ⟨by rw [he, h], hw⟩
theorem lim_v {m : Int} {b : Bool} (w : World) (h : limB m = b) : Calls Try.prog 82 #[.int .i64 m, .int .i64 (-1), .int .i64 10] w fun e w' => e = .returned (.bool b) ∧ w = w' := rgN_v w h

/-! ### by the model -/
set_option maxHeartbeats 1600000 in
set_option maxRecDepth 100000 in
theorem svD_any (v : Value) (xs : List Int) (m : Int) (w : World) (h : Nums w v xs) :
    Calls Try.prog 61 #[.agg #[v, .int .i64 m]] w fun e w' => e = .returned (.bool (validD xs m)) ∧ Below w.heap.size w w' := by
  have hcell := h
  obtain ⟨ao, cap, rfl, hlc, hcm, hok, hcell⟩ := hcell
  go_enter Try.func61, Try.ntmps61
  have HB0 : Hid (Below w.heap.size w (w.alloc (.cells #[.slice ao xs.length cap, .int .i64 m] 25))) := (Below.refl _ _).alloc (Nat.le_refl _) _
  have G0 := heap_new w (.cells #[.slice ao xs.length cap, .int .i64 m] 25)
  have g0 := two_cell0 G0
  have g1 := two_cell1 G0
  clear G0
  go_wp2
  go_loopw [3] (fun i wr => ∃ k : Nat, k ≤ xs.length ∧ i = .int .i64 k ∧ Hid (allN (xs.take k) = true) ∧ wr = w.alloc (.cells #[.slice ao xs.length cap, .int .i64 m] 25)) (fun i _ => xs.length - (intOf i).toNat)
  case atStart => exact ⟨0, Nat.zero_le _, rfl, rfl, rfl⟩
  case round =>
    obtain ⟨k, hk, rfl, HQ, rfl⟩ := hrel
    by_cases hlt : k < xs.length
    · obtain ⟨b, o, rfl, hb, h1⟩ := hcell k hlt
      have c1 := (HB0.out.cell (p := ⟨b, _, none⟩) hb).trans h1
      cases hn : numB xs[k]
      · have HN := Lib.hid (allN_at hlt hn)
        have HN2 := Lib.hid hn
        clear hn
        go_wp2_with fail
        refine (rgN_v _ HN2.out).mono ?_
        rintro e w2 ⟨rfl, rfl⟩
        go_wp2
        go_ret
        exact ⟨ret_bool (vd_no HN), HB0.out⟩
      · have HN := Lib.hid (allN_upto HQ.out hlt hn)
        have HN2 := Lib.hid hn
        clear hn
        go_wp2_with fail
        refine (rgN_v _ HN2.out).mono ?_
        rintro e w2 ⟨rfl, rfl⟩
        go_wp2
        go_roundw
        case rel => exact ⟨k + 1, by omega, by go_num, HN, trivial⟩
        case measure => simp [intOf]; omega
    · obtain rfl : k = xs.length := by omega
      have HA : Hid (allN xs = true) := by have := HQ.out; rw [List.take_length] at this; exact this
      cases hm : limB m
      · have HM := Lib.hid hm
        have hm' : ¬ (-1 ≤ m ∧ m ≤ 10) := fun h => by rw [limB_iff.2 h] at hm; cases hm
        clear hm
        go_wp2_with fail
        refine (lim_v _ HM.out).mono ?_
        rintro e w2 ⟨rfl, rfl⟩
        go_wp2
        go_ret
        exact ⟨ret_bool (vd_b HA (by simp [hm'])), HB0.out⟩
      · have HM := Lib.hid hm
        have hm' := limB_iff.1 hm
        clear hm
        go_wp2_with fail
        refine (lim_v _ HM.out).mono ?_
        rintro e w2 ⟨rfl, rfl⟩
        have hm1 := hm'.1
        have hm2 := hm'.2
        go_wp2
        all_goals go_ret
        all_goals refine ⟨ret_bool (vd_b HA ?_), HB0.out⟩
        all_goals simp [*]
        all_goals omega

theorem svD_v {v : Value} {xs : List Int} {m : Int} {b : Bool} (w : World) (h : Nums w v xs) (hb : validD xs m = b) :
    Calls Try.prog 61 #[.agg #[v, .int .i64 m]] w fun e w' => e = .returned (.bool b) ∧ Below w.heap.size w w' :=
  (svD_any v xs m w h).mono fun _ _ ⟨he, hw⟩ => ⟨hb ▸ he, hw⟩
theorem svI_v {v : Value} {xs : List Int} {b : Bool} (w : World) (h : Nums w v xs) (hb : areN xs = b) :
    Calls Try.prog 62 #[v] w fun e w' => e = .returned (.bool b) ∧ Below w.heap.size w w' := by
  have hv : validD xs (-1) = b := by
    rw [← hb, Bool.eq_iff_iff, validD_iff, areN_iff]
    exact ⟨fun h => ⟨h.2.2.1, h.1⟩, fun h => ⟨h.2, ⟨by omega, by omega⟩, h.1, .inl (by omega)⟩⟩
  have HV := Lib.hid hv
  clear hv hb
  obtain ⟨ao, cap, rfl, _, _⟩ := h.slice
  go_enter Try.func62, Try.ntmps62
  go_wp2_with fail
  refine (svD_v _ h HV.out).mono ?_
  rintro e w1 ⟨rfl, hb⟩
  have HB := Lib.hid hb
  clear hb
  go_wp2
  go_ret
  exact ⟨rfl, HB.out⟩

/-! ### by the program -/
set_option maxHeartbeats 800000 in
set_option maxRecDepth 100000 in
theorem are_v {v : Value} {xs : List Int} {b : Bool} (w : World) (h : Nums w v xs) (hb : areN xs = b) :
    Calls Try.prog 55 #[v] w fun e w' => e = .returned (.bool b) ∧ w = w' := by
  subst hb
  obtain ⟨ao, cap, rfl, hlc, hcm, hok, hcell⟩ := h
  go_enter Try.func55, Try.ntmps55
  by_cases hl : xs.length ≤ 10
  · go_wp2
    go_loopw [10] (fun i wr => ∃ k : Nat, k ≤ xs.length ∧ i = .int .i64 k ∧ Hid (allN (xs.take k) = true) ∧ wr = w) (fun i _ => xs.length - (intOf i).toNat)
    case atStart => exact ⟨0, Nat.zero_le _, rfl, rfl, rfl⟩
    case round =>
      obtain ⟨k, hk, rfl, HQ, rfl⟩ := hrel
      by_cases hlt : k < xs.length
      · obtain ⟨b, o, rfl, hb, c1⟩ := hcell k hlt
        cases hn : numB xs[k]
        · have HN := Lib.hid (allN_at hlt hn)
          have HN2 := Lib.hid hn
          clear hn
          go_wp2_with fail
          refine (isNum_v _ HN2.out).mono ?_
          rintro e w2 ⟨rfl, rfl⟩
          go_wp2
          go_ret
          exact ⟨ret_bool (by unfold areN; rw [HN.out, Bool.and_false]), rfl⟩
        · have HN := Lib.hid (allN_upto HQ.out hlt hn)
          have HN2 := Lib.hid hn
          clear hn
          go_wp2_with fail
          refine (isNum_v _ HN2.out).mono ?_
          rintro e w2 ⟨rfl, rfl⟩
          go_wp2
          go_roundw
          case rel => exact ⟨k + 1, by omega, by go_num, HN, trivial⟩
          case measure => simp [intOf]; omega
      · obtain rfl : k = xs.length := by omega
        have HA : Hid (allN xs = true) := by have := HQ.out; rw [List.take_length] at this; exact this
        go_wp2
        go_ret
        exact ⟨ret_bool (by unfold areN; rw [HA.out, decide_eq_true hl]; rfl), rfl⟩
  · go_wp2
    go_ret
    exact ⟨ret_bool (by unfold areN; rw [decide_eq_false hl]; rfl), rfl⟩
theorem isLimit_v {m : Int} {b : Bool} (w : World) (h : limB m = b) :
    Calls Try.prog 79 #[.int .i64 m] w fun e w' => e = .returned (.bool b) ∧ w = w' := by
  subst h
  go_enter Try.func79, Try.ntmps79
  go_wp2
  all_goals go_ret
  all_goals refine ⟨ret_bool ?_, rfl⟩
  all_goals rw [Bool.eq_iff_iff, limB_iff]
  all_goals simp [*]
  all_goals omega

set_option maxHeartbeats 1600000 in
set_option maxRecDepth 100000 in
theorem VD_v {v : Value} {xs : List Int} {m : Int} {b : Bool} (w : World) (h : Nums w v xs) (hb : validD xs m = b) :
    Calls Try.prog 37 #[.agg #[v, .int .i64 m]] w fun e w' => e = .returned (.bool b) ∧ Below w.heap.size w w' := by
  subst hb
  obtain ⟨ao, cap, rfl, hlc, hcm⟩ := h.slice
  go_enter Try.func37, Try.ntmps37
  have HB0 : Hid (Below w.heap.size w (w.alloc (.cells #[.slice ao xs.length cap, .int .i64 m] 25))) := (Below.refl _ _).alloc (Nat.le_refl _) _
  have G0 := heap_new w (.cells #[.slice ao xs.length cap, .int .i64 m] 25)
  have g0 := two_cell0 G0
  have g1 := two_cell1 G0
  clear G0
  cases ha : areN xs
  · have HA := Lib.hid ha
    have ha' : ¬ (xs.length ≤ 10 ∧ allN xs = true) := fun h => by rw [areN_iff.2 h] at ha; cases ha
    have HV : Hid (false = validD xs m) := by
      show _ = _
      symm
      cases e : validD xs m
      · rfl
      · exact absurd ⟨validD_len e, validD_all e⟩ ha'
    clear ha ha'
    go_wp2_with fail
    refine (are_v _ (h.mono HB0.out (Nat.le_refl _)) HA.out).mono ?_
    rintro e w1 ⟨rfl, rfl⟩
    go_wp2
    go_ret
    exact ⟨ret_bool HV.out, HB0.out⟩
  · have HA := Lib.hid ha
    have hl := (areN_iff.1 ha).1
    have HN : Hid (allN xs = true) := (areN_iff.1 ha).2
    clear ha
    cases hm : limB m
    · have HM := Lib.hid hm
      have hm' : ¬ (-1 ≤ m ∧ m ≤ 10) := fun h => by rw [limB_iff.2 h] at hm; cases hm
      clear hm
      go_wp2_with fail
      refine (are_v _ (h.mono HB0.out (Nat.le_refl _)) HA.out).mono ?_
      rintro e w1 ⟨rfl, rfl⟩
      go_wp2_with fail
      refine (isLimit_v _ HM.out).mono ?_
      rintro e w2 ⟨rfl, rfl⟩
      go_wp2
      go_ret
      exact ⟨ret_bool (vd_b HN (by simp [hm'])), HB0.out⟩
    · have HM := Lib.hid hm
      have hm' := limB_iff.1 hm
      have hm1 := hm'.1
      have hm2 := hm'.2
      clear hm
      by_cases hneg : m = -1
      all_goals try subst hneg
      all_goals go_wp2_with fail
      all_goals refine (are_v _ (h.mono HB0.out (Nat.le_refl _)) HA.out).mono ?_
      all_goals rintro e w1 ⟨rfl, rfl⟩
      all_goals go_wp2_with fail
      all_goals refine (isLimit_v _ HM.out).mono ?_
      all_goals rintro e w2 ⟨rfl, rfl⟩
      all_goals go_wp2
      all_goals go_ret
      all_goals refine ⟨ret_bool (vd_b HN ?_), HB0.out⟩
      all_goals simp [*]
      all_goals omega
theorem VD_any (v : Value) (xs : List Int) (m : Int) (w : World) (h : Nums w v xs) : Calls Try.prog 37 #[.agg #[v, .int .i64 m]] w (RetN (.bool (validD xs m)) w) := VD_v w h rfl
end Go.Proofs.Ytcipkdegcplmcaa
