/-
  What is read of a deque, by the model and by the program: how often a number is there, its first place, a number at a place.
-/
import Derived.Test.YtcipkdegcplmcaaDq
namespace Go.Proofs.Ytcipkdegcplmcaa
open Go.RowKit

/-! ### how often a number is there -/
def cntN (xs : List Int) (x : Int) : Nat := xs.count x
theorem cntN_hit {xs : List Int} {x : Int} {k : Nat} (hk : k < xs.length) (h : xs[k] = x) : cntN (xs.take (k + 1)) x = cntN (xs.take k) x + 1 := by
  unfold cntN
  rw [List.take_succ_eq_append_getElem hk, List.count_append, h]
  simp
theorem cntN_miss {xs : List Int} {x : Int} {k : Nat} (hk : k < xs.length) (h : ¬ xs[k] = x) : cntN (xs.take (k + 1)) x = cntN (xs.take k) x := by
  unfold cntN
  rw [List.take_succ_eq_append_getElem hk, List.count_append]
  simp [h]
theorem cntN_le (xs : List Int) (x : Int) : cntN xs x ≤ xs.length := List.count_le_length
def cntD (xs : List Int) (m x : Int) : Int := if validD xs m = true then (cntN xs x : Int) else -1

set_option maxHeartbeats 800000 in
set_option maxRecDepth 100000 in
theorem sCountIn_any (v : Value) (xs : List Int) (m x : Int) (w : World) (h : Nums w v xs) :
    Calls Try.prog 36 #[.agg #[v, .int .i64 m], .int .i64 x] w (RetN (.int .i64 (cntD xs m x)) w) := by
  have h' := h
  obtain ⟨ao, cap, rfl, hlc, hcm, hok, hcell⟩ := h'
  go_enter Try.func36, Try.ntmps36
  have HB0 : Hid (Below w.heap.size w (w.alloc (.cells #[.slice ao xs.length cap, .int .i64 m] 25))) := (Below.refl _ _).alloc (Nat.le_refl _) _
  have G0 := heap_new w (.cells #[.slice ao xs.length cap, .int .i64 m] 25)
  have g0 := two_cell0 G0
  have g1 := two_cell1 G0
  cases hv : validD xs m
  all_goals
    have HV := Lib.hid hv
    clear hv
    go_wp2_with fail
    refine (svD_v _ (h.mono HB0.out (Nat.le_refl _)) HV.out).mono ?_
    rintro e w1 ⟨rfl, hb⟩
    have HB : Hid (Below w.heap.size w w1) := HB0.out.trans (hb.mono (by simp))
    have G1 := two_below G0 hb (by simp)
    have q0 := two_cell0 G1
    clear g0 g1 G0 G1 hb
  · go_wp2
    go_ret
    exact ⟨ret_int (by unfold cntD; rw [HV.out]; rfl), HB.out⟩
  · go_wp2
    go_loopw [5, 6] (fun c i wr => ∃ k n : Nat, k ≤ xs.length ∧ i = .int .i64 k ∧ c = .int .i64 n ∧ n ≤ k ∧ Hid (n = cntN (xs.take k) x) ∧ wr = w1) (fun _ i _ => xs.length - (intOf i).toNat)
    case atStart => exact ⟨0, 0, Nat.zero_le _, rfl, rfl, Nat.le_refl _, rfl, rfl⟩
    case round =>
      obtain ⟨k, n, hk, rfl, rfl, hnk, HQ, rfl⟩ := hrel
      by_cases hlt : k < xs.length
      · obtain ⟨b, o, rfl, hb, h1⟩ := hcell k hlt
        have c1 := (HB.out.cell (p := ⟨b, _, none⟩) hb).trans h1
        by_cases hx : xs[k] = x
        · have HX := Lib.hid (cntN_hit hlt hx)
          go_wp2
          go_roundw
          case rel => exact ⟨k + 1, n + 1, by omega, by go_num, by go_num, by omega, by show _ = _; rw [HX.out, HQ.out], trivial⟩
          case measure => simp [intOf]; omega
        · have HX := Lib.hid (cntN_miss hlt hx)
          go_wp2
          go_roundw
          case rel => exact ⟨k + 1, n, by omega, by go_num, rfl, by omega, by show _ = _; rw [HX.out, HQ.out], trivial⟩
          case measure => simp [intOf]; omega
      · obtain rfl : k = xs.length := by omega
        go_wp2
        go_ret
        exact ⟨ret_int (by have := HQ.out; rw [List.take_length] at this; unfold cntD; rw [HV.out, this]; rfl), HB.out⟩

set_option maxHeartbeats 800000 in
set_option maxRecDepth 100000 in
theorem CountIn_any (v : Value) (xs : List Int) (m x : Int) (w : World) (h : Nums w v xs) :
    Calls Try.prog 35 #[.agg #[v, .int .i64 m], .int .i64 x] w (RetN (.int .i64 (cntD xs m x)) w) := by
  have h' := h
  obtain ⟨ao, cap, rfl, hlc, hcm, hok, hcell⟩ := h'
  go_enter Try.func35, Try.ntmps35
  have HB0 : Hid (Below w.heap.size w (w.alloc (.cells #[.slice ao xs.length cap, .int .i64 m] 25))) := (Below.refl _ _).alloc (Nat.le_refl _) _
  have G0 := heap_new w (.cells #[.slice ao xs.length cap, .int .i64 m] 25)
  have g0 := two_cell0 G0
  have g1 := two_cell1 G0
  cases hv : validD xs m
  all_goals
    have HV := Lib.hid hv
    clear hv
    go_wp2_with fail
    refine (VD_v _ (h.mono HB0.out (Nat.le_refl _)) HV.out).mono ?_
    rintro e w1 ⟨rfl, hb⟩
    have HB : Hid (Below w.heap.size w w1) := HB0.out.trans (hb.mono (by simp))
    have G1 := two_below G0 hb (by simp)
    have q0 := two_cell0 G1
    clear g0 g1 G0 G1 hb
  · go_wp2
    go_ret
    exact ⟨ret_int (by unfold cntD; rw [HV.out]; rfl), HB.out⟩
  · go_wp2
    go_loopw [5, 14] (fun c i wr => ∃ k n : Nat, k ≤ xs.length ∧ i = .int .i64 k ∧ c = .int .i64 n ∧ n ≤ k ∧ Hid (n = cntN (xs.take k) x) ∧ wr = w1) (fun _ i _ => xs.length - (intOf i).toNat)
    case atStart => exact ⟨0, 0, Nat.zero_le _, rfl, rfl, Nat.le_refl _, rfl, rfl⟩
    case round =>
      obtain ⟨k, n, hk, rfl, rfl, hnk, HQ, rfl⟩ := hrel
      by_cases hlt : k < xs.length
      · obtain ⟨b, o, rfl, hb, h1⟩ := hcell k hlt
        have c1 := (HB.out.cell (p := ⟨b, _, none⟩) hb).trans h1
        by_cases hx : xs[k] = x
        · have HX := Lib.hid (cntN_hit hlt hx)
          go_wp2
          go_roundw
          case rel => exact ⟨k + 1, n + 1, by omega, by go_num, by go_num, by omega, by show _ = _; rw [HX.out, HQ.out], trivial⟩
          case measure => simp [intOf]; omega
        · have HX := Lib.hid (cntN_miss hlt hx)
          go_wp2
          go_roundw
          case rel => exact ⟨k + 1, n, by omega, by go_num, rfl, by omega, by show _ = _; rw [HX.out, HQ.out], trivial⟩
          case measure => simp [intOf]; omega
      · obtain rfl : k = xs.length := by omega
        go_wp2
        go_ret
        exact ⟨ret_int (by have := HQ.out; rw [List.take_length] at this; unfold cntD; rw [HV.out, this]; rfl), HB.out⟩

/-! ### a place counted from either end -/
def atI (k n : Int) : Int := if -n ≤ k ∧ k ≤ -1 then k + n else if 0 ≤ k ∧ k ≤ n - 1 then k else -1
theorem atI_bd {k n : Int} (_hn : 0 ≤ n) : -1 ≤ atI k n ∧ (0 ≤ atI k n → atI k n < n) := by
  unfold atI
  split
  · omega
  · split <;> omega

set_option maxHeartbeats 800000 in
set_option maxRecDepth 100000 in
theorem satI_v {v : Value} {xs : List Int} {m k : Int} (w : World) (h : Nums w v xs) (hk : -9223372036854775808 ≤ k ∧ k ≤ 9223372036854775807) :
    Calls Try.prog 74 #[.agg #[v, .int .i64 m], .int .i64 k] w fun e w' => e = .returned (.int .i64 (atI k xs.length)) ∧ Below w.heap.size w w' := by
  obtain ⟨ao, cap, rfl, hlc, hcm⟩ := h.slice
  obtain ⟨hk0, hk1⟩ := hk
  go_enter Try.func74, Try.ntmps74
  have HB0 : Hid (Below w.heap.size w (w.alloc (.cells #[.slice ao xs.length cap, .int .i64 m] 25))) := (Below.refl _ _).alloc (Nat.le_refl _) _
  have G0 := heap_new w (.cells #[.slice ao xs.length cap, .int .i64 m] 25)
  have g0 := two_cell0 G0
  have g1 := two_cell1 G0
  clear G0
  by_cases h1 : -(xs.length : Int) ≤ k ∧ k ≤ -1
  · obtain ⟨h2, h3⟩ := h1
    have e1 : Hid ((decide (-(xs.length : Int) ≤ k) && decide (k ≤ -1)) = true) := by show _ = _; simp [h2, h3]
    have e2 : Hid ((decide (0 ≤ k + (xs.length : Int)) && decide (k + (xs.length : Int) ≤ (xs.length : Int) - 1)) = true) := by show _ = _; simp; omega
    go_wp2_with fail
    refine (rgN_v _ e1.out).mono ?_
    rintro e w1 ⟨rfl, rfl⟩
    go_wp2_with fail
    refine (rgN_v _ e2.out).mono ?_
    rintro e w1 ⟨rfl, rfl⟩
    go_wp2
    go_ret
    exact ⟨ret_int (by unfold atI; rw [if_pos ⟨h2, h3⟩]), HB0.out⟩
  · have e1 : Hid ((decide (-(xs.length : Int) ≤ k) && decide (k ≤ -1)) = false) := by
      show _ = _
      rw [Bool.eq_false_iff]
      simpa using h1
    go_wp2_with fail
    refine (rgN_v _ e1.out).mono ?_
    rintro e w1 ⟨rfl, rfl⟩
    by_cases h4 : 0 ≤ k ∧ k ≤ (xs.length : Int) - 1
    · have e2 : Hid ((decide (0 ≤ k) && decide (k ≤ (xs.length : Int) - 1)) = true) := by show _ = _; simpa using h4
      go_wp2_with fail
      refine (rgN_v _ e2.out).mono ?_
      rintro e w1 ⟨rfl, rfl⟩
      go_wp2
      go_ret
      exact ⟨ret_int (by unfold atI; rw [if_neg h1, if_pos h4]), HB0.out⟩
    · have e2 : Hid ((decide (0 ≤ k) && decide (k ≤ (xs.length : Int) - 1)) = false) := by
        show _ = _
        rw [Bool.eq_false_iff]
        simpa using h4
      go_wp2_with fail
      refine (rgN_v _ e2.out).mono ?_
      rintro e w1 ⟨rfl, rfl⟩
      go_wp2
      go_ret
      exact ⟨ret_int (by unfold atI; rw [if_neg h1, if_neg h4]), HB0.out⟩

def inD (xs : List Int) (m k : Int) : Int := if validD xs m = true then atI k xs.length else -1
theorem inD_bd {xs : List Int} {m k : Int} : -1 ≤ inD xs m k ∧ (0 ≤ inD xs m k → inD xs m k < xs.length ∧ validD xs m = true ∧ inD xs m k = atI k xs.length) := by
  unfold inD
  have := atI_bd (k := k) (n := (xs.length : Int)) (by omega)
  split
  · rename_i h
    exact ⟨this.1, fun h0 => ⟨this.2 h0, h, rfl⟩⟩
  · exact ⟨by omega, fun h0 => by omega⟩

set_option maxHeartbeats 800000 in
set_option maxRecDepth 100000 in
theorem indexOf_v {v : Value} {xs : List Int} {m k : Int} (w : World) (h : Nums w v xs) (hk : -9223372036854775808 ≤ k ∧ k ≤ 9223372036854775807) :
    Calls Try.prog 72 #[.agg #[v, .int .i64 m], .int .i64 k] w fun e w' => e = .returned (.int .i64 (inD xs m k)) ∧ Below w.heap.size w w' := by
  obtain ⟨ao, cap, rfl, hlc, hcm⟩ := h.slice
  obtain ⟨hk0, hk1⟩ := hk
  go_enter Try.func72, Try.ntmps72
  have HB0 : Hid (Below w.heap.size w (w.alloc (.cells #[.slice ao xs.length cap, .int .i64 m] 25))) := (Below.refl _ _).alloc (Nat.le_refl _) _
  have G0 := heap_new w (.cells #[.slice ao xs.length cap, .int .i64 m] 25)
  have g0 := two_cell0 G0
  have g1 := two_cell1 G0
  clear G0
  cases hv : validD xs m
  all_goals
    have HV := Lib.hid hv
    clear hv
    go_wp2_with fail
    refine (VD_v _ (h.mono HB0.out (Nat.le_refl _)) HV.out).mono ?_
    rintro e w1 ⟨rfl, hb⟩
    have HB : Hid (Below w.heap.size w w1) := HB0.out.trans (hb.mono (by simp))
    clear g0 g1 hb
  · go_wp2
    go_ret
    exact ⟨ret_int (by unfold inD; rw [HV.out]; rfl), HB.out⟩
  · have hl := validD_len HV.out
    have HI : Hid (∀ q, q = atI k xs.length → q = inD xs m k) := by
      intro q hq
      unfold inD
      rw [HV.out, hq]
      rfl
    go_wp2
    all_goals go_ret
    all_goals refine ⟨ret_int (HI.out _ ?_), HB.out⟩
    all_goals unfold atI
    all_goals split
    all_goals first | omega | (split <;> omega)

/-! ### the number there -/
def getV (xs : List Int) (i : Int) : Int := if 0 ≤ i then xs.getD i.toNat 0 else 0
theorem getV_at {xs : List Int} {i : Nat} (h : i < xs.length) : getV xs (i : Int) = xs[i] := by
  unfold getV
  rw [if_pos (by omega)]
  simp [h]
theorem ret_ib {a a' : Int} {b b' : Bool} (h : a = a') (h2 : b = b') : Ending.returned (.tuple #[.int .i64 a, .bool b]) = .returned (.tuple #[.int .i64 a', .bool b']) := by rw [h, h2]
def getOk (i : Int) : Bool := decide (0 ≤ i)

set_option maxHeartbeats 800000 in
set_option maxRecDepth 100000 in
theorem GetAt_any (v : Value) (xs : List Int) (m k : Int) (w : World) (h : Nums w v xs) (hk : -9223372036854775808 ≤ k ∧ k ≤ 9223372036854775807) :
    Calls Try.prog 26 #[.agg #[v, .int .i64 m], .int .i64 k] w (RetN (.tuple #[.int .i64 (getV xs (inD xs m k)), .bool (getOk (inD xs m k))]) w) := by
  have h' := h
  obtain ⟨ao, cap, rfl, hlc, hcm, hok, hcell⟩ := h'
  go_enter Try.func26, Try.ntmps26
  have HB0 : Hid (Below w.heap.size w (w.alloc (.cells #[.slice ao xs.length cap, .int .i64 m] 25))) := (Below.refl _ _).alloc (Nat.le_refl _) _
  have G0 := heap_new w (.cells #[.slice ao xs.length cap, .int .i64 m] 25)
  have g0 := two_cell0 G0
  have g1 := two_cell1 G0
  have HI := inD_bd (xs := xs) (m := m) (k := k)
  obtain ⟨q, hq⟩ : ∃ q, q = inD xs m k := ⟨_, rfl⟩
  rw [← hq] at HI ⊢
  have HQ := Lib.hid hq
  clear hq
  go_wp2_with fail
  refine (indexOf_v _ (h.mono HB0.out (Nat.le_refl _)) hk).mono ?_
  rintro e w1 ⟨rfl, hb⟩
  rw [← HQ.out]
  have HB : Hid (Below w.heap.size w w1) := HB0.out.trans (hb.mono (by simp))
  have G1 := two_below G0 hb (by simp)
  have q0 := two_cell0 G1
  clear g0 g1 G0 G1 hb
  by_cases hq0 : q < 0
  · go_wp2
    go_ret2
    exact ⟨ret_ib (by unfold getV; rw [if_neg (by omega)]) (by unfold getOk; rw [decide_eq_false (by omega)]), HB.out⟩
  · obtain ⟨i, rfl⟩ : ∃ i : Nat, q = i := ⟨q.toNat, by omega⟩
    have hlt : i < xs.length := by have := (HI.2 (by omega)).1; omega
    obtain ⟨b, o, rfl, hb, h1⟩ := hcell i hlt
    have c1 := (HB.out.cell (p := ⟨b, _, none⟩) hb).trans h1
    have HG := Lib.hid (getV_at hlt)
    clear HI
    go_wp2
    go_ret2
    exact ⟨ret_ib (by exact HG.out.symm) (by unfold getOk; rw [decide_eq_true (by omega)]), HB.out⟩

end Go.Proofs.Ytcipkdegcplmcaa
