/-
  The first place of a number in a deque, by the model and by the program.
-/
import Derived.Test.YtfooiijfminlnaaDqR
namespace Go.Proofs.Ytfooiijfminlnaa
open Go.RowKit

/-- The place that a number tells, within a size. -/
def clp (k n : Int) : Int := if k < 0 then (if k + n < 0 then 0 else k + n) else if k < n then k else n
theorem clp_bd {k n : Int} (hn : 0 ≤ n) : 0 ≤ clp k n ∧ clp k n ≤ n := by
  unfold clp
  split
  · split <;> omega
  · split <;> omega
theorem clp_nat (k : Int) (n : Nat) : ∃ i : Nat, clp k n = i ∧ i ≤ n := by
  have := clp_bd (k := k) (n := (n : Int)) (by omega)
  exact ⟨(clp k n).toNat, by omega, by omega⟩

set_option maxHeartbeats 800000 in
theorem boundOf_v {k : Int} {n : Nat} {r : Int} (w : World) (hk : -9223372036854775808 ≤ k ∧ k ≤ 9223372036854775807) (hn : n ≤ 100) (hr : clp k n = r) :
    Calls Try.prog 77 #[.int .i64 k, .int .i64 n] w fun e w' => e = .returned (.int .i64 r) ∧ w = w' := by
  subst hr
  obtain ⟨hk0, hk1⟩ := hk
  go_enter Try.func77, Try.ntmps77
  by_cases h0 : k < 0
  · go_wp2
    all_goals go_ret
    all_goals refine ⟨ret_int ?_, rfl⟩
    all_goals unfold clp
    all_goals rw [if_pos h0]
    all_goals split
    all_goals omega
  · go_wp2
    all_goals go_ret
    all_goals refine ⟨ret_int ?_, rfl⟩
    all_goals unfold clp
    all_goals rw [if_neg (by omega)]
    all_goals split
    all_goals omega
set_option maxHeartbeats 800000 in
theorem clamp_v {k : Int} {n : Nat} {r : Int} (w : World) (hk : -9223372036854775808 ≤ k ∧ k ≤ 9223372036854775807) (hn : n ≤ 100) (hr : clp k n = r) :
    Calls Try.prog 78 #[.int .i64 k, .int .i64 n] w fun e w' => e = .returned (.int .i64 r) ∧ w = w' := by
  subst hr
  obtain ⟨hk0, hk1⟩ := hk
  go_enter Try.func78, Try.ntmps78
  by_cases h0 : k < 0
  · go_wp2
    all_goals go_ret
    all_goals refine ⟨ret_int ?_, rfl⟩
    all_goals unfold clp
    all_goals rw [if_pos h0]
    all_goals split
    all_goals omega
  · go_wp2
    all_goals go_ret
    all_goals refine ⟨ret_int ?_, rfl⟩
    all_goals unfold clp
    all_goals rw [if_neg (by omega)]
    all_goals split
    all_goals omega

/-- From place i on, ahead of place j. -/
def scanN (xs : List Int) (x : Int) (j i : Nat) : Int := if i < j then (if xs.getD i 0 = x then (i : Int) else scanN xs x j (i + 1)) else -1
termination_by j - i
theorem scan_hit {xs : List Int} {x : Int} {j i : Nat} (h : i < j) (hl : i < xs.length) (hx : xs[i] = x) : scanN xs x j i = i := by
  rw [scanN, if_pos h, if_pos (by simp [hl, hx])]
theorem scan_miss {xs : List Int} {x : Int} {j i : Nat} (h : i < j) (hl : i < xs.length) (hx : ¬ xs[i] = x) : scanN xs x j i = scanN xs x j (i + 1) := by
  rw [scanN, if_pos h, if_neg (by simp [hl, hx])]
theorem scan_end {xs : List Int} {x : Int} {j i : Nat} (h : ¬ i < j) : scanN xs x j i = -1 := by rw [scanN, if_neg h]
theorem scan_bd (xs : List Int) (x : Int) (j : Nat) : ∀ (n i : Nat), j - i ≤ n → -1 ≤ scanN xs x j i ∧ (0 ≤ scanN xs x j i → scanN xs x j i < j) := by
  intro n
  induction n with
  | zero => intro i h; rw [scan_end (by omega)]; omega
  | succ n ih =>
    intro i h
    by_cases hlt : i < j
    · rw [scanN, if_pos hlt]
      split
      · omega
      · exact ih (i + 1) (by omega)
    · rw [scan_end hlt]; omega
def idxD (xs : List Int) (m x f t : Int) : Int := if validD xs m = true then scanN xs x (clp t xs.length).toNat (clp f xs.length).toNat else -1
theorem idxD_bd (xs : List Int) (m x f t : Int) : -1 ≤ idxD xs m x f t ∧ (0 ≤ idxD xs m x f t → idxD xs m x f t < xs.length ∧ validD xs m = true) := by
  unfold idxD
  split
  · rename_i h
    have h1 := scan_bd xs x (clp t xs.length).toNat _ (clp f xs.length).toNat (Nat.le_refl _)
    have h2 := (clp_bd (k := t) (n := (xs.length : Int)) (by omega))
    exact ⟨h1.1, fun h0 => ⟨by have := h1.2 h0; omega, h⟩⟩
  · exact ⟨by omega, fun h0 => by omega⟩

set_option maxHeartbeats 800000 in
set_option maxRecDepth 100000 in
theorem IndexIn_any (v : Value) (xs : List Int) (m x f t : Int) (w : World) (h : Nums w v xs) (hf : -9223372036854775808 ≤ f ∧ f ≤ 9223372036854775807) (ht : -9223372036854775808 ≤ t ∧ t ≤ 9223372036854775807) :
    Calls Try.prog 47 #[.agg #[v, .int .i64 m], .int .i64 x, .int .i64 f, .int .i64 t] w (RetN (.int .i64 (idxD xs m x f t)) w) := by
  have h' := h
  obtain ⟨ao, cap, rfl, hlc, hcm, hok, hcell⟩ := h'
  go_enter Try.func47, Try.ntmps47
  have HB0 : Hid (Below w.heap.size w (w.alloc (.cells #[.slice ao xs.length cap, .int .i64 m] 25))) := (Below.refl _ _).alloc (Nat.le_refl _) _
  have G0 := heap_new w (.cells #[.slice ao xs.length cap, .int .i64 m] 25)
  have g0 := two_cell0 G0
  have g1 := two_cell1 G0
  cases hv : validD xs m
  all_goals
    have HV := Lib.hid hv
    clear hv
    go_wp2_with fail
    refine (VD_v _ (h.mono HB0.out (Nat.le_refl _)) HV.out).mono ?_
    rintro e w1 ⟨rfl, hb⟩
    have HB : Hid (Below w.heap.size w w1) := HB0.out.trans (hb.mono (by simp))
    have G1 := two_below G0 hb (by simp)
    have q0 := two_cell0 G1
    clear g0 g1 G0 G1 hb
  · go_wp2
    go_ret
    exact ⟨ret_int (by unfold idxD; rw [HV.out]; rfl), HB.out⟩
  · have hl := validD_len HV.out
    obtain ⟨i0, hi0, hi1⟩ := clp_nat f xs.length
    obtain ⟨j, hj0, hj1⟩ := clp_nat t xs.length
    have HR : Hid (idxD xs m x f t = scanN xs x j i0) := by show _ = _; unfold idxD; rw [HV.out, hi0, hj0]; rfl
    have HI0 := Lib.hid hi0
    have HJ0 := Lib.hid hj0
    clear hi0 hj0
    go_wp2_with fail
    refine (boundOf_v _ ht (by omega) HJ0.out).mono ?_
    rintro e w2 ⟨rfl, rfl⟩
    go_wp2_with fail
    refine (boundOf_v _ hf (by omega) HI0.out).mono ?_
    rintro e w2 ⟨rfl, rfl⟩
    go_wp2
    go_loopw [10] (fun i wr => ∃ k : Nat, k ≤ xs.length ∧ i = .int .i64 k ∧ Hid (scanN xs x j k = scanN xs x j i0) ∧ wr = w1) (fun i _ => xs.length - (intOf i).toNat)
    case atStart => exact ⟨i0, hi1, rfl, rfl, rfl⟩
    case round =>
      obtain ⟨k, hk, rfl, HQ, rfl⟩ := hrel
      by_cases hlt : k < j
      · have hkl : k < xs.length := by omega
        obtain ⟨b, o, rfl, hb, h1⟩ := hcell k hkl
        have c1 := (HB.out.cell (p := ⟨b, _, none⟩) hb).trans h1
        by_cases hx : xs[k] = x
        · have HX := Lib.hid (scan_hit hlt hkl hx)
          go_wp2
          go_ret
          exact ⟨ret_int (by rw [HR.out, ← HQ.out, HX.out]), HB.out⟩
        · have HX := Lib.hid (scan_miss hlt hkl hx)
          go_wp2
          go_roundw
          case rel => exact ⟨k + 1, by omega, by go_num, by show _ = _; rw [← HX.out, HQ.out], trivial⟩
          case measure => simp [intOf]; omega
      · have HX := Lib.hid (scan_end (xs := xs) (x := x) hlt)
        go_wp2
        go_ret
        exact ⟨ret_int (by rw [HR.out, ← HQ.out, HX.out]), HB.out⟩

set_option maxHeartbeats 800000 in
set_option maxRecDepth 100000 in
theorem sIndexIn_any (v : Value) (xs : List Int) (m x f t : Int) (w : World) (h : Nums w v xs) (hf : -9223372036854775808 ≤ f ∧ f ≤ 9223372036854775807) (ht : -9223372036854775808 ≤ t ∧ t ≤ 9223372036854775807) :
    Calls Try.prog 50 #[.agg #[v, .int .i64 m], .int .i64 x, .int .i64 f, .int .i64 t] w (RetN (.int .i64 (idxD xs m x f t)) w) := by
  have h' := h
  obtain ⟨ao, cap, rfl, hlc, hcm, hok, hcell⟩ := h'
  go_enter Try.func50, Try.ntmps50
  have HB0 : Hid (Below w.heap.size w (w.alloc (.cells #[.slice ao xs.length cap, .int .i64 m] 25))) := (Below.refl _ _).alloc (Nat.le_refl _) _
  have G0 := heap_new w (.cells #[.slice ao xs.length cap, .int .i64 m] 25)
  have g0 := two_cell0 G0
  have g1 := two_cell1 G0
  cases hv : validD xs m
  all_goals
    have HV := Lib.hid hv
    clear hv
    go_wp2_with fail
    refine (svD_v _ (h.mono HB0.out (Nat.le_refl _)) HV.out).mono ?_
    rintro e w1 ⟨rfl, hb⟩
    have HB : Hid (Below w.heap.size w w1) := HB0.out.trans (hb.mono (by simp))
    have G1 := two_below G0 hb (by simp)
    have q0 := two_cell0 G1
    clear g0 g1 G0 G1 hb
  · go_wp2
    go_ret
    exact ⟨ret_int (by unfold idxD; rw [HV.out]; rfl), HB.out⟩
  · have hl := validD_len HV.out
    obtain ⟨i0, hi0, hi1⟩ := clp_nat f xs.length
    obtain ⟨j, hj0, hj1⟩ := clp_nat t xs.length
    have HR : Hid (idxD xs m x f t = scanN xs x j i0) := by show _ = _; unfold idxD; rw [HV.out, hi0, hj0]; rfl
    have HI0 := Lib.hid hi0
    have HJ0 := Lib.hid hj0
    clear hi0 hj0
    go_wp2_with fail
    refine (clamp_v _ hf (by omega) HI0.out).mono ?_
    rintro e w2 ⟨rfl, rfl⟩
    go_wp2
    go_loopw [9] (fun i wr => ∃ k : Nat, k ≤ xs.length ∧ i = .int .i64 k ∧ Hid (scanN xs x j k = scanN xs x j i0) ∧ wr = w1) (fun i _ => xs.length - (intOf i).toNat)
    case atStart => exact ⟨i0, hi1, rfl, rfl, rfl⟩
    case round =>
      obtain ⟨k, hk, rfl, HQ, rfl⟩ := hrel
      go_wp2_with fail
      refine (clamp_v _ ht (by omega) HJ0.out).mono ?_
      rintro e w2 ⟨rfl, rfl⟩
      by_cases hlt : k < j
      · have hkl : k < xs.length := by omega
        obtain ⟨b, o, rfl, hb, h1⟩ := hcell k hkl
        have c1 := (HB.out.cell (p := ⟨b, _, none⟩) hb).trans h1
        by_cases hx : xs[k] = x
        · have HX := Lib.hid (scan_hit hlt hkl hx)
          go_wp2
          go_ret
          exact ⟨ret_int (by rw [HR.out, ← HQ.out, HX.out]), HB.out⟩
        · have HX := Lib.hid (scan_miss hlt hkl hx)
          go_wp2
          go_roundw
          case rel => exact ⟨k + 1, by omega, by go_num, by show _ = _; rw [← HX.out, HQ.out], trivial⟩
          case measure => simp [intOf]; omega
      · have HX := Lib.hid (scan_end (xs := xs) (x := x) hlt)
        go_wp2
        go_ret
        exact ⟨ret_int (by rw [HR.out, ← HQ.out, HX.out]), HB.out⟩
end Go.Proofs.Ytfooiijfminlnaa
