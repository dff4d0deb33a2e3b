/-
  The first place of a number in a deque, by the model and by the program.
-/
import Derived.Test.YtcipkdegcplmcaaDqR
namespace Go.Proofs.Ytcipkdegcplmcaa
open Go.RowKit

/-- The place that a number tells, within a size. -/
def clp (k n : Int) : Int := if k < 0 then (if k + n < 0 then 0 else k + n) else if k < n then k else n
theorem clp_bd {k n : Int} (hn : 0 ≤ n) : 0 ≤ clp k n ∧ clp k n ≤ n := by
  unfold clp
  split
  · split <;> omega
  · split <;> omega
theorem clp_nat (k : Int) (n : Nat) : ∃ i : Nat, clp k n = i ∧ i ≤ n := by
  have := clp_bd (k := k) (n := (n : Int)) (by omega)
  exact ⟨(clp k n).toNat, by omega, by omega⟩

set_option maxHeartbeats 800000 in
theorem boundOf_v {k : Int} {n : Nat} {r : Int} (w : World) (hk : -9223372036854775808 ≤ k ∧ k ≤ 9223372036854775807) (hn : n ≤ 100) (hr : clp k n = r) :
    Calls Try.prog 76 #[.int .i64 k, .int .i64 n] w fun e w' => e = .returned (.int .i64 r) ∧ w = w' := by
  subst hr
  obtain ⟨hk0, hk1⟩ := hk
  go_enter Try.func76, Try.ntmps76
  by_cases h0 : k < 0
  · go_wp2
    all_goals go_ret
    all_goals refine ⟨ret_int ?_, rfl⟩
    all_goals unfold clp
    all_goals rw [if_pos h0]
    all_goals split
    all_goals omega
  · go_wp2
    all_goals go_ret
    all_goals refine ⟨ret_int ?_, rfl⟩
    all_goals unfold clp
    all_goals rw [if_neg (by omega)]
    all_goals split
    all_goals omega
set_option maxHeartbeats 800000 in
theorem clamp_v {k : Int} {n : Nat} {r : Int} (w : World) (hk : -9223372036854775808 ≤ k ∧ k ≤ 9223372036854775807) (hn : n ≤ 100) (hr : clp k n = r) :
    Calls Try.prog 77 #[.int .i64 k, .int .i64 n] w fun e w' => e = .returned (.int .i64 r) ∧ w = w' := by
  subst hr
  obtain ⟨hk0, hk1⟩ := hk
  go_enter Try.func77, Try.ntmps77
  by_cases h0 : k < 0
  · go_wp2
    all_goals go_ret
    all_goals refine ⟨ret_int ?_, rfl⟩
    all_goals unfold clp
    all_goals rw [if_pos h0]
    all_goals split
    all_goals omega
  · go_wp2
    all_goals go_ret
    all_goals refine ⟨ret_int ?_, rfl⟩
    all_goals unfold clp
    all_goals rw [if_neg (by omega)]
    all_goals split
    all_goals omega

/-- From place i on, ahead of place j. -/
def scanN (xs : List Int) (x : Int) (j i : Nat) : Int := if i < j then (if xs.getD i 0 = x then (i : Int) else scanN xs x j (i + 1)) else -1
termination_by j - i
theorem scan_hit {xs : List Int} {x : Int} {j i : Nat} (h : i < j) (hl : i < xs.length) (hx : xs[i] = x) : scanN xs x j i = i := by
  rw [scanN, if_pos h, if_pos (by simp [hl, hx])]
theorem scan_miss {xs : List Int} {x : Int} {j i : Nat} (h : i < j) (hl : i < xs.length) (hx : ¬ xs[i] = x) : scanN xs x j i = scanN xs x j (i + 1) := by
  rw [scanN, if_pos h, if_neg (by simp [hl, hx])]
theorem scan_end {xs : List Int} {x : Int} {j i : Nat} (h : ¬ i < j) : scanN xs x j i = -1 := by rw [scanN, if_neg h]
theorem scan_bd (xs : List Int) (x : Int) (j : Nat) : ∀ (n i : Nat), j - i ≤ n → -1 ≤ scanN xs x j i ∧ (0 ≤ scanN xs x j i → scanN xs x j i < j) := by
  intro n
  induction n with
  | zero => intro i h; rw [scan_end (by omega)]; omega
  | succ n ih =>
    intro i h
    by_cases hlt : i < j
    · rw [scanN, if_pos hlt]
      split
      · omega
      · exact ih (i + 1) (by omega)
    · rw [scan_end hlt]; omega
def idxD (xs : List Int) (m x f t : Int) : Int := if validD xs m = true then scanN xs x (clp t xs.length).toNat (clp f xs.length).toNat else -1
theorem idxD_bd (xs : List Int) (m x f t : Int) : -1 ≤ idxD xs m x f t ∧ (0 ≤ idxD xs m x f t → idxD xs m x f t < xs.length ∧ validD xs m = true) := by
  unfold idxD
  split
  · rename_i h
    have h1 := scan_bd xs x (clp t xs.length).toNat _ (clp f xs.length).toNat (Nat.le_refl _)
    have h2 := (clp_bd (k := t) (n := (xs.length : Int)) (by omega))
    exact ⟨h1.1, fun h0 => ⟨by have := h1.2 h0; omega, h⟩⟩
  · exact ⟨by omega, fun h0 => by omega⟩

end Go.Proofs.Ytcipkdegcplmcaa
