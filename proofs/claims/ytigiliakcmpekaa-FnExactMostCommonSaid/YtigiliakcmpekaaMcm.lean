/-
  MostCommon, by the program and by the model.
-/
import Derived.Test.YtigiliakcmpekaaSrtK
namespace Go.Proofs.Ytigiliakcmpekaa
open Go.RowKit

theorem cells_take (l : List Itm) (k : Nat) : (cellsI l).take (k * 2) = cellsI (l.take k) := by
  induction l generalizing k with
  | nil => simp [cellsI]
  | cons x r ih =>
    cases k with
    | zero => simp [cellsI]
    | succ k =>
      have c : ∀ L : List Itm, cellsI (x :: L) = .string x.1 :: .int .i64 x.2 :: cellsI L := fun L => by simp [cellsI]
      rw [show (k + 1) * 2 = k * 2 + 1 + 1 by omega, List.take_succ_cons, c, c, List.take_succ_cons, List.take_succ_cons, ih]
theorem own_take {w : World} {B E cap : Nat} {ao : Option Addr} {l : List Itm} (h : w.ownsRow B E 2 (.slice ao l.length cap) l.length (cellsI l)) {k : Nat} (hk : k ≤ l.length) : w.ownsRow B E 2 (.slice ao k cap) k (cellsI (l.take k)) := by
  have hl : (cellsI (l.take k)).length = k * 2 := by rw [cellsI_length, List.length_take, Nat.min_eq_left hk]
  rcases h.2 with ⟨e, h0⟩ | ⟨g, cap', cur, e, hb, hg, hnc, hcm, hcs, htake⟩
  · simp only [Value.slice.injEq] at e
    obtain ⟨rfl, _, rfl⟩ := e
    obtain rfl : k = 0 := by omega
    exact World.ownsRow_nil _ _ _ _
  · simp only [Value.slice.injEq] at e
    obtain ⟨rfl, _, rfl⟩ := e
    refine ⟨hl, .inr ⟨g, cap, cur, rfl, hb, hg, by omega, hcm, hcs, ?_⟩⟩
    rw [← cells_take, ← htake, List.take_take, Nat.min_eq_left (by omega)]

set_option maxHeartbeats 800000 in
theorem MostCommon_any (v : Value) (xs : List Itm) (n : Int) (w : World) (h : Items w v xs) (hb : -9223372036854775808 ≤ n ∧ n ≤ 9223372036854775807) :
    Calls Try.prog 98 #[v, .int .i64 n] w (NewL (fun v => v) (mcL xs n) w) := by
  go_enter Try.func98, Try.ntmps98
  cases hv : validI xs
  all_goals
    have HV := Lib.hid hv
    clear hv
    go_wp2_with fail
    refine (Vi_v _ h HV.out).mono ?_
    rintro e w1 ⟨rfl, hb1⟩
  · go_wp2
    go_ret
    exact ⟨_, rfl, by rw [show mcL xs n = [] from if_neg (by rw [HV.out]; decide)]; exact OwnI_nil _ _ _, hb1⟩
  · have hl := valid_len HV.out
    go_wp2_with fail
    refine (slClone_any v xs w1 (h.mono hb1 (Nat.le_refl _)) (by omega)).mono ?_
    rintro e w2 ⟨v2, rfl, ho2, hb2⟩
    go_wp2_with fail
    refine (sortStable_any w2 ho2 hl).mono ?_
    rintro e w3 ⟨rfl, hr3, hb3⟩
    obtain ⟨ao, cap, rfl, hlc, hcm⟩ := own_slice ho2.1
    have HB := Lib.hid (hb1.trans ((hb2.trans hb3).mono hb1.size))
    have HOK := Lib.hid (okI_perm ho2.2 (sortR_perm ltN xs))
    have HSL := Lib.hid (sortR_length ltN xs)
    have HR : Hid (w3.ownsRow w.heap.size 104 2 (.slice ao (sortR ltN xs).length cap) (sortR ltN xs).length (cellsI (sortR ltN xs))) := by
      unfold Hid
      rw [HSL.out]
      exact ownsRow_base hr3 hb1.size
    have HG := Lib.hid (show mcL xs n = mcI xs n from if_pos HV.out)
    clear hr3 hb1 hb2 hb3 ho2
    by_cases h0 : n < 0
    · have HM : Hid (mcI xs n = sortR ltN xs) := if_neg (by omega)
      go_wp2
      go_ret
      refine ⟨_, rfl, ?_, HB.out⟩
      rw [HG.out, HM.out]
      exact ⟨by have := HR.out; rw [HSL.out] at this ⊢; exact this, HOK.out⟩
    · by_cases h1 : (xs.length : Int) < n
      · have HM : Hid (mcI xs n = sortR ltN xs) := if_neg (by omega)
        go_wp2
        go_ret
        refine ⟨_, rfl, ?_, HB.out⟩
        rw [HG.out, HM.out]
        exact ⟨by have := HR.out; rw [HSL.out] at this ⊢; exact this, HOK.out⟩
      · obtain ⟨k, rfl⟩ : ∃ k : Nat, n = k := ⟨n.toNat, by omega⟩
        have hk : k ≤ xs.length := by omega
        have hkc : k ≤ cap := by omega
        have HM : Hid (mcI xs k = (sortR ltN xs).take k) := by
          unfold Hid mcI
          rw [if_pos (by omega), Int.toNat_natCast]
        go_wp2
        go_ret
        refine ⟨_, rfl, ?_, HB.out⟩
        rw [HG.out, HM.out]
        have := own_take HR.out (k := k) (by rw [HSL.out]; exact hk)
        exact ⟨by rw [List.length_take, HSL.out, Nat.min_eq_left hk]; exact this, fun x hx => HOK.out x (List.mem_of_mem_take hx)⟩

set_option maxHeartbeats 800000 in
theorem sMostCommon_any (v : Value) (xs : List Itm) (n : Int) (w : World) (h : Items w v xs) (hb : -9223372036854775808 ≤ n ∧ n ≤ 9223372036854775807) :
    Calls Try.prog 97 #[v, .int .i64 n] w (NewL (fun v => v) (mcL xs n) w) := by
  go_enter Try.func97, Try.ntmps97
  cases hv : validI xs
  all_goals
    have HV := Lib.hid hv
    clear hv
    go_wp2_with fail
    refine (sVi_v _ h HV.out).mono ?_
    rintro e w1 ⟨rfl, hb1⟩
  · go_wp2
    go_ret
    exact ⟨_, rfl, by rw [show mcL xs n = [] from if_neg (by rw [HV.out]; decide)]; exact OwnI_nil _ _ _, hb1⟩
  · have hl := valid_len HV.out
    go_wp2_with fail
    refine (falling_any v xs w1 (h.mono hb1 (Nat.le_refl _)) (by omega)).mono ?_
    rintro e w2 ⟨v2, rfl, ho2, hb2⟩
    rw [← sort_numbers] at ho2
    have HSL := Lib.hid (sortR_length ltN xs)
    have HOW := Lib.hid (ho2.base (B' := w.heap.size) hb1.size)
    obtain ⟨ao, cap, rfl, hlc, hcm⟩ := own_slice ho2.1
    rw [HSL.out] at hlc
    have HR : Hid (w2.ownsRow w.heap.size 104 2 (.slice ao (sortR ltN xs).length cap) (sortR ltN xs).length (cellsI (sortR ltN xs))) := HOW.out.1
    rw [HSL.out]
    have HB := Lib.hid (hb1.trans (hb2.mono hb1.size))
    have HG := Lib.hid (show mcL xs n = mcI xs n from if_pos HV.out)
    clear hb1 hb2 ho2
    by_cases h0 : n < 0
    · have HM : Hid (mcI xs n = sortR ltN xs) := if_neg (by omega)
      go_wp2
      go_ret
      refine ⟨_, rfl, ?_, HB.out⟩
      rw [HG.out, HM.out]
      exact ⟨by have := HR.out; rw [HSL.out] at this ⊢; exact this, HOW.out.2⟩
    · by_cases h1 : (xs.length : Int) < n
      · have HM : Hid (mcI xs n = sortR ltN xs) := if_neg (by omega)
        go_wp2
        go_ret
        refine ⟨_, rfl, ?_, HB.out⟩
        rw [HG.out, HM.out]
        exact ⟨by have := HR.out; rw [HSL.out] at this ⊢; exact this, HOW.out.2⟩
      · obtain ⟨k, rfl⟩ : ∃ k : Nat, n = k := ⟨n.toNat, by omega⟩
        have hk : k ≤ xs.length := by omega
        have hkc : k ≤ cap := by omega
        have HM : Hid (mcI xs k = (sortR ltN xs).take k) := by
          unfold Hid mcI
          rw [if_pos (by omega), Int.toNat_natCast]
        go_wp2
        go_ret
        refine ⟨_, rfl, ?_, HB.out⟩
        rw [HG.out, HM.out]
        have := own_take HR.out (k := k) (by rw [HSL.out]; exact hk)
        exact ⟨by rw [List.length_take, HSL.out, Nat.min_eq_left hk]; exact this, fun x hx => HOW.out.2 x (List.mem_of_mem_take hx)⟩
end Go.Proofs.Ytigiliakcmpekaa
