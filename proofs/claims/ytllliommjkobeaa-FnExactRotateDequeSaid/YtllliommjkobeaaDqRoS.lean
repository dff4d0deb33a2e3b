/-
  A deque rotated, by the model.
-/
import Derived.Test.YtllliommjkobeaaDqRo
namespace Go.Proofs.Ytllliommjkobeaa
open Go.RowKit Go.Deep

theorem rot_spec2 (n : Int) {L : Nat} (h : 0 < L) (hL : L ≤ 100) : ∃ t K : Nat, (RowKit.wrap64 (n.tmod L + L)).tmod L = (t : Nat) ∧ t < L ∧ (L : Int) - (t : Int) = (K : Nat) ∧ (K = rotJ n L ∨ K = L ∧ rotJ n L = 0) := by
  obtain ⟨K, h1, h2, h3⟩ := rot_spec n h hL
  have hb := rot_bd n h
  have hw := IntWalk.wrap64_in (n.tmod L + L) ⟨by omega, by omega⟩
  rw [hw] at h1 ⊢
  have h4 : 0 ≤ (n.tmod L + L).tmod L := Int.tmod_nonneg _ (by omega)
  have h5 : (n.tmod L + L).tmod L < L := Int.tmod_lt_of_pos _ (by omega)
  exact ⟨((n.tmod L + L).tmod L).toNat, K, by omega, by omega, by omega, h3⟩
set_option maxHeartbeats 6400000 in
set_option maxRecDepth 100000 in
theorem sRotateDeque_any (v : Value) (xs : List Int) (m n : Int) (w : World) (h : Nums w v xs) (hn : -9223372036854775808 ≤ n ∧ n ≤ 9223372036854775807) :
    Calls Try.prog 46 #[.agg #[v, .int .i64 m], .int .i64 n] w (NewE (ifN (tdB xs m) (rdL xs n)) (ifI (tdB xs m) m) w) := by
  have HX := Lib.hid h
  obtain ⟨ao, cap, rfl, hlc, hcm⟩ := h.slice
  obtain ⟨hn0, hn1⟩ := hn
  clear h
  obtain ⟨R, hR⟩ : ∃ R, R = rdL xs n := ⟨_, rfl⟩
  rw [← hR]
  have HRR := Lib.hid hR
  clear hR
  go_enter Try.func46, Try.ntmps46
  have D := DFrame.new w (.slice ao xs.length cap) m
  have c0 := D.c0
  have c1 := D.c1
  cases hv : validD xs m
  all_goals
    have HV := Lib.hid hv
    clear hv
    go_wp2_with fail
    refine (svD_v _ (D.nums HX.out) HV.out).mono ?_
    rintro e w2 ⟨rfl, hb⟩
    have D2 := D.step hb
    clear hb c0 c1
    have c0 := D2.c0
    have c1 := D2.c1
  · have r0 := D2.r0
    have r1 := D2.r1
    have f0 := D2.free 0
    have f1 := D2.free 1
    go_wp2
    exact bodyPost_ret (v := .agg #[.slice none 0 0, .int .i64 0]) (by simp [results, Try.results46, go_sem, r0, r1]) rfl (newE_no HV (D2.done _ _))
  · have hl := validD_len HV.out
    have hsz := D2.size
    by_cases h0 : 0 < xs.length
    · obtain ⟨t, K, ht, htl, hLt, hK⟩ := rot_spec2 n h0 (by omega)
      have HJR : Hid (R = xs.drop K ++ xs.take K) := by show _ = _; rw [HRR.out, rd_spec hK]
      have hKl : K ≤ xs.length := by omega
      clear hK
      have DD : DFrame w w2.drew (.slice ao xs.length cap) m := ⟨D2.arg, D2.res, D2.below.drew⟩
      obtain ⟨P, hP⟩ : ∃ P, P = xs.drop K := ⟨_, rfl⟩
      obtain ⟨Q, hQ⟩ : ∃ Q, Q = xs.take K := ⟨_, rfl⟩
      have HPL : Hid (P.length = xs.length - K) := by show _ = _; rw [hP, List.length_drop]
      have HQL : Hid (Q.length = K) := by show _ = _; rw [hQ, List.length_take]; omega
      have HLQ : Hid (R = P ++ Q) := by show _ = _; rw [HJR.out, hP, hQ]
      have HD : Hid (Nums w (.slice ao K cap) Q) := by show Nums _ _ _; rw [hQ]; exact HX.out.takeA hKl
      have HPP := Lib.hid hP
      have hkc : K ≤ cap := by omega
      clear hP hQ HRR HJR
      by_cases hcap : cap = K
      · subst hcap
        have HPT : Hid (Nums w (.slice ao 0 0) P) := by
          have h2 := HX.out.dropA (k := cap) (A := ao) (by omega) (fun h => absurd rfl h)
          rw [Nat.sub_self, show xs.length - cap = 0 by omega, ← HPP.out] at h2
          exact h2
        have hx2 : xs.length = cap := by omega
        rw [hx2] at ht hLt htl h0
        go_wp2_with fail
        go_region_law (first
          | (go_simp; go_at_call 82; refine (copyInts_any _ P _ (DD.nums HPT.out) (by have := HPL.out; omega)).mono ?_; rintro e w3 ⟨v3, rfl, ho3, hb3⟩; have D3 := DD.step hb3; have k0 := D3.c0; have k1 := D3.c1)
          | (refine step_append_nums _ rfl (.tmp 33) (.tmp 37) rfl _ v3 _ _ (by first | rfl | simp [Act.eval, Act.put]) ho3.1 (.slice ao cap cap) Q (by first | rfl | simp [Act.eval, Act.put]) (D3.nums HD.out) (by have := HPL.out; omega) (by have := HQL.out; omega) hb3.size ?_; intro v4 w4 hown4 hgrow4; have hb4 := hb3.grown hgrow4 hb3.size (fun j hj => (ho3.1.lt j hj).1); have ho4 := app_own ho3.2 HD.out.ok hown4; rw [← HLQ.out] at ho4; have D4 := DD.step hb4; have k0 := D4.c0; have k1 := D4.c1; obtain ⟨xo, xcap, rfl, _, _⟩ := ho4.nums.slice; have HO := Lib.hid ho4.own; have r0 := D4.r0; have r1 := D4.r1; have f0 := D4.free 0; have f1 := D4.free 1))
        all_goals go_wp2
        all_goals exact bodyPost_ret (v := .agg #[.slice xo R.length xcap, .int .i64 m]) (by simp [results, Try.results46, go_sem, r0, r1]) rfl (newE_yes HV (D4.own HO.out hsz _ _) (D4.done _ _))
      · have HPT : Hid (Nums w (.slice (ao.map fun x => x.add K) (xs.length - K) (cap - K)) P) := by
          have h2 := HX.out.dropA (k := K) (A := ao.map fun x => x.add K) (by omega) (fun _ => rfl)
          rw [← HPP.out] at h2
          exact h2
        go_wp2_with fail
        go_region_law (first
          | (go_simp; go_at_call 82; refine (copyInts_any _ P _ (DD.nums HPT.out) (by have := HPL.out; omega)).mono ?_; rintro e w3 ⟨v3, rfl, ho3, hb3⟩; have D3 := DD.step hb3; have k0 := D3.c0; have k1 := D3.c1)
          | (refine step_append_nums _ rfl (.tmp 33) (.tmp 37) rfl _ v3 _ _ (by first | rfl | simp [Act.eval, Act.put]) ho3.1 (.slice ao K cap) Q (by first | rfl | simp [Act.eval, Act.put]) (D3.nums HD.out) (by have := HPL.out; omega) (by have := HQL.out; omega) hb3.size ?_; intro v4 w4 hown4 hgrow4; have hb4 := hb3.grown hgrow4 hb3.size (fun j hj => (ho3.1.lt j hj).1); have ho4 := app_own ho3.2 HD.out.ok hown4; rw [← HLQ.out] at ho4; have D4 := DD.step hb4; have k0 := D4.c0; have k1 := D4.c1; obtain ⟨xo, xcap, rfl, _, _⟩ := ho4.nums.slice; have HO := Lib.hid ho4.own; have r0 := D4.r0; have r1 := D4.r1; have f0 := D4.free 0; have f1 := D4.free 1))
        all_goals go_wp2
        all_goals exact bodyPost_ret (v := .agg #[.slice xo R.length xcap, .int .i64 m]) (by simp [results, Try.results46, go_sem, r0, r1]) rfl (newE_yes HV (D4.own HO.out hsz _ _) (D4.done _ _))
    · have hx0 : xs = [] := List.eq_nil_of_length_eq_zero (by omega)
      have HJR : Hid (R = []) := by show _ = _; rw [HRR.out, hx0]; simp [rdL]
      have hz : xs.length = 0 := by rw [hx0]; rfl
      have D3 := D2.step ((Below.refl _ _).alloc (Nat.le_refl _) (.cells #[] 3))
      have r0 := D3.r0
      have r1 := D3.r1
      have f0 := D3.free 0
      have f1 := D3.free 1
      have k0 := D3.c0
      have k1 := D3.c1
      clear hx0
      go_wp2
      exact bodyPost_ret (v := .agg #[.slice (some ⟨w2.heap.size, 0, none⟩) 0 0, .int .i64 m]) (by simp [results, Try.results46, go_sem, r0, r1]) rfl (by rw [HJR.out]; exact newE_yes HV (OwnN.none (by omega)) (D3.done _ _))
end Go.Proofs.Ytllliommjkobeaa
