/-
  A number deleted, by the model.
-/
import Derived.Test.YtcipkdegcplmcaaDqD
namespace Go.Proofs.Ytcipkdegcplmcaa
open Go.RowKit Go.Deep

theorem del_append (xs : List Int) (i : Nat) : xs.take i ++ xs.drop (i + 1) = delN xs i := rfl
set_option maxHeartbeats 6400000 in
set_option maxRecDepth 100000 in
theorem sDeleteAt_gen (v : Value) (xs : List Int) (m k : Int) (w : World) (h : Nums w v xs) (hk : -9223372036854775808 ≤ k ∧ k ≤ 9223372036854775807) (L : List Int) (N : Int) (B : Bool)
    (HE : ∀ i : Nat, i < xs.length → inD xs m k = i → L = xs.take i ++ xs.drop (i + 1) ∧ N = m ∧ B = true)
    (HN : inD xs m k < 0 → L = [] ∧ N = 0 ∧ B = false) :
    Calls Try.prog 29 #[.agg #[v, .int .i64 m], .int .i64 k] w (NewD L N B w) := by
  have HX := Lib.hid h
  have HEE := Lib.hid HE
  have HNN := Lib.hid HN
  obtain ⟨ao, cap, rfl, hlc, hcm⟩ := h.slice
  clear h HE HN
  go_enter Try.func29, Try.ntmps29
  have D := DFrame.new w (.slice ao xs.length cap) m
  have c0 := D.c0
  have c1 := D.c1
  go_wp2_with fail
  refine (satI_v _ (D.nums HX.out) hk).mono ?_
  rintro e w1 ⟨rfl, hb⟩
  have HA := atI_bd (k := k) (n := (xs.length : Int)) (by omega)
  obtain ⟨q, hq⟩ : ∃ q, q = atI k xs.length := ⟨_, rfl⟩
  rw [← hq] at HA ⊢
  have HQ := Lib.hid hq
  have D1 := D.step hb
  clear hb c0 c1 hq
  have c0 := D1.c0
  have c1 := D1.c1
  cases hv : validD xs m
  all_goals
    have HV := Lib.hid hv
    clear hv
    go_wp2_with fail
    refine (svD_v _ (D1.nums HX.out) HV.out).mono ?_
    rintro e w2 ⟨rfl, hb⟩
    have D2 := D1.step hb
    clear hb c0 c1
    have r0 := D2.r0
    have r1 := D2.r1
    have f0 := D2.free 0
    have f1 := D2.free 1
  · have HI : Hid (inD xs m k = -1) := by show _ = _; unfold inD; rw [HV.out]; rfl
    obtain ⟨h1, h2, h3⟩ := HNN.out (by rw [HI.out]; decide)
    subst h1 h2 h3
    go_wp2
    exact bodyPost_ret (v := okD (.slice none 0 0) 0 false) (by simp [okD, results, Try.results29, go_sem, r0, r1]) rfl (newD_of (OwnN.none (by omega)) (D2.done _ _))
  · have HI : Hid (inD xs m k = q) := by show _ = _; unfold inD; rw [HV.out, HQ.out]; rfl
    have hl := validD_len HV.out
    by_cases hq0 : q < 0
    · obtain ⟨h1, h2, h3⟩ := HNN.out (by rw [HI.out]; exact hq0)
      subst h1 h2 h3
      go_wp2
      exact bodyPost_ret (v := okD (.slice none 0 0) 0 false) (by simp [okD, results, Try.results29, go_sem, r0, r1]) rfl (newD_of (OwnN.none (by omega)) (D2.done _ _))
    · clear r0 r1 f0 f1
      obtain ⟨i, rfl⟩ : ∃ i : Nat, q = i := ⟨q.toNat, by omega⟩
      have hlt : i < xs.length := by have := HA.2 (by omega); omega
      clear HA
      have hsz := D2.size
      have c0 := D2.c0
      have c1 := D2.c1
      have DD : DFrame w w2.drew (.slice ao xs.length cap) m := ⟨D2.arg, D2.res, D2.below.drew⟩
      obtain ⟨P, hP⟩ : ∃ P, P = xs.take i := ⟨_, rfl⟩
      obtain ⟨Q, hQ⟩ : ∃ Q, Q = xs.drop (i + 1) := ⟨_, rfl⟩
      have HPL : Hid (P.length = i) := by show _ = _; rw [hP, List.length_take]; omega
      have HQL : Hid (Q.length = xs.length - (i + 1)) := by show _ = _; rw [hQ, List.length_drop]
      obtain ⟨e1, e2, e3⟩ := HEE.out i hlt HI.out
      rw [← hP, ← hQ] at e1
      have HPT : Hid (Nums w (.slice ao i cap) P) := by show Nums _ _ _; rw [hP]; exact HX.out.takeA (by omega)
      have hk1 : IntKind.i64.wrap ((i : Int) + 1) = (i : Int) + 1 := IntWalk.i64_in _ (by omega)
      have hkc : i ≤ cap := by omega
      have hki : (i : Int) ≤ (i : Int) + 1 := by omega
      have HLQ := Lib.hid e1
      have hk0 : 0 ≤ (i : Int) + 1 := by omega
      have hkt : ((i : Int) + 1).toNat = i + 1 := by omega
      have hkn : (i : Int) + 1 ≤ (xs.length : Int) := by omega
      have hkn' : i + 1 ≤ xs.length := by omega
      have hkc' : (i : Int) + 1 ≤ (cap : Int) := by omega
      have HQQ := Lib.hid hQ
      have HLN : Hid ((P ++ Q).length = i + (xs.length - (i + 1))) := by show _ = _; rw [List.length_append, HPL.out, HQL.out]
      subst e2 e3
      clear e1 hP hQ HEE HNN
      by_cases hcap : cap = i + 1
      · subst hcap
        have HD : Hid (Nums w (.slice ao 0 0) Q) := by
          have h2 := HX.out.dropA (k := i + 1) (A := ao) (by omega) (fun h => absurd rfl h)
          rw [Nat.sub_self, show xs.length - (i + 1) = 0 by omega, ← HQQ.out] at h2
          exact h2
        go_wp2_with fail
        go_region_law (first
          | (go_simp; go_at_call 65; refine (copyInts_any _ P _ (DD.nums HPT.out) (by have := HPL.out; omega)).mono ?_; rintro e w3 ⟨v3, rfl, ho3, hb3⟩; have D3 := DD.step hb3; have k0 := D3.c0; have k1 := D3.c1)
          | (refine step_append_nums _ rfl (.tmp 22) (.tmp 27) rfl _ v3 _ _ (by first | rfl | simp [Act.eval, Act.put]) ho3.1 (.slice ao 0 0) Q (by first | rfl | simp [Act.eval, Act.put]) (D3.nums HD.out) (by have := HPL.out; omega) (by have := HQL.out; omega) hb3.size ?_; intro v4 w4 hown4 hgrow4; have hb4 := hb3.grown hgrow4 hb3.size (fun j hj => (ho3.1.lt j hj).1); have ho4 := app_own ho3.2 HD.out.ok hown4; rw [← HLQ.out] at ho4; have D4 := DD.step hb4; have k0 := D4.c0; have k1 := D4.c1; obtain ⟨xo, xcap, rfl, _, _⟩ := ho4.nums.slice; have HO := Lib.hid ho4.own; have r0 := D4.r0; have r1 := D4.r1; have f0 := D4.free 0; have f1 := D4.free 1))
        all_goals go_wp2
        all_goals exact bodyPost_ret (v := okD (.slice xo L.length xcap) N true) (by simp [okD, results, Try.results29, go_sem, r0, r1]) rfl (newD_of (D4.own HO.out hsz _ _) (D4.done _ _))
      · have HD : Hid (Nums w (.slice (ao.map fun x => x.add (i + 1)) (xs.length - (i + 1)) (cap - (i + 1))) Q) := by
          have h2 := HX.out.dropA (k := i + 1) (A := ao.map fun x => x.add (i + 1)) (by omega) (fun _ => rfl)
          rw [← HQQ.out] at h2
          exact h2
        go_wp2_with fail
        go_region_law (first
          | (go_simp; go_at_call 65; refine (copyInts_any _ P _ (DD.nums HPT.out) (by have := HPL.out; omega)).mono ?_; rintro e w3 ⟨v3, rfl, ho3, hb3⟩; have D3 := DD.step hb3; have k0 := D3.c0; have k1 := D3.c1)
          | (refine step_append_nums _ rfl (.tmp 22) (.tmp 27) rfl _ v3 _ _ (by first | rfl | simp [Act.eval, Act.put]) ho3.1 (.slice (ao.map fun x => x.add (i + 1)) (xs.length - (i + 1)) (cap - (i + 1))) Q (by first | rfl | simp [Act.eval, Act.put]) (D3.nums HD.out) (by have := HPL.out; omega) (by have := HQL.out; omega) hb3.size ?_; intro v4 w4 hown4 hgrow4; have hb4 := hb3.grown hgrow4 hb3.size (fun j hj => (ho3.1.lt j hj).1); have ho4 := app_own ho3.2 HD.out.ok hown4; rw [← HLQ.out] at ho4; have D4 := DD.step hb4; have k0 := D4.c0; have k1 := D4.c1; obtain ⟨xo, xcap, rfl, _, _⟩ := ho4.nums.slice; have HO := Lib.hid ho4.own; have r0 := D4.r0; have r1 := D4.r1; have f0 := D4.free 0; have f1 := D4.free 1))
        all_goals go_wp2
        all_goals exact bodyPost_ret (v := okD (.slice xo L.length xcap) N true) (by simp [okD, results, Try.results29, go_sem, r0, r1]) rfl (newD_of (D4.own HO.out hsz _ _) (D4.done _ _))
theorem sDeleteAt_any (v : Value) (xs : List Int) (m k : Int) (w : World) (h : Nums w v xs) (hk : -9223372036854775808 ≤ k ∧ k ≤ 9223372036854775807) :
    Calls Try.prog 29 #[.agg #[v, .int .i64 m], .int .i64 k] w (NewD (ifN (dlB (inD xs m k)) (delN xs (inD xs m k))) (ifI (dlB (inD xs m k)) m) (dlB (inD xs m k)) w) :=
  sDeleteAt_gen v xs m k w h hk _ _ _ (fun i hi hq => by rw [hq, dlB_yes (by omega)]; exact ⟨(del_append xs i).symm, rfl, rfl⟩) (fun hq => by rw [dlB_no hq]; exact ⟨rfl, rfl, rfl⟩)
end Go.Proofs.Ytcipkdegcplmcaa
