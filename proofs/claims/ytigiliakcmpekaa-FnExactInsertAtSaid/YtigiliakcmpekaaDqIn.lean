/-
  A number inserted, by the model.
-/
import Derived.Test.YtigiliakcmpekaaDqD
import Derived.Deep.RegionHeld3
namespace Go.Proofs.Ytigiliakcmpekaa
open Go.RowKit Go.Deep

theorem ins_append (xs : List Int) (i : Nat) (x : Int) : xs.take i ++ [x] ++ xs.drop i = insN xs i x := by
  unfold insN
  rw [Int.toNat_natCast]
theorem insN_length {xs : List Int} {i : Nat} (h : i ≤ xs.length) (x : Int) : (insN xs i x).length = xs.length + 1 := by
  rw [← ins_append, List.length_append, List.length_append, List.length_take, List.length_drop]
  simp only [List.length_singleton]
  omega
theorem is_full {xs : List Int} {m k x : Int} (h : 0 ≤ m ∧ m ≤ xs.length) : Hid (isB xs m (clp k xs.length) x = false) := by
  show _ = _
  obtain ⟨i, hi, hle⟩ := clp_nat k xs.length
  unfold isB
  rw [hi]
  cases e : validD (insN xs i x) m
  · rw [Bool.and_false]
  · have h2 := (validD_iff.1 e).2.2.2
    rw [insN_length hle] at h2
    omega
theorem two_set {w : World} {b : Nat} {p : Addr} {u v : Value} (h : w.cell? ⟨b, 0, none⟩ = some u ∧ w.cell? ⟨b, 1, none⟩ = some v) (hne : p.block ≠ b) (x : Value) : (w.setCell p x).cell? ⟨b, 0, none⟩ = some u ∧ (w.setCell p x).cell? ⟨b, 1, none⟩ = some v := by
  have hk : Keeps (fun j => j = b) w (w.setCell p x) := (Keeps.refl _ _).setCell hne x
  exact ⟨(hk.cell rfl).trans h.1, (hk.cell rfl).trans h.2⟩
set_option maxHeartbeats 3200000 in
set_option maxRecDepth 100000 in
theorem sInsertAt_any (v : Value) (xs : List Int) (m k x : Int) (w : World) (h : Nums w v xs) (hk : -9223372036854775808 ≤ k ∧ k ≤ 9223372036854775807) (hx : -9223372036854775808 ≤ x ∧ x ≤ 9223372036854775807) :
    Calls Try.prog 88 #[.agg #[v, .int .i64 m], .int .i64 k, .int .i64 x] w (NewD (ifN (isB xs m (clp k xs.length) x) (insN xs (clp k xs.length) x)) (ifI (isB xs m (clp k xs.length) x) m) (isB xs m (clp k xs.length) x) w) := by
  have HX := Lib.hid h
  obtain ⟨ao, cap, rfl, hlc, hcm⟩ := h.slice
  clear h
  go_enter Try.func88, Try.ntmps88
  have D := DFrame.new w (.slice ao xs.length cap) m
  have c0 := D.c0
  have c1 := D.c1
  cases hv : validD xs m
  all_goals
    have HV := Lib.hid hv
    clear hv
    go_wp2_with fail
    refine (svD_v _ (D.nums HX.out) HV.out).mono ?_
    rintro e w2 ⟨rfl, hb⟩
    have D2 := D.step hb
    clear hb c0 c1
    have c0 := D2.c0
    have c1 := D2.c1
    have r0 := D2.r0
    have r1 := D2.r1
    have f0 := D2.free 0
    have f1 := D2.free 1
  · go_wp2
    exact bodyPost_ret (v := okD (.slice none 0 0) 0 false) (by simp [okD, results, Try.results88, go_sem, r0, r1]) rfl (newD_no (and_no1 HV) (D2.done _ _))
  · have hl := validD_len HV.out
    by_cases hfull : 0 ≤ m ∧ m ≤ (xs.length : Int)
    · obtain ⟨hm0, hm1⟩ := hfull
      go_wp2
      exact bodyPost_ret (v := okD (.slice none 0 0) 0 false) (by simp [okD, results, Try.results88, go_sem, r0, r1]) rfl (newD_no (is_full ⟨hm0, hm1⟩) (D2.done _ _))
    · have hmm : m < 0 ∨ (0 ≤ m ∧ (xs.length : Int) < m) := by omega
      clear r0 r1 f0 f1 hfull
      obtain ⟨i, hi, hle⟩ := clp_nat k xs.length
      have HI := Lib.hid hi
      rw [hi]
      clear hi
      have hsz := D2.size
      have DD : DFrame w w2.drew (.slice ao xs.length cap) m := ⟨D2.arg, D2.res, D2.below.drew⟩
      have DE : DFrame w (w2.drew.alloc (.cells #[.int .i64 x] 3)) (.slice ao xs.length cap) m := DD.step ((Below.refl _ _).alloc (Nat.le_refl _) _)
      have hlt2 : w.heap.size < w2.heap.size := by have := D2.size; omega
      have j0 := DE.c0
      have j1 := DE.c1
      obtain ⟨P, hP⟩ : ∃ P, P = xs.take i := ⟨_, rfl⟩
      obtain ⟨Q, hQ⟩ : ∃ Q, Q = xs.drop i := ⟨_, rfl⟩
      have HPL : Hid (P.length = i) := by show _ = _; rw [hP, List.length_take]; omega
      have HQL : Hid (Q.length = xs.length - i) := by show _ = _; rw [hQ, List.length_drop]
      have HPT : Hid (Nums w (.slice ao i cap) P) := by show Nums _ _ _; rw [hP]; exact HX.out.takeA (by omega)
      have HLL : Hid (P ++ [x] ++ Q = insN xs i x) := by show _ = _; rw [hP, hQ]; exact ins_append xs i x
      have HQQ := Lib.hid hQ
      have hkc : i ≤ cap := by omega
      have hkl : (i : Int) ≤ (xs.length : Int) := by omega
      have hkc' : (i : Int) ≤ (cap : Int) := by omega
      obtain ⟨C, hC⟩ : ∃ C, C = chkN (insN xs i x) m := ⟨_, rfl⟩
      obtain ⟨M, hM⟩ : ∃ M, M = chkM (insN xs i x) m := ⟨_, rfl⟩
      obtain ⟨Bv, hBv⟩ : ∃ Bv, Bv = validD (insN xs i x) m := ⟨_, rfl⟩
      have HF : Hid (∀ (w' : World) (u : Value), OwnN w.heap.size w'.heap.size w' u C → Below w.heap.size w w' → NewD (ifN (isB xs m (clp k xs.length) x) (insN xs (clp k xs.length) x)) (ifI (isB xs m (clp k xs.length) x) m) (isB xs m (clp k xs.length) x) w (.returned (okD u M Bv)) w') := by
        intro w' u h1 h2
        rw [HI.out]
        unfold isB
        rw [HV.out, Bool.true_and, hM, hBv]
        rw [hC] at h1
        exact newD_checked h1 h2
      obtain ⟨Z, hZ⟩ : ∃ Z, Z = P ++ [x] ++ Q := ⟨_, rfl⟩
      have HZ := Lib.hid hZ
      have HCH : Hid (∀ (lo hi : Nat) (u : Value) (w' : World), OwnN lo hi w' u Z → hi ≤ w'.heap.size → Calls Try.prog 160 #[.agg #[u, .int .i64 m]] w' fun e w'' => ∃ v', e = .returned (.tuple #[.agg #[v', .int .i64 M], .bool Bv]) ∧ OwnN lo w''.heap.size w'' v' C ∧ Below w'.heap.size w' w'') := by
        intro lo hi u w' h1 h2
        rw [HZ.out, HLL.out] at h1
        rw [hC, hM, hBv]
        exact schkD_any u (insN xs i x) m w' h1 h2
      have HHX : Hid (okN [x]) := by intro y hy; rw [List.mem_singleton.1 hy]; exact hx
      clear hP hQ hC hM hBv hZ
      by_cases hcap : cap = i
      · subst hcap
        have HD : Hid (Nums w (.slice ao 0 0) Q) := by
          have h2 := HX.out.dropA (k := cap) (A := ao) (by omega) (fun h => absurd rfl h)
          rw [Nat.sub_self, show xs.length - cap = 0 by omega, ← HQQ.out] at h2
          exact h2
        rcases hmm with hmm | ⟨hm0, hm1⟩
        all_goals
          go_wp2_with fail
          refine (clamp_v _ hk (by omega) HI.out).mono ?_
          rintro e w2' ⟨rfl, rfl⟩
          go_wp2_with fail
          go_region_held3 (fun w' : World => w'.cell? ⟨w.heap.size, 0, none⟩ = some (.slice ao xs.length cap) ∧ w'.cell? ⟨w.heap.size, 1, none⟩ = some (.int .i64 m))
            (first | exact ⟨c0, c1⟩ | exact ⟨j0, j1⟩ | exact ⟨k0, k1⟩ | exact ⟨k2, k3⟩ | assumption | exact two_set (two_set ⟨k0, k1⟩ (by simp) _) (by simp) _)
            (first
            | (go_at_call 133; (with_reducible refine (copyInts_any _ P w2.drew (DD.nums HPT.out) (by have := HPL.out; omega)).mono ?_); rintro e w3 ⟨v3, rfl, ho3, hb3⟩; have mkA : (0 : Nat) = 0 := rfl; have DS := DD; have D3 := DD.step hb3; have k0 := D3.c0; have k1 := D3.c1; have D3a := D3.step ((Below.refl _ _).alloc (Nat.le_refl _) (.cells #[.int .i64 x] 3)); have k2 := D3a.c0; have k3 := D3a.c1; have hlt3 : w.heap.size < w3.heap.size := (by have := D3.size; omega))
            | (go_at_call 133; refine (copyInts_any _ P _ (DE.nums HPT.out) (by have := HPL.out; omega)).mono ?_; rintro e w3 ⟨v3, rfl, ho3, hb3⟩; have mkB : (0 : Nat) = 0 := rfl; have DS := DE; have D3 := DE.step hb3; have HN3 := Lib.hid ((Nums_one w2.drew x 3 hx).mono hb3 (Nat.le_refl _)); have k0 := D3.c0; have k1 := D3.c1)
            | (clear mkA; refine step_append_nums _ rfl (.tmp 35) (.tmp 37) rfl _ v3 _ _ (by first | rfl | simp [Act.eval, Act.put]) (ho3.1.alloc _) (.slice (some ⟨w3.heap.size, 0, none⟩) 1 1) [x] (by first | rfl | simp [Act.eval, Act.put]) (Nums_one w3 x _ hx) (by have := HPL.out; omega) (by simp) (by have := hb3.size; simp at this ⊢; omega) ?_; intro v4 w4 hown4 hgrow4; have hb4 := (hb3.alloc hb3.size _).grown hgrow4 (by have := hb3.size; simp at this ⊢; omega) (fun j hj => (ho3.1.lt j hj).1); have ho4 := app_own ho3.2 HHX.out hown4; have D4 := DD.step hb4; have k0 := D4.c0; have k1 := D4.c1)
            | (clear mkB; refine step_append_nums _ rfl (.tmp 35) (.tmp 37) rfl _ v3 _ _ (by first | rfl | simp [Act.eval, Act.put]) ho3.1 (.slice (some ⟨w2.heap.size, 0, none⟩) 1 1) [x] (by first | rfl | simp [Act.eval, Act.put]) HN3.out (by have := HPL.out; omega) (by simp) hb3.size ?_; intro v4 w4 hown4 hgrow4; have hb4 := hb3.grown hgrow4 hb3.size (fun j hj => (ho3.1.lt j hj).1); have ho4 := app_own ho3.2 HHX.out hown4; have D4 := DE.step hb4; have k0 := D4.c0; have k1 := D4.c1)
            | (refine step_append_nums _ rfl (.tmp 38) (.tmp 42) rfl _ v4 _ _ (by first | rfl | simp [Act.eval]) ho4.1 (.slice ao 0 0) Q (by first | rfl | simp [Act.eval]) (D4.nums HD.out) (by have := HPL.out; simp; omega) (by have := HQL.out; omega) hb4.size ?_; intro v5 w5 hown5 hgrow5; have hb5 := hb4.grown hgrow5 hb4.size (fun j hj => (ho4.1.lt j hj).1); have ho5 := app_own ho4.2 HD.out.ok hown5; rw [← HZ.out] at ho5; obtain ⟨zo, zcap, rfl, _, _⟩ := ho5.nums.slice; have HO5 := Lib.hid ho5.own; clear ho5 hown5; have D5 := DS.step hb5; have HS5 := hb5.size; have k0 := D5.c0; have k1 := D5.c1)
            | (go_at_call 160; refine (HCH.out _ _ _ _ HO5.out (Nat.le_refl _)).mono ?_; rintro e w6 ⟨v6, rfl, ho6, hb6⟩; have D6 := D5.step hb6; obtain ⟨xo, xcap, rfl, _, _⟩ := ho6.nums.slice; have HO := Lib.hid (ho6.wide DS.size (Nat.le_refl _)); have k0 := D6.c0; have k1 := D6.c1; have r0 := D6.r0; have r1 := D6.r1; have f0 := D6.free 0; have f1 := D6.free 1))
          all_goals go_wp2
          all_goals exact bodyPost_ret (v := okD (.slice xo C.length xcap) M Bv) (by simp [okD, results, Try.results88, go_sem, r0, r1]) rfl (HF.out _ _ (D6.own HO.out (Nat.le_refl _) _ _) (D6.done _ _))
      · have HD : Hid (Nums w (.slice (ao.map fun x => x.add i) (xs.length - i) (cap - i)) Q) := by
          have h2 := HX.out.dropA (k := i) (A := ao.map fun x => x.add i) (by omega) (fun _ => rfl)
          rw [← HQQ.out] at h2
          exact h2
        rcases hmm with hmm | ⟨hm0, hm1⟩
        all_goals
          go_wp2_with fail
          refine (clamp_v _ hk (by omega) HI.out).mono ?_
          rintro e w2' ⟨rfl, rfl⟩
          go_wp2_with fail
          go_region_held3 (fun w' : World => w'.cell? ⟨w.heap.size, 0, none⟩ = some (.slice ao xs.length cap) ∧ w'.cell? ⟨w.heap.size, 1, none⟩ = some (.int .i64 m))
            (first | exact ⟨c0, c1⟩ | exact ⟨j0, j1⟩ | exact ⟨k0, k1⟩ | exact ⟨k2, k3⟩ | assumption | exact two_set (two_set ⟨k0, k1⟩ (by simp) _) (by simp) _)
            (first
            | (go_at_call 133; (with_reducible refine (copyInts_any _ P w2.drew (DD.nums HPT.out) (by have := HPL.out; omega)).mono ?_); rintro e w3 ⟨v3, rfl, ho3, hb3⟩; have mkA : (0 : Nat) = 0 := rfl; have DS := DD; have D3 := DD.step hb3; have k0 := D3.c0; have k1 := D3.c1; have D3a := D3.step ((Below.refl _ _).alloc (Nat.le_refl _) (.cells #[.int .i64 x] 3)); have k2 := D3a.c0; have k3 := D3a.c1; have hlt3 : w.heap.size < w3.heap.size := (by have := D3.size; omega))
            | (go_at_call 133; refine (copyInts_any _ P _ (DE.nums HPT.out) (by have := HPL.out; omega)).mono ?_; rintro e w3 ⟨v3, rfl, ho3, hb3⟩; have mkB : (0 : Nat) = 0 := rfl; have DS := DE; have D3 := DE.step hb3; have HN3 := Lib.hid ((Nums_one w2.drew x 3 hx).mono hb3 (Nat.le_refl _)); have k0 := D3.c0; have k1 := D3.c1)
            | (clear mkA; refine step_append_nums _ rfl (.tmp 35) (.tmp 37) rfl _ v3 _ _ (by first | rfl | simp [Act.eval, Act.put]) (ho3.1.alloc _) (.slice (some ⟨w3.heap.size, 0, none⟩) 1 1) [x] (by first | rfl | simp [Act.eval, Act.put]) (Nums_one w3 x _ hx) (by have := HPL.out; omega) (by simp) (by have := hb3.size; simp at this ⊢; omega) ?_; intro v4 w4 hown4 hgrow4; have hb4 := (hb3.alloc hb3.size _).grown hgrow4 (by have := hb3.size; simp at this ⊢; omega) (fun j hj => (ho3.1.lt j hj).1); have ho4 := app_own ho3.2 HHX.out hown4; have D4 := DD.step hb4; have k0 := D4.c0; have k1 := D4.c1)
            | (clear mkB; refine step_append_nums _ rfl (.tmp 35) (.tmp 37) rfl _ v3 _ _ (by first | rfl | simp [Act.eval, Act.put]) ho3.1 (.slice (some ⟨w2.heap.size, 0, none⟩) 1 1) [x] (by first | rfl | simp [Act.eval, Act.put]) HN3.out (by have := HPL.out; omega) (by simp) hb3.size ?_; intro v4 w4 hown4 hgrow4; have hb4 := hb3.grown hgrow4 hb3.size (fun j hj => (ho3.1.lt j hj).1); have ho4 := app_own ho3.2 HHX.out hown4; have D4 := DE.step hb4; have k0 := D4.c0; have k1 := D4.c1)
            | (refine step_append_nums _ rfl (.tmp 38) (.tmp 42) rfl _ v4 _ _ (by first | rfl | simp [Act.eval]) ho4.1 (.slice (ao.map fun x => x.add i) (xs.length - i) (cap - i)) Q (by first | rfl | simp [Act.eval]) (D4.nums HD.out) (by have := HPL.out; simp; omega) (by have := HQL.out; omega) hb4.size ?_; intro v5 w5 hown5 hgrow5; have hb5 := hb4.grown hgrow5 hb4.size (fun j hj => (ho4.1.lt j hj).1); have ho5 := app_own ho4.2 HD.out.ok hown5; rw [← HZ.out] at ho5; obtain ⟨zo, zcap, rfl, _, _⟩ := ho5.nums.slice; have HO5 := Lib.hid ho5.own; clear ho5 hown5; have D5 := DS.step hb5; have HS5 := hb5.size; have k0 := D5.c0; have k1 := D5.c1)
            | (go_at_call 160; refine (HCH.out _ _ _ _ HO5.out (Nat.le_refl _)).mono ?_; rintro e w6 ⟨v6, rfl, ho6, hb6⟩; have D6 := D5.step hb6; obtain ⟨xo, xcap, rfl, _, _⟩ := ho6.nums.slice; have HO := Lib.hid (ho6.wide DS.size (Nat.le_refl _)); have k0 := D6.c0; have k1 := D6.c1; have r0 := D6.r0; have r1 := D6.r1; have f0 := D6.free 0; have f1 := D6.free 1))
          all_goals go_wp2
          all_goals exact bodyPost_ret (v := okD (.slice xo C.length xcap) M Bv) (by simp [okD, results, Try.results88, go_sem, r0, r1]) rfl (HF.out _ _ (D6.own HO.out (Nat.le_refl _) _ _) (D6.done _ _))
end Go.Proofs.Ytigiliakcmpekaa
