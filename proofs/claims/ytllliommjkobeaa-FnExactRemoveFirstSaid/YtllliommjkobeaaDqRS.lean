/-
  The first one of a number removed, by the model.
-/
import Derived.Test.YtllliommjkobeaaDqDS
namespace Go.Proofs.Ytllliommjkobeaa
open Go.RowKit Go.Deep

theorem inD_at {xs : List Int} {m q : Int} (hv : validD xs m = true) (h0 : 0 ≤ q) (h1 : q < xs.length) : inD xs m q = q := by
  unfold inD atI
  rw [if_pos hv, if_neg (by omega), if_pos (by omega)]

set_option maxHeartbeats 1600000 in
set_option maxRecDepth 100000 in
theorem sRemoveFirst_any (v : Value) (xs : List Int) (m x : Int) (w : World) (h : Nums w v xs) :
    Calls Try.prog 60 #[.agg #[v, .int .i64 m], .int .i64 x] w (NewD (ifN (dlB (idxD xs m x 0 xs.length)) (delN xs (idxD xs m x 0 xs.length))) (ifI (dlB (idxD xs m x 0 xs.length)) m) (dlB (idxD xs m x 0 xs.length)) w) := by
  have HX := Lib.hid h
  obtain ⟨ao, cap, rfl, hlc, hcm⟩ := h.slice
  clear h
  have HI := idxD_bd xs m x 0 xs.length
  obtain ⟨q, hq⟩ : ∃ q, q = idxD xs m x 0 xs.length := ⟨_, rfl⟩
  rw [← hq] at HI ⊢
  have HQ := Lib.hid hq
  clear hq
  obtain ⟨L, hL⟩ : ∃ L, L = ifN (dlB q) (delN xs q) := ⟨_, rfl⟩
  obtain ⟨N, hN⟩ : ∃ N, N = ifI (dlB q) m := ⟨_, rfl⟩
  obtain ⟨B, hB⟩ : ∃ B, B = dlB q := ⟨_, rfl⟩
  rw [← hL, ← hN, ← hB]
  have HE : Hid (0 ≤ q → ∀ v w, Nums w v xs → Calls Try.prog 54 #[.agg #[v, .int .i64 m], .int .i64 q] w (NewD L N B w)) := by
    intro h0 v w h
    have h2 := HI.2 h0
    have h3 := sDeleteAt_any v xs m q w h ⟨by omega, by omega⟩
    rw [inD_at h2.2 h0 h2.1] at h3
    rw [hL, hN, hB]
    exact h3
  have HN : Hid (q < 0 → L = [] ∧ N = 0 ∧ B = false) := by
    intro h0
    rw [hL, hN, hB, dlB_no h0]
    exact ⟨rfl, rfl, rfl⟩
  clear hL hN hB HI
  go_enter Try.func60, Try.ntmps60
  have D := DFrame.new w (.slice ao xs.length cap) m
  have c0 := D.c0
  have c1 := D.c1
  go_wp2_with fail
  refine (sIndexIn_any _ xs m x 0 xs.length _ (D.nums HX.out) ⟨by omega, by omega⟩ ⟨by omega, by omega⟩).mono ?_
  rintro e w1 ⟨rfl, hb⟩
  rw [← HQ.out]
  have D1 := D.step hb
  clear hb c0 c1
  have c0 := D1.c0
  have c1 := D1.c1
  by_cases hq0 : q < 0
  · obtain ⟨h1, h2, h3⟩ := HN.out hq0
    have r0 := D1.r0
    have r1 := D1.r1
    have f0 := D1.free 0
    have f1 := D1.free 1
    subst h1 h2 h3
    go_wp2
    exact bodyPost_ret (v := okD (.slice none 0 0) 0 false) (by simp [okD, results, Try.results60, go_sem, r0, r1]) rfl (newD_of (OwnN.none (by omega)) (D1.done _ _))
  · have hsz := D1.size
    go_wp2_with fail
    refine (HE.out (by omega) _ _ (D1.nums HX.out)).mono ?_
    rintro e w2 ⟨v2, rfl, ho, hb⟩
    have D2 := D1.step hb
    obtain ⟨xo, xcap, rfl, _, _⟩ := ho.nums.slice
    have HO := Lib.hid ho
    clear ho hb c0 c1
    have r0 := D2.r0
    have r1 := D2.r1
    have f0 := D2.free 0
    have f1 := D2.free 1
    go_wp2
    exact bodyPost_ret (v := okD (.slice xo L.length xcap) N B) (by simp [okD, results, Try.results60, go_sem, r0, r1]) rfl (newD_of (D2.own HO.out hsz _ _) (D2.done _ _))
end Go.Proofs.Ytllliommjkobeaa
