/-
  The program's spliced: numbers in the place of others.
-/
import Derived.Test.YtcipkdegcplmcaaDqP
namespace Go.Proofs.Ytcipkdegcplmcaa
open Go.RowKit Go.Deep

def splL (xs ys : List Int) (i j : Nat) : List Int := xs.take i ++ ys ++ xs.drop j
theorem newD_checked {w w' : World} {v : Value} {xs : List Int} {m : Int} (ho : OwnN w.heap.size w'.heap.size w' v (chkN xs m)) (h : Below w.heap.size w w') : NewD (ifN (validD xs m) xs) (ifI (validD xs m) m) (validD xs m) w (.returned (okD v (chkM xs m) (validD xs m))) w' := ⟨_, rfl, ho, h⟩

set_option maxHeartbeats 1600000 in
set_option maxRecDepth 100000 in
theorem spliced_any (v u : Value) (xs ys : List Int) (m : Int) (i j : Nat) (w : World) (h : Nums w v xs) (h' : Nums w u ys) (hl : xs.length ≤ 10) (hij : i ≤ j) (hj : j ≤ xs.length) (hy : ys.length ≤ 1) :
    Calls Try.prog 73 #[.agg #[v, .int .i64 m], .int .i64 i, .int .i64 j, u] w (NewD (ifN (validD (splL xs ys i j) m) (splL xs ys i j)) (ifI (validD (splL xs ys i j) m) m) (validD (splL xs ys i j) m) w) := by
  have HX := Lib.hid h
  have HY := Lib.hid h'
  obtain ⟨P, hP⟩ : ∃ P, P = xs.take i := ⟨_, rfl⟩
  obtain ⟨Q, hQ⟩ : ∃ Q, Q = xs.drop j := ⟨_, rfl⟩
  have HPL : Hid (P.length = i) := by show _ = _; rw [hP, List.length_take]; omega
  have HQL : Hid (Q.length = xs.length - j) := by show _ = _; rw [hQ, List.length_drop]
  have hR : splL xs ys i j = P ++ ys ++ Q := by unfold splL; rw [hP, hQ]
  rw [hR]
  obtain ⟨ao, cap, rfl, _, _⟩ := h.slice
  obtain ⟨bo, bap, rfl, _, _⟩ := h'.slice
  have HPT : Hid (Nums w (.slice ao i cap) P) := by show Nums _ _ _; rw [hP]; exact h.takeA (by omega)
  have HOK : Hid (okN P ∧ okN Q) := by show _ ∧ _; rw [hP, hQ]; exact ⟨okN_take h.ok i, okN_drop h.ok j⟩
  have HQQ := Lib.hid hQ
  have HTO : Hid (okN (P ++ ys ++ Q)) := okN_append (okN_append HOK.out.1 h'.ok) HOK.out.2
  have HLEN : Hid ((P ++ ys ++ Q).length ≤ 20 ∧ (P ++ ys).length = P.length + ys.length ∧ (P ++ ys ++ Q).length = (P ++ ys).length + Q.length) := by
    refine ⟨?_, List.length_append, List.length_append⟩
    rw [List.length_append, List.length_append]
    have := HPL.out
    have := HQL.out
    omega
  clear hP hQ hR h h'
  go_enter Try.func73, Try.ntmps73
  have D := DFrame.new w (.slice ao xs.length cap) m
  have c0 := D.c0
  have hsz0 := D.size
  go_wp2_with fail
  refine (rowOf_any _ P _ (D.nums HPT.out) (by have := HPL.out; omega)).mono ?_
  rw [show ((w.alloc (.cells #[.slice ao xs.length cap, .int .i64 m] 25)).alloc (.cells #[.slice none 0 0, .int .i64 0] 25)).heap.size = w.heap.size + 1 + 1 by simp]
  rintro e w1 ⟨rfl, hr, hb⟩
  have HR := Lib.hid hr
  have D1 := D.past hb (by omega)
  clear hr hb c0
  go_wp2_with fail
  refine (extendBack_any _ ys _ HR.out (D1.nums HY.out) (by have := HPL.out; omega)).mono ?_
  rintro e w2 ⟨rfl, hr, hb⟩
  rw [new_append (by have := HPL.out; omega), show 10 + P.length + ys.length = 10 + (P ++ ys).length by rw [List.length_append]; omega] at hr
  have HR2 := Lib.hid hr
  have D2 := D1.past hb (by omega)
  clear hr hb
  have c0 := D2.c0
  by_cases hcap : cap = j
  · have HD : Hid (Nums w2 (.slice ao (xs.length - j) 0) Q) := by
      have h2 := (D2.nums HX.out).dropA (k := j) (A := ao) (by omega) (fun h => absurd hcap h)
      rw [show cap - j = 0 by omega, ← HQQ.out] at h2
      exact h2
    go_wp2_with fail
    refine (extendBack_any _ Q _ HR2.out HD.out (by have := HLEN.out; omega)).mono ?_
    rintro e w3 ⟨rfl, hr, hb⟩
    rw [new_append (by have := HLEN.out; omega), show 10 + (P ++ ys).length + Q.length = 10 + (P ++ ys ++ Q).length by have := HLEN.out; omega] at hr
    have HR3 := Lib.hid hr
    have D3 := D2.past hb (by omega)
    clear hr hb c0
    have c1 := D3.c1
    have hi := items_new (zs := P ++ ys ++ Q) (a := 0) (b := (P ++ ys ++ Q).length) (Nat.le_refl _)
    rw [List.take_length, List.drop_zero, Nat.add_zero] at hi
    have HI := Lib.hid hi
    clear hi
    go_wp2_with fail
    refine (deque_any m _ HR3.out (okN_new HTO.out) (by omega) (by have := HLEN.out; omega)).mono ?_
    rw [HI.out]
    rintro e w4 ⟨v4, rfl, ho, hb⟩
    have D4 := D3.step hb
    have hsz3 := D3.size
    have HO := Lib.hid ho
    clear ho hb c1
    go_wp2_with fail
    refine (chkD_any v4 (P ++ ys ++ Q) m _ HO.out (Nat.le_refl _)).mono ?_
    rintro e w5 ⟨v5, rfl, ho, hb⟩
    have D5 := D4.step hb
    obtain ⟨xo, xcap, rfl, _, _⟩ := ho.nums.slice
    obtain ⟨C, hC⟩ : ∃ C, C = chkN (P ++ ys ++ Q) m := ⟨_, rfl⟩
    obtain ⟨M, hM⟩ : ∃ M, M = chkM (P ++ ys ++ Q) m := ⟨_, rfl⟩
    obtain ⟨B, hB⟩ : ∃ B, B = validD (P ++ ys ++ Q) m := ⟨_, rfl⟩
    have HF : Hid (∀ w' : World, OwnN w.heap.size w'.heap.size w' (.slice xo C.length xcap) C → Below w.heap.size w w' → NewD (ifN (validD (P ++ ys ++ Q) m) (P ++ ys ++ Q)) (ifI (validD (P ++ ys ++ Q) m) m) (validD (P ++ ys ++ Q) m) w (.returned (okD (.slice xo C.length xcap) M B)) w') := by
      intro w' h1 h2
      rw [hM, hB]
      rw [hC] at h1 ⊢
      exact newD_checked h1 h2
    rw [← hC] at ho ⊢
    rw [← hM, ← hB]
    have HO5 := Lib.hid ho
    clear ho hb hC hM hB
    have r0 := D5.r0
    have r1 := D5.r1
    have f0 := D5.free 0
    have f1 := D5.free 1
    go_wp2
    exact bodyPost_ret (v := okD (.slice xo C.length xcap) M B) (by simp [okD, results, Try.results73, go_sem, r0, r1]) rfl (HF.out _ (D5.own HO5.out hsz3 _ _) (D5.done _ _))
  · have HD : Hid (Nums w2 (.slice (ao.map fun x => x.add j) (xs.length - j) (cap - j)) Q) := by
      have h2 := (D2.nums HX.out).dropA (k := j) (A := ao.map fun x => x.add j) (by omega) (fun _ => rfl)
      rw [← HQQ.out] at h2
      exact h2
    go_wp2_with fail
    refine (extendBack_any _ Q _ HR2.out HD.out (by have := HLEN.out; omega)).mono ?_
    rintro e w3 ⟨rfl, hr, hb⟩
    rw [new_append (by have := HLEN.out; omega), show 10 + (P ++ ys).length + Q.length = 10 + (P ++ ys ++ Q).length by have := HLEN.out; omega] at hr
    have HR3 := Lib.hid hr
    have D3 := D2.past hb (by omega)
    clear hr hb c0
    have c1 := D3.c1
    have hi := items_new (zs := P ++ ys ++ Q) (a := 0) (b := (P ++ ys ++ Q).length) (Nat.le_refl _)
    rw [List.take_length, List.drop_zero, Nat.add_zero] at hi
    have HI := Lib.hid hi
    clear hi
    go_wp2_with fail
    refine (deque_any m _ HR3.out (okN_new HTO.out) (by omega) (by have := HLEN.out; omega)).mono ?_
    rw [HI.out]
    rintro e w4 ⟨v4, rfl, ho, hb⟩
    have D4 := D3.step hb
    have hsz3 := D3.size
    have HO := Lib.hid ho
    clear ho hb c1
    go_wp2_with fail
    refine (chkD_any v4 (P ++ ys ++ Q) m _ HO.out (Nat.le_refl _)).mono ?_
    rintro e w5 ⟨v5, rfl, ho, hb⟩
    have D5 := D4.step hb
    obtain ⟨xo, xcap, rfl, _, _⟩ := ho.nums.slice
    obtain ⟨C, hC⟩ : ∃ C, C = chkN (P ++ ys ++ Q) m := ⟨_, rfl⟩
    obtain ⟨M, hM⟩ : ∃ M, M = chkM (P ++ ys ++ Q) m := ⟨_, rfl⟩
    obtain ⟨B, hB⟩ : ∃ B, B = validD (P ++ ys ++ Q) m := ⟨_, rfl⟩
    have HF : Hid (∀ w' : World, OwnN w.heap.size w'.heap.size w' (.slice xo C.length xcap) C → Below w.heap.size w w' → NewD (ifN (validD (P ++ ys ++ Q) m) (P ++ ys ++ Q)) (ifI (validD (P ++ ys ++ Q) m) m) (validD (P ++ ys ++ Q) m) w (.returned (okD (.slice xo C.length xcap) M B)) w') := by
      intro w' h1 h2
      rw [hM, hB]
      rw [hC] at h1 ⊢
      exact newD_checked h1 h2
    rw [← hC] at ho ⊢
    rw [← hM, ← hB]
    have HO5 := Lib.hid ho
    clear ho hb hC hM hB
    have r0 := D5.r0
    have r1 := D5.r1
    have f0 := D5.free 0
    have f1 := D5.free 1
    go_wp2
    exact bodyPost_ret (v := okD (.slice xo C.length xcap) M B) (by simp [okD, results, Try.results73, go_sem, r0, r1]) rfl (HF.out _ (D5.own HO5.out hsz3 _ _) (D5.done _ _))
end Go.Proofs.Ytcipkdegcplmcaa
