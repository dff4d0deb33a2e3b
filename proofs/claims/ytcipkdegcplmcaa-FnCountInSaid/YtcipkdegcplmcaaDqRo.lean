/-
  A deque rotated, by the program.
-/
import Derived.Test.YtcipkdegcplmcaaDqP
namespace Go.Proofs.Ytcipkdegcplmcaa
open Go.RowKit Go.Deep

theorem okN_newTake {xs : List Int} (h : okN xs) (j : Nat) : okN (xs ++ xs.take j) := okN_append h (okN_take h j)
set_option maxHeartbeats 1600000 in
set_option maxRecDepth 100000 in
theorem rotate_gen {g : Nat} {cs Z : List Int} {f e : Nat} (j s : Nat) (w : World) (h : RowD w g cs f e) (hok : okN cs) (hs : s = f + j) (hse : s ≤ e) (he : e + j ≤ 30) (hZ : (cs.take s).drop f = Z) (hZL : Z.length = j) :
    Calls Try.prog 80 #[.pointer (some ⟨g, 0, none⟩), .int .i64 j] w fun r w' => r = .returned (.tuple #[]) ∧ RowD w' g (splice cs e Z) s (e + j) ∧ Below g w w' := by
  have H : Hid (RowD w.drew g cs f e) := h
  have hp := part_any f s w.drew H.out hok (by omega) (by omega)
  rw [hZ] at hp
  have HP := Lib.hid hp
  have HZL := Lib.hid hZL
  have c30 := h.first
  have hj1 : (f : Int) + (j : Int) = (s : Int) := by omega
  have hws : IntKind.i64.wrap (s : Int) = (s : Int) := IntWalk.i64_in _ (by omega)
  have HS := Lib.hid hs
  have hlt := h.lt
  clear h hp hZ hZL hs
  go_enter Try.func80, Try.ntmps80
  go_wp2_with fail
  go_region_with (first
    | (go_at_call 87; refine HP.out.mono ?_; rintro r w1 ⟨v1, rfl, ho1, hb1⟩)
    | (go_at_call 57; refine (extendBack_any v1 Z w1 (H.out.below hb1 hlt) ho1.nums (by have := HZL.out; omega)).mono ?_; rintro r w2 ⟨rfl, hr2, hb2⟩; have hb := Below.trans (hb1.mono (Nat.le_of_lt hlt)) hb2; have HR2 := Lib.hid hr2; have HB := Lib.hid (undrewB hb); clear hr2 hb2 hb; have c30 := HR2.out.first; have f30 := HR2.out.free 30))
  all_goals go_wp2
  all_goals go_end0
  all_goals have h3 := HR2.out.setFirst s
  all_goals rw [HZL.out] at h3
  all_goals exact ⟨rfl, h3, HB.out.setCell (Nat.le_refl g) _⟩
theorem rotate_any {g : Nat} {xs : List Int} (j : Nat) (w : World) (h : RowD w g (newRowN xs) 10 (10 + xs.length)) (hok : okN xs) (hl : xs.length ≤ 10) (hj : j ≤ xs.length) :
    Calls Try.prog 80 #[.pointer (some ⟨g, 0, none⟩), .int .i64 j] w fun r w' => r = .returned (.tuple #[]) ∧ RowD w' g (newRowN (xs ++ xs.take j)) (10 + j) (10 + (xs ++ xs.take j).length) ∧ Below g w w' := by
  have hi := items_new (zs := xs) (a := 0) (b := j) hj
  rw [List.drop_zero, Nat.add_zero] at hi
  have hzl : (xs.take j).length = j := by rw [List.length_take]; omega
  refine (rotate_gen j (10 + j) w h (okN_new hok) rfl (by omega) (by omega) hi hzl).mono ?_
  rintro e w' ⟨rfl, hr, hb⟩
  rw [new_append (by omega), Nat.add_assoc, ← hzl, ← List.length_append, hzl] at hr
  exact ⟨rfl, hr, hb⟩
/-! ### how far -/
def rotJ (n : Int) (L : Nat) : Nat := if n.tmod L < 0 then (- n.tmod L).toNat else if n.tmod L = 0 then 0 else (L - n.tmod L).toNat
theorem rot_bd (n : Int) {L : Nat} (h : 0 < L) : -(L : Int) < n.tmod L ∧ n.tmod L < L :=
  ⟨Int.lt_tmod_of_pos n (by omega), Int.tmod_lt_of_pos n (by omega)⟩
theorem rotJ_le (n : Int) {L : Nat} (h : 0 < L) : rotJ n L ≤ L := by
  have := rot_bd n h
  unfold rotJ
  split
  · omega
  · split <;> omega
theorem tmod_up {a b : Int} (h0 : 0 ≤ a) (h1 : a < b) : a.tmod b = a := Int.tmod_eq_of_lt h0 h1
theorem tmod_over {a b : Int} (h0 : 0 ≤ a) (h1 : a < b) : (a + b).tmod b = a := by
  rw [Int.tmod_eq_emod_of_nonneg (by omega), Int.add_emod_right, Int.emod_eq_of_lt h0 h1]
theorem rot_prog (n : Int) {L : Nat} (h : 0 < L) (hL : L ≤ 100) : (RowKit.wrap64 ((L : Int) - n.tmod L)).tmod L = (rotJ n L : Nat) := by
  have hb := rot_bd n h
  rw [IntWalk.wrap64_in _ ⟨by omega, by omega⟩]
  unfold rotJ
  split
  · have := tmod_over (a := - n.tmod L) (b := L) (by omega) (by omega)
    rw [show (L : Int) - n.tmod L = - n.tmod L + L by omega, this]
    omega
  · split
    · rename_i h2
      rw [h2, Int.sub_zero, Int.tmod_self]
      rfl
    · rw [tmod_up (by omega) (by omega)]
      omega

theorem rot_spec (n : Int) {L : Nat} (h : 0 < L) (hL : L ≤ 100) : ∃ K : Nat, (L : Int) - (RowKit.wrap64 (n.tmod L + L)).tmod L = (K : Nat) ∧ K ≤ L ∧ (K = rotJ n L ∨ K = L ∧ rotJ n L = 0) := by
  have hb := rot_bd n h
  rw [IntWalk.wrap64_in _ ⟨by omega, by omega⟩]
  by_cases h0 : n.tmod L < 0
  · refine ⟨(- n.tmod L).toNat, ?_, by omega, .inl ?_⟩
    · rw [tmod_up (by omega) (by omega)]
      omega
    · unfold rotJ
      rw [if_pos h0]
  · have e : (n.tmod L + L).tmod L = n.tmod L := tmod_over (by omega) (by omega)
    refine ⟨(L - n.tmod L).toNat, ?_, by omega, ?_⟩
    · rw [e]
      omega
    · unfold rotJ
      rw [if_neg h0]
      split
      · right
        omega
      · left
        rfl
def rdL (xs : List Int) (n : Int) : List Int := xs.drop (rotJ n xs.length) ++ xs.take (rotJ n xs.length)
theorem rd_le (xs : List Int) (m n : Int) : (ifN (tdB xs m) (rdL xs n)).length ≤ 10000000 := ifN_le fun h => by
  have h1 := validD_len h
  unfold rdL
  rw [List.length_append, List.length_drop, List.length_take]
  omega
theorem rd_spec {xs : List Int} {n : Int} {K : Nat} (h : K = rotJ n xs.length ∨ K = xs.length ∧ rotJ n xs.length = 0) : xs.drop K ++ xs.take K = rdL xs n := by
  unfold rdL
  rcases h with rfl | ⟨rfl, h⟩
  · rfl
  · rw [h]
    simp

set_option maxHeartbeats 1600000 in
set_option maxRecDepth 100000 in
theorem RotateDeque_any (v : Value) (xs : List Int) (m n : Int) (w : World) (h : Nums w v xs) (hn : -9223372036854775808 ≤ n ∧ n ≤ 9223372036854775807) :
    Calls Try.prog 39 #[.agg #[v, .int .i64 m], .int .i64 n] w (NewE (ifN (tdB xs m) (rdL xs n)) (ifI (tdB xs m) m) w) := by
  have HX := Lib.hid h
  obtain ⟨ao, cap, rfl, _, _⟩ := h.slice
  obtain ⟨hn0, hn1⟩ := hn
  clear h
  obtain ⟨R, hR⟩ : ∃ R, R = rdL xs n := ⟨_, rfl⟩
  rw [← hR]
  have HRR := Lib.hid hR
  clear hR
  go_enter Try.func39, Try.ntmps39
  have D := DFrame.new w (.slice ao xs.length cap) m
  have c0 := D.c0
  have c1 := D.c1
  cases hv : validD xs m
  all_goals
    have HV := Lib.hid hv
    clear hv
    go_wp2_with fail
    refine (VD_v _ (D.nums HX.out) HV.out).mono ?_
    rintro e w1 ⟨rfl, hb⟩
    have D1 := D.step hb
    clear hb c0 c1
    have c0 := D1.c0
    have c1 := D1.c1
    have r0 := D1.r0
    have r1 := D1.r1
    have f0 := D1.free 0
    have f1 := D1.free 1
  · go_wp2
    exact bodyPost_ret (v := .agg #[.slice none 0 0, .int .i64 0]) (by simp [results, Try.results39, go_sem, r0, r1]) rfl (newE_no HV (D1.done _ _))
  · have hl := validD_len HV.out
    have hsz := D1.size
    go_wp2_with fail
    refine (rowOf_any _ xs _ (D1.nums HX.out) (by omega)).mono ?_
    rintro e w2 ⟨rfl, hr, hb⟩
    have HR := Lib.hid hr
    have D2 := D1.step hb
    clear hr hb c0 c1 r0 r1 f0 f1
    have c0 := D2.c0
    have c1 := D2.c1
    by_cases h0 : 0 < xs.length
    · have hj := rot_prog n h0 (by omega)
      have hjl := rotJ_le n h0
      obtain ⟨j, hje⟩ : ∃ j, j = rotJ n xs.length := ⟨_, rfl⟩
      have HJR : Hid (R = xs.drop j ++ xs.take j) := by show _ = _; rw [HRR.out, hje]; rfl
      rw [← hje] at hj hjl
      have HJE := Lib.hid hje
      clear hje
      go_wp2_with fail
      refine (rotate_any j _ HR.out HX.out.ok hl hjl).mono ?_
      rintro e w3 ⟨rfl, hr, hb⟩
      have HR3 := Lib.hid hr
      have D3 := D2.past hb hsz
      have hla : (xs ++ xs.take j).length = xs.length + j := by rw [List.length_append, List.length_take]; omega
      have HLA := Lib.hid hla
      have hi := items_new (zs := xs ++ xs.take j) (a := j) (b := (xs ++ xs.take j).length) (Nat.le_refl _)
      rw [List.take_length, List.drop_append_of_le_length hjl, ← HJR.out] at hi
      have HI := Lib.hid hi
      clear hr hb c0 c1 hla hi hj
      have c1 := D3.c1
      go_wp2_with fail
      refine (deque_any m _ HR3.out (okN_new (okN_newTake HX.out.ok j)) (by have := HLA.out; omega) (by have := HLA.out; omega)).mono ?_
      rw [HI.out]
      rintro e w4 ⟨v', rfl, ho, hb⟩
      have hsz3 := D3.size
      have D4 := D3.step hb
      obtain ⟨xo, xcap, rfl, _, _⟩ := ho.nums.slice
      have HO := Lib.hid ho
      clear ho hb c1
      have r0 := D4.r0
      have r1 := D4.r1
      have f0 := D4.free 0
      have f1 := D4.free 1
      go_wp2
      exact bodyPost_ret (v := .agg #[.slice xo R.length xcap, .int .i64 m]) (by simp [results, Try.results39, go_sem, r0, r1]) rfl (newE_yes HV (D4.own HO.out hsz3 _ _) (D4.done _ _))
    · have hx0 : xs = [] := List.eq_nil_of_length_eq_zero (by omega)
      have HJR : Hid (R = xs) := by show _ = _; rw [HRR.out, hx0]; simp [rdL]
      have hi := items_new (zs := xs) (a := 0) (b := xs.length) (Nat.le_refl _)
      rw [List.take_length, List.drop_zero, Nat.add_zero, ← HJR.out] at hi
      rw [HJR.out] at hi
      have HI := Lib.hid hi
      clear hi c0 c1 hx0
      have c0 := D2.c0
      have c1 := D2.c1
      go_wp2_with fail
      refine (deque_any m _ HR.out (okN_new HX.out.ok) (by omega) (by omega)).mono ?_
      rw [HI.out]
      rintro e w4 ⟨v', rfl, ho, hb⟩
      have hsz3 := D2.size
      have D4 := D2.step hb
      obtain ⟨xo, xcap, rfl, _, _⟩ := ho.nums.slice
      have HO := Lib.hid ho
      clear ho hb c0 c1
      have r0 := D4.r0
      have r1 := D4.r1
      have f0 := D4.free 0
      have f1 := D4.free 1
      go_wp2
      exact bodyPost_ret (v := .agg #[.slice xo xs.length xcap, .int .i64 m]) (by simp [results, Try.results39, go_sem, r0, r1]) rfl (by rw [HJR.out]; exact newE_yes HV (D4.own HO.out hsz3 _ _) (D4.done _ _))
end Go.Proofs.Ytcipkdegcplmcaa
