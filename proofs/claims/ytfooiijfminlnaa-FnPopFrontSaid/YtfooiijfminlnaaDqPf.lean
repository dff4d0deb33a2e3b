/-
  A number popped in front: by the model and by the program.
-/
import Derived.Test.YtfooiijfminlnaaDqPo
namespace Go.Proofs.Ytfooiijfminlnaa
open Go.RowKit Go.Deep

set_option maxHeartbeats 3200000 in
set_option maxRecDepth 100000 in
theorem sPopFront_any (v : Value) (xs : List Int) (m : Int) (w : World) (h : Nums w v xs) :
    Calls Try.prog 29 #[.agg #[v, .int .i64 m]] w (NewP (ifN (poB xs m) (pfL xs)) (ifI (poB xs m) m) (ifI (poB xs m) (pfX xs)) (poB xs m) w) := by
  have HX := Lib.hid h
  have h' := h
  obtain ⟨ao, cap, rfl, hlc, hcm, hok, hcell⟩ := h'
  clear h
  obtain ⟨L, hL⟩ : ∃ L, L = pfL xs := ⟨_, rfl⟩
  obtain ⟨X, hX⟩ : ∃ X, X = pfX xs := ⟨_, rfl⟩
  rw [← hL, ← hX]
  have HXX := Lib.hid hX
  have HLL := Lib.hid hL
  clear hX hL
  go_enter Try.func29, Try.ntmps29
  have D := DFrame.new w (.slice ao xs.length cap) m
  have c0 := D.c0
  have c1 := D.c1
  cases hv : validD xs m
  all_goals
    have HV := Lib.hid hv
    clear hv
    go_wp2_with fail
    refine (svD_v _ (D.nums HX.out) HV.out).mono ?_
    rintro e w2 ⟨rfl, hb⟩
    have D2 := D.step hb
    clear hb c0 c1
    have c0 := D2.c0
    have c1 := D2.c1
    have r0 := D2.r0
    have r1 := D2.r1
    have f0 := D2.free 0
    have f1 := D2.free 1
  · go_wp2
    exact bodyPost_ret (v := okP (.slice none 0 0) 0 0 false) (by simp [okP, results, Try.results29, go_sem, r0, r1]) rfl (po_no (and_no1 HV) (D2.done _ _))
  · have hl := validD_len HV.out
    have hsz := D2.size
    by_cases h0 : 0 < xs.length
    · clear r0 r1 f0 f1
      have HB := po_true HV h0
      obtain ⟨b, o, rfl, hb, h1⟩ := hcell 0 h0
      have HXI : Hid (X = xs[0]) := by show _ = _; rw [HXX.out]; unfold pfX; simp [h0]
      have c2 : w2.cell? ⟨b, o, none⟩ = some (.int .i64 X) := by rw [HXI.out]; exact (D2.below.cell (p := ⟨b, _, none⟩) hb).trans h1
      have HLI : Hid (L = xs.drop 1) := by show _ = _; rw [HLL.out]; rfl
      have HLEN : Hid (L.length = xs.length - 1) := by show _ = _; rw [HLI.out, List.length_drop]
      have DD : DFrame w w2.drew (.slice (some ⟨b, o, none⟩) xs.length cap) m := ⟨D2.arg, D2.res, D2.below.drew⟩
      have hi1 : (1 : Int) ≤ (xs.length : Int) := by omega
      have hi2 : 1 ≤ xs.length := by omega
      have hi3 : (0 : Int) < (xs.length : Int) := by omega
      have hi4 : 1 ≤ cap := by omega
      have hne : ¬ xs.length = 0 := by omega
      clear h1
      by_cases hcap : cap = 1
      · subst hcap
        have HD : Hid (Nums w (.slice (some ⟨b, o, none⟩) 0 0) L) := by
          have h2 := HX.out.dropA (k := 1) (A := some ⟨b, o, none⟩) (by omega) (fun h => absurd rfl h)
          rw [Nat.sub_self, show xs.length - 1 = 0 by omega, ← HLI.out] at h2
          exact h2
        have hx1 : xs.length = 1 := by omega
        go_wp2_with fail
        go_region_law (go_simp; go_at_call 63; refine (copyInts_any _ L _ (DD.nums HD.out) (by have := HLEN.out; omega)).mono ?_; rintro e w3 ⟨v3, rfl, ho3, hb3⟩; have D4 := DD.step hb3; have k0 := D4.c0; have k1 := D4.c1; have k2 := (hb3.cell (p := ⟨b, o, none⟩) (Nat.lt_of_lt_of_le hb D2.below.size)).trans c2; obtain ⟨xo, xcap, rfl, _, _⟩ := ho3.nums.slice; have HO := Lib.hid ho3.own; have r0 := D4.r0; have r1 := D4.r1; have f0 := D4.free 0; have f1 := D4.free 1)
        all_goals go_wp2
        all_goals exact bodyPost_ret (v := okP (.slice xo L.length xcap) m X true) (by simp [okP, results, Try.results29, go_sem, r0, r1]) rfl (po_yes HB (D4.own HO.out hsz _ _) (D4.done _ _))
      · have HD : Hid (Nums w (.slice (some ⟨b, o + 1, none⟩) (xs.length - 1) (cap - 1)) L) := by
          have h2 := HX.out.dropA (k := 1) (A := some ⟨b, o + 1, none⟩) (by omega) (fun _ => by simp [Addr.add_lit])
          rw [← HLI.out] at h2
          exact h2
        go_wp2_with fail
        go_region_law (go_simp; go_at_call 63; refine (copyInts_any _ L _ (DD.nums HD.out) (by have := HLEN.out; omega)).mono ?_; rintro e w3 ⟨v3, rfl, ho3, hb3⟩; have D4 := DD.step hb3; have k0 := D4.c0; have k1 := D4.c1; have k2 := (hb3.cell (p := ⟨b, o, none⟩) (Nat.lt_of_lt_of_le hb D2.below.size)).trans c2; obtain ⟨xo, xcap, rfl, _, _⟩ := ho3.nums.slice; have HO := Lib.hid ho3.own; have r0 := D4.r0; have r1 := D4.r1; have f0 := D4.free 0; have f1 := D4.free 1)
        all_goals go_wp2
        all_goals exact bodyPost_ret (v := okP (.slice xo L.length xcap) m X true) (by simp [okP, results, Try.results29, go_sem, r0, r1]) rfl (po_yes HB (D4.own HO.out hsz _ _) (D4.done _ _))
    · have hx0 : xs = [] := List.eq_nil_of_length_eq_zero (by omega)
      have HB := po_false (m := m) hx0
      subst hx0
      go_wp2
      exact bodyPost_ret (v := okP (.slice none 0 0) 0 0 false) (by simp [okP, results, Try.results29, go_sem, r0, r1]) rfl (po_no HB (D2.done _ _))

set_option maxHeartbeats 3200000 in
set_option maxRecDepth 100000 in
theorem PopFront_any (v : Value) (xs : List Int) (m : Int) (w : World) (h : Nums w v xs) :
    Calls Try.prog 28 #[.agg #[v, .int .i64 m]] w (NewP (ifN (poB xs m) (pfL xs)) (ifI (poB xs m) m) (ifI (poB xs m) (pfX xs)) (poB xs m) w) := by
  have HX := Lib.hid h
  have h' := h
  obtain ⟨ao, cap, rfl, hlc, hcm, hok, hcell⟩ := h'
  clear h
  obtain ⟨L, hL⟩ : ∃ L, L = pfL xs := ⟨_, rfl⟩
  obtain ⟨X, hX⟩ : ∃ X, X = pfX xs := ⟨_, rfl⟩
  rw [← hL, ← hX]
  have HXX := Lib.hid hX
  have HLL := Lib.hid hL
  clear hX hL
  go_enter Try.func28, Try.ntmps28
  have D := DFrame.new w (.slice ao xs.length cap) m
  have c0 := D.c0
  have c1 := D.c1
  cases hv : validD xs m
  all_goals
    have HV := Lib.hid hv
    clear hv
    go_wp2_with fail
    refine (VD_v _ (D.nums HX.out) HV.out).mono ?_
    rintro e w2 ⟨rfl, hb⟩
    have D2 := D.step hb
    clear hb c0 c1
    have c0 := D2.c0
    have c1 := D2.c1
    have r0 := D2.r0
    have r1 := D2.r1
    have f0 := D2.free 0
    have f1 := D2.free 1
  · go_wp2
    exact bodyPost_ret (v := okP (.slice none 0 0) 0 0 false) (by simp [okP, results, Try.results28, go_sem, r0, r1]) rfl (po_no (and_no1 HV) (D2.done _ _))
  · have hl := validD_len HV.out
    have hsz := D2.size
    by_cases h0 : 0 < xs.length
    · clear r0 r1 f0 f1
      have HB := po_true HV h0
      go_wp2_with fail
      refine (rowOf_any _ xs _ (D2.nums HX.out) (by omega)).mono ?_
      rintro e w3 ⟨rfl, hr, hb⟩
      have D3 := D2.step hb
      obtain ⟨q, hq⟩ : ∃ q, q = 10 := ⟨_, rfl⟩
      have HXI : Hid (X = xs[0]) := by show _ = _; rw [HXX.out]; unfold pfX; simp [h0]
      have HLI : Hid (L = xs.drop 1) := by show _ = _; rw [HLL.out]; rfl
      obtain ⟨z, hz⟩ : ∃ z, z = 10 + xs.length := ⟨_, rfl⟩
      rw [← hz, ← hq] at hr
      have HR3 := Lib.hid hr
      have hq30 : q < 30 := by omega
      have hsz3 := D3.size
      clear hr hb c0 c1
      have c30 := HR3.out.first
      have f30 := HR3.out.free 30
      have hne : ¬ xs.length = 0 := by omega
      have HQ := Lib.hid hq
      have HZ := Lib.hid hz
      obtain ⟨p, hp1⟩ : ∃ p, p = q + 1 := ⟨_, rfl⟩
      have hp2 : (p : Int) - 1 = (q : Int) := by omega
      have hp3 : p ≤ 30 := by omega
      have hp4 : 1 ≤ p := by omega
      have hq31 : (q : Int) < 30 := by omega
      have hwq : IntKind.i64.wrap (q : Int) = (q : Int) := IntWalk.i64_in _ (by omega)
      have HPQ := Lib.hid hp1
      have hp5 : (q : Int) + 1 = p := by omega
      have HP5 := Lib.hid hp5
      clear hp1 hp5
      clear hq hz
      go_wp2_with fail
      have HR4 : Hid (RowD ((w3.setCell ⟨w2.heap.size, 30, none⟩ (.int .i64 ((q : Int) + 1))).drew) w2.heap.size (newRowN xs) p z) := HR3.out.putFirst (q := p) HP5.out
      have DD : DFrame w ((w3.setCell ⟨w2.heap.size, 30, none⟩ (.int .i64 ((q : Int) + 1))).drew) (.slice ao xs.length cap) m := D3.past ((((Below.refl w2.heap.size w3).setCell (Nat.le_refl _) _)).drew) hsz
      have HC : Hid ((newRowN xs)[q]'(by rw [HR4.out.1]; exact hq30) = X) := by
        show _ = _
        rw [HXI.out]
        have := new_at (xs := xs) (i := 0) h0 (by rw [HR4.out.1]; omega)
        simp only [HQ.out]
        exact this
      have hit := items_new (zs := xs) (a := 1) (b := xs.length) (Nat.le_refl _)
      rw [List.take_length, ← HZ.out, ← HLI.out, show 10 + 1 = p by rw [HPQ.out, HQ.out]] at hit
      have hp := deque_any m _ HR4.out (okN_new hok) (by have := HQ.out; have := HZ.out; have := HPQ.out; omega) (by have := HZ.out; omega)
      rw [hit] at hp
      have HP := Lib.hid hp
      have kq : (w3.setCell ⟨w2.heap.size, 30, none⟩ (.int .i64 ((q : Int) + 1))).cell? ⟨w2.heap.size, 30, none⟩ = _ := HR4.out.first
      have kv : (w3.setCell ⟨w2.heap.size, 30, none⟩ (.int .i64 ((q : Int) + 1))).cell? ⟨w2.heap.size, q, none⟩ = _ := HR4.out.cell hq30
      rw [HC.out] at kv
      have km : (w3.setCell ⟨w2.heap.size, 30, none⟩ (.int .i64 ((q : Int) + 1))).cell? ⟨w.heap.size, 1, none⟩ = _ := DD.c1
      have hszd := DD.size
      clear c30 f30 hit hp
      go_region_with (first
        | (go_at_call 55; refine HP.out.mono ?_; rintro r w4 ⟨v4, rfl, ho, hb4⟩; have D4 := DD.step hb4; obtain ⟨xo, xcap, rfl, _, _⟩ := ho.nums.slice; have HO := Lib.hid ho; have HR5 := Lib.hid (HR4.out.below hb4 HR4.out.lt); have r0 := D4.r0; have r1 := D4.r1; have f0 := D4.free 0; have f1 := D4.free 1; have kk := HR5.out.first; have kc := HR5.out.cell hq30; rw [HC.out] at kc; clear ho hb4))
      all_goals go_wp2
      all_goals exact bodyPost_ret (v := okP (.slice xo L.length xcap) m X true) (by simp [okP, results, Try.results28, go_sem, r0, r1]) rfl (po_yes HB (D4.own HO.out hszd _ _) (D4.done _ _))
    · have hx0 : xs = [] := List.eq_nil_of_length_eq_zero (by omega)
      have HB := po_false (m := m) hx0
      subst hx0
      go_wp2
      exact bodyPost_ret (v := okP (.slice none 0 0) 0 0 false) (by simp [okP, results, Try.results28, go_sem, r0, r1]) rfl (po_no HB (D2.done _ _))
end Go.Proofs.Ytfooiijfminlnaa
