/-
  A number set, by the model.
-/
import Derived.Test.YtllliommjkobeaaDqD
namespace Go.Proofs.Ytllliommjkobeaa
open Go.RowKit Go.Deep

theorem own_set {w : World} {B g cap i : Nat} {xs : List Int} {x : Int} (h : OwnR w B (.slice (some ⟨g, 0, none⟩) xs.length cap) xs) (_hi : i < xs.length) (hx : -9223372036854775808 ≤ x ∧ x ≤ 9223372036854775807) :
    OwnR (w.setCell ⟨g, i, none⟩ (.int .i64 x)) B (.slice (some ⟨g, 0, none⟩) xs.length cap) (setN xs i x) := by
  have h1 := (h.1.stored i (.int .i64 x)).1
  have e : cellsN (setN xs i x) = (cellsN xs).set i (.int .i64 x) := by simp [cellsN, setN, List.map_set]
  have el : (setN xs i x).length = xs.length := by simp [setN]
  refine ⟨?_, fun y hy => ?_⟩
  · rw [e, el]
    exact h1
  · unfold setN at hy
    rcases List.mem_or_eq_of_mem_set hy with hy | rfl
    · exact h.2 y hy
    · exact hx
set_option maxHeartbeats 6400000 in
set_option maxRecDepth 100000 in
theorem sSetAt_any (v : Value) (xs : List Int) (m k x : Int) (w : World) (h : Nums w v xs) (hk : -9223372036854775808 ≤ k ∧ k ≤ 9223372036854775807) (hx : -9223372036854775808 ≤ x ∧ x ≤ 9223372036854775807) :
    Calls Try.prog 52 #[.agg #[v, .int .i64 m], .int .i64 k, .int .i64 x] w (NewD (ifN (stB xs m (inD xs m k) x) (setN xs (inD xs m k) x)) (ifI (stB xs m (inD xs m k) x) m) (stB xs m (inD xs m k) x) w) := by
  have HX := Lib.hid h
  obtain ⟨ao, cap, rfl, hlc, hcm⟩ := h.slice
  clear h
  obtain ⟨p, hp⟩ : ∃ p, p = inD xs m k := ⟨_, rfl⟩
  rw [← hp]
  have HP := Lib.hid hp
  clear hp
  go_enter Try.func52, Try.ntmps52
  have D := DFrame.new w (.slice ao xs.length cap) m
  have c0 := D.c0
  have c1 := D.c1
  go_wp2_with fail
  refine (satI_v _ (D.nums HX.out) hk).mono ?_
  rintro e w1 ⟨rfl, hb⟩
  have HA := atI_bd (k := k) (n := (xs.length : Int)) (by omega)
  obtain ⟨q, hq⟩ : ∃ q, q = atI k xs.length := ⟨_, rfl⟩
  rw [← hq] at HA ⊢
  have HQ := Lib.hid hq
  have D1 := D.step hb
  clear hb c0 c1 hq
  have c0 := D1.c0
  have c1 := D1.c1
  cases hv : validD xs m
  all_goals
    have HV := Lib.hid hv
    clear hv
    go_wp2_with fail
    refine (svD_v _ (D1.nums HX.out) HV.out).mono ?_
    rintro e w2 ⟨rfl, hb⟩
    have D2 := D1.step hb
    clear hb c0 c1
    have r0 := D2.r0
    have r1 := D2.r1
    have f0 := D2.free 0
    have f1 := D2.free 1
  · have HI : Hid (p = -1) := by show _ = _; rw [HP.out]; unfold inD; rw [HV.out]; rfl
    go_wp2
    exact bodyPost_ret (v := okD (.slice none 0 0) 0 false) (by simp [okD, results, Try.results52, go_sem, r0, r1]) rfl (newD_no (and_no1 (by show _ = _; rw [HI.out]; rfl)) (D2.done _ _))
  · have HI : Hid (p = q) := by show _ = _; rw [HP.out]; unfold inD; rw [HV.out, HQ.out]; rfl
    have hl := validD_len HV.out
    by_cases hq0 : q < 0
    · go_wp2
      exact bodyPost_ret (v := okD (.slice none 0 0) 0 false) (by simp [okD, results, Try.results52, go_sem, r0, r1]) rfl (newD_no (and_no1 (by show _ = _; rw [HI.out]; exact dlB_no hq0)) (D2.done _ _))
    · clear r0 r1 f0 f1
      obtain ⟨i, rfl⟩ : ∃ i : Nat, q = i := ⟨q.toNat, by omega⟩
      have hlt : i < xs.length := by have := HA.2 (by omega); omega
      clear HA
      have HST : Hid (stB xs m p x = validD (setN xs i x) m) := by show _ = _; unfold stB; rw [HI.out, dlB_yes (by omega), Bool.true_and]
      have hsz := D2.size
      have c0 := D2.c0
      have c1 := D2.c1
      have DD : DFrame w w2.drew (.slice ao xs.length cap) m := ⟨D2.arg, D2.res, D2.below.drew⟩
      have DE : DFrame w (w2.drew.alloc (.cells #[.slice none 0 0, .int .i64 0] 27)) (.slice ao xs.length cap) m := DD.step ((Below.refl _ _).alloc (Nat.le_refl _) _)
      have hlt2 : w.heap.size < w2.heap.size := by have := D2.size; omega
      have HXD := Lib.hid (DD.nums HX.out)
      have HGE := Lib.hid (heap_at (n := w2.heap.size) w2.drew (.cells #[.slice none 0 0, .int .i64 0] 27) rfl)
      have HXE := Lib.hid (DE.nums HX.out)
      go_wp2_with fail
      go_region_law (first
        | (go_simp; go_at_call 82; (with_reducible refine (copyInts_any _ xs w2.drew HXD.out (by omega)).mono ?_); rintro e w3 ⟨v3, rfl, ho3, hb3⟩; have D3 := DD.step hb3; have mkA : (0 : Nat) = 0 := rfl; have k0 := D3.c0; have k1 := D3.c1; have hlt3 : w.heap.size < w3.heap.size := (by have := D3.size; omega); have hlt4 : w.heap.size + 1 < w3.heap.size := (by have := D3.size; omega); have HO3 := Lib.hid ho3; obtain ⟨xo, xcap, rfl, _, _⟩ := ho3.nums.slice; clear ho3)
        | (go_simp; go_at_call 82; refine (copyInts_any _ xs _ HXE.out (by omega)).mono ?_; rintro e w3 ⟨v3, rfl, ho3, hb3⟩; have D3 := DE.step hb3; have mkB : (0 : Nat) = 0 := rfl; have GE := two_below HGE.out hb3 (by simp); have e0 := two_cell0 GE; have e1 := two_cell1 GE; have ef0 := two_free GE 0; have ef1 := two_free GE 1; have k0 := D3.c0; have k1 := D3.c1; have hlt3 : w.heap.size < w3.heap.size := (by have := D3.size; omega); have hlt4 : w.heap.size + 1 < w3.heap.size := (by have := D3.size; omega); have HO3 := Lib.hid ho3; obtain ⟨xo, xcap, rfl, _, _⟩ := ho3.nums.slice; clear ho3))
      all_goals obtain ⟨g, gc, eg, hgc, hgB⟩ := own_shape0 HO3.out.1 (by omega)
      all_goals simp only [Value.slice.injEq] at eg
      all_goals obtain ⟨rfl, _, rfl⟩ := eg
      all_goals simp at hgB
      all_goals have hgl := (HO3.out.1.lt g rfl).2
      all_goals obtain ⟨u0, cg⟩ := row_cell HO3.out.1 (j := i) (by omega)
      all_goals have fg := HO3.out.1.frozenAt i
      all_goals have hg2 : w2.heap.size ≤ g := by omega
      all_goals have hb3s := hb3.size
      all_goals simp at hb3s
      any_goals
        clear mkA
        have hbw : Below w2.heap.size w3 ((w3.setCell ⟨g, i, none⟩ (.int .i64 x)).alloc (.cells #[.slice (some ⟨g, 0, none⟩) xs.length xcap, .int .i64 m] 27)) := ((Below.refl _ w3).setCell hg2 _).alloc (by simp; omega) _
        have D5 := D3.past hbw hsz
        have HO5 := Lib.hid ((own_set HO3.out hlt hx).below ((Below.refl (w3.setCell ⟨g, i, none⟩ (.int .i64 x)).heap.size _).alloc (Nat.le_refl _) (.cells #[.slice (some ⟨g, 0, none⟩) xs.length xcap, .int .i64 m] 27)) (Nat.le_refl _))
        clear hb3 HGE hbw
        go_wp2_with fail
        refine (schkD_any _ (setN xs i x) m _ HO5.out.own (Nat.le_refl _)).mono ?_
        rintro e w6 ⟨v6, rfl, ho6, hb6⟩
        have D6 := D5.step hb6
        obtain ⟨C, hC⟩ : ∃ C, C = chkN (setN xs i x) m := ⟨_, rfl⟩
        obtain ⟨M, hM⟩ : ∃ M, M = chkM (setN xs i x) m := ⟨_, rfl⟩
        obtain ⟨Bv, hBv⟩ : ∃ Bv, Bv = validD (setN xs i x) m := ⟨_, rfl⟩
        obtain ⟨yo, ycap, rfl, _, _⟩ := ho6.nums.slice
        have HF : Hid (∀ w' : World, OwnN w.heap.size w'.heap.size w' (.slice yo C.length ycap) C → Below w.heap.size w w' → NewD (ifN (stB xs m p x) (setN xs p x)) (ifI (stB xs m p x) m) (stB xs m p x) w (.returned (okD (.slice yo C.length ycap) M Bv)) w') := by
          intro w' h1 h2
          rw [HST.out, HI.out, hM, hBv]
          rw [hC] at h1 ⊢
          exact newD_checked h1 h2
        rw [← hC] at ho6 ⊢
        rw [← hM, ← hBv]
        have HO6 := Lib.hid (ho6.wide (show w.heap.size + 2 ≤ _ by (simp; omega)) (Nat.le_refl _))
        clear ho6 hb6 hC hM hBv
        have r0 := D6.r0
        have r1 := D6.r1
        have f0 := D6.free 0
        have f1 := D6.free 1
        go_wp2
        exact bodyPost_ret (v := okD (.slice yo C.length ycap) M Bv) (by simp [okD, results, Try.results52, go_sem, r0, r1]) rfl (HF.out _ (D6.own HO6.out (Nat.le_refl _) _ _) (D6.done _ _))
      any_goals
        clear mkB
        have hbw : Below w2.heap.size w3 (((w3.setCell ⟨w2.heap.size, 0, none⟩ (.slice (some ⟨g, 0, none⟩) xs.length xcap)).setCell ⟨w2.heap.size, 1, none⟩ (.int .i64 m)).setCell ⟨g, i, none⟩ (.int .i64 x)) := (((Below.refl w2.heap.size w3).setCell (p := ⟨w2.heap.size, 0, none⟩) (Nat.le_refl w2.heap.size) _).setCell (p := ⟨w2.heap.size, 1, none⟩) (Nat.le_refl w2.heap.size) _).setCell (p := ⟨g, i, none⟩) hg2 _
        have D5 := D3.past hbw hsz
        have hk1 : Keeps (fun k => w2.heap.size + 1 ≤ k) w3 ((w3.setCell ⟨w2.heap.size, 0, none⟩ (.slice (some ⟨g, 0, none⟩) xs.length xcap)).setCell ⟨w2.heap.size, 1, none⟩ (.int .i64 m)) := ((Keeps.refl _ w3).setCell (by show ¬ (w2.heap.size + 1 ≤ w2.heap.size); omega) _).setCell (by show ¬ (w2.heap.size + 1 ≤ w2.heap.size); omega) _
        have ho4 := HO3.out.keeps hk1 (fun k hk => by simp at hk; omega)
        have HO5 := Lib.hid (own_set ho4 hlt hx)
        clear hk1 ho4
        have hgne : ¬ w2.heap.size = g := by omega
        have hgne2 : ¬ g = w2.heap.size := by omega
        clear hb3 HGE hbw
        go_wp2_with fail
        refine (schkD_any _ (setN xs i x) m _ HO5.out.own (Nat.le_refl _)).mono ?_
        rintro e w6 ⟨v6, rfl, ho6, hb6⟩
        have D6 := D5.step hb6
        obtain ⟨C, hC⟩ : ∃ C, C = chkN (setN xs i x) m := ⟨_, rfl⟩
        obtain ⟨M, hM⟩ : ∃ M, M = chkM (setN xs i x) m := ⟨_, rfl⟩
        obtain ⟨Bv, hBv⟩ : ∃ Bv, Bv = validD (setN xs i x) m := ⟨_, rfl⟩
        obtain ⟨yo, ycap, rfl, _, _⟩ := ho6.nums.slice
        have HF : Hid (∀ w' : World, OwnN w.heap.size w'.heap.size w' (.slice yo C.length ycap) C → Below w.heap.size w w' → NewD (ifN (stB xs m p x) (setN xs p x)) (ifI (stB xs m p x) m) (stB xs m p x) w (.returned (okD (.slice yo C.length ycap) M Bv)) w') := by
          intro w' h1 h2
          rw [HST.out, HI.out, hM, hBv]
          rw [hC] at h1 ⊢
          exact newD_checked h1 h2
        rw [← hC] at ho6 ⊢
        rw [← hM, ← hBv]
        have HO6 := Lib.hid (ho6.wide (show w.heap.size + 2 ≤ _ by (simp; omega)) (Nat.le_refl _))
        clear ho6 hb6 hC hM hBv
        have r0 := D6.r0
        have r1 := D6.r1
        have f0 := D6.free 0
        have f1 := D6.free 1
        go_wp2
        exact bodyPost_ret (v := okD (.slice yo C.length ycap) M Bv) (by simp [okD, results, Try.results52, go_sem, r0, r1]) rfl (HF.out _ (D6.own HO6.out (Nat.le_refl _) _ _) (D6.done _ _))
end Go.Proofs.Ytllliommjkobeaa
