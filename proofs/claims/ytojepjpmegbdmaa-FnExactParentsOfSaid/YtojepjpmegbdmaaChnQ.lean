/-
  A chain without its first map, by the program and by the model.
-/
import Derived.Test.YtojepjpmegbdmaaChnD
namespace Go.Proofs.Ytojepjpmegbdmaa
open Go.RowKit

def paL (ls : List (List Itm)) : List (List Itm) := ifM (validC ls) (if ls.length = 1 then [[]] else ls.drop 1)
theorem pa_no {ls : List (List Itm)} (h : validC ls = false) : paL ls = [] := by unfold paL; rw [h]; rfl
theorem pa_one {ls : List (List Itm)} (h : validC ls = true) (h1 : ls.length = 1) : paL ls = [[]] := by unfold paL; rw [h, if_pos h1]; rfl
theorem pa_more {ls : List (List Itm)} (h : validC ls = true) (h1 : ls.length ≠ 1) : paL ls = ls.drop 1 := by unfold paL; rw [h, if_neg h1]; rfl
theorem tot_drop (ls : List (List Itm)) (j : Nat) : tot (ls.drop j) ≤ tot ls := by
  induction ls generalizing j with
  | nil => simp
  | cons x r ih =>
    cases j with
    | zero => simp
    | succ j =>
      have := ih j
      simp only [List.drop_succ_cons, tot]
      omega
theorem pa_le (ls : List (List Itm)) : tot (paL ls) ≤ 10000000 := by
  cases h : validC ls
  · rw [pa_no h]; simp [tot]
  · by_cases h1 : ls.length = 1
    · rw [pa_one h h1]; simp [tot]
    · rw [pa_more h h1]
      have := tot_mem h
      have := tot_drop ls 1
      omega
theorem RowOf.tail {K : Nat → Prop} {w : World} {b o n cap : Nat} {us : List Value} (h : RowOf K w (.slice (some ⟨b, o, none⟩) n cap) us) : RowOf K w (.slice (some ⟨b, o + 1, none⟩) (n - 1) (cap - 1)) (us.drop 1) := by
  obtain ⟨ao, cap', e, h1, h2, h3⟩ := h
  simp only [Value.slice.injEq] at e
  obtain ⟨rfl, rfl, rfl⟩ := e
  refine ⟨some ⟨b, o + 1, none⟩, cap - 1, by simp, by simp; omega, by omega, fun k u hu => ?_⟩
  rw [List.getElem?_drop] at hu
  obtain ⟨b', o', ha, hb, hK, hc⟩ := h3 (1 + k) u hu
  simp only [Option.some.injEq, Addr.mk.injEq, and_true] at ha
  obtain ⟨rfl, rfl⟩ := ha
  exact ⟨b, o + 1, rfl, hb, hK, by rw [Nat.add_assoc]; exact hc⟩
theorem MapsK.tail {K : Nat → Prop} {w : World} {b o n cap : Nat} {ls : List (List Itm)} (h : MapsK K w (.slice (some ⟨b, o, none⟩) n cap) ls) : MapsK K w (.slice (some ⟨b, o + 1, none⟩) (n - 1) (cap - 1)) (ls.drop 1) := by
  obtain ⟨us, h1, h2, h3⟩ := h
  refine ⟨us.drop 1, by simp [h1], h2.tail, fun k u l hu hl => ?_⟩
  rw [List.getElem?_drop] at hu hl
  exact h3 (1 + k) u l hu hl
theorem OwnM.one {B : Nat} {w : World} {u : Value} {l : List Itm} (hu : RowZ B w.heap.size w u l) (hB : B ≤ w.heap.size) : OwnM B (w.heap.size + 1) (w.alloc (.cells #[u] 47)) (.slice (some ⟨w.heap.size, 0, none⟩) 1 1) [l] := by
  have h := World.ownsRow_lit (base := B) (e := 47) (size := 1) w #[u] 1 hB (by unfold maxLen; omega) rfl
  refine ⟨[u], .inl ⟨h, fun g hg => by simp [Value.ownBlock] at hg; omega⟩, rfl, ?_, ?_⟩
  · intro k x m hx hm
    match k, hx, hm with
    | 0, hx, hm =>
      simp at hx hm
      subst hx hm
      exact (hu.keeps ((Keeps.refl _ _).alloc (fun j hj => hj.2) _)).wide (Nat.le_refl _) (by omega)
    | k + 1, hx, _ => simp at hx
  · intro i j x x' m m' hij hx hx' _ _
    match i, j, hx, hx' with
    | 0, 0, _, _ => omega
    | i + 1, _, hx, _ => simp at hx
    | 0, j + 1, _, hx' => simp at hx'
theorem RowZ_nil (lo hi : Nat) (w : World) : RowZ lo hi w (.slice none 0 0) [] := ⟨.inr ⟨rfl, none, 0, rfl, by omega⟩, fun h => absurd rfl h⟩
theorem RowZ_none (lo hi : Nat) (w : World) (ao : Option Addr) : RowZ lo hi w (.slice ao 0 0) [] := ⟨.inr ⟨rfl, ao, 0, rfl, by omega⟩, fun h => absurd rfl h⟩
theorem ret_c {a b : Value} (h : a = b) : Ending.returned (.agg #[a]) = .returned (.agg #[b]) := by rw [h]

set_option maxHeartbeats 1600000 in
set_option maxRecDepth 100000 in
theorem ParentsOf_any (v : Value) (ls : List (List Itm)) (w : World) (h : Maps w v ls) :
    Calls Try.prog 51 #[.agg #[v]] w (NewM (fun v => .agg #[v]) (paL ls) w) := by
  have hM := Lib.hid h
  obtain ⟨ao, cap, rfl, hlc, hcm⟩ := h.slice
  clear h
  go_enter Try.func51, Try.ntmps51
  have HA : Hid (Below w.heap.size w ((w.alloc (.cells #[.slice ao ls.length cap] 29)).alloc (.cells #[.slice none 0 0] 29))) := ((Below.refl _ _).alloc (Nat.le_refl _) _).alloc (by simp) _
  have F0 := Lib.hid ((One.new w 29 (.slice ao ls.length cap)).below (B := w.heap.size + 1) ((Below.refl _ _).alloc (by simp) (.cells #[.slice none 0 0] 29)) (by omega))
  have F1' := One.new (w.alloc (.cells #[.slice ao ls.length cap] 29)) 29 (.slice none 0 0)
  simp at F1'
  have F1 := Lib.hid F1'
  clear F1'
  have c0 := F0.out.cell
  cases hv : validC ls
  all_goals
    have HV := Lib.hid hv
    clear hv
    go_wp2_with fail
    refine (vC_v _ (hM.out.mono HA.out (Nat.le_refl _)) HV.out).mono ?_
    rintro e w1 ⟨rfl, hb1⟩
    have hs1 := hb1.size
    simp at hs1 hb1
    have hw1 := Lib.hid (HA.out.trans (hb1.mono (by omega)))
    have G0 := Lib.hid (F0.out.below hb1 (by omega))
    have G1 := Lib.hid (F1.out.below hb1 (by omega))
    clear c0 hb1
  · have e0 := G1.out.cell
    have f0 := G1.out.free
    have HB : Hid (Below w.heap.size w (w1.setCell ⟨w.heap.size + 1, 0, none⟩ (.slice none 0 0))) := hw1.out.setCell (by simp) _
    have HC := Lib.hid (pa_no HV.out)
    go_wp2
    refine bodyPost_ret (v := .agg #[.slice none 0 0]) (by simp [results, Try.results51, go_sem, e0]) rfl ⟨_, rfl, ?_, HB.out⟩
    rw [HC.out]
    exact OwnM.nil _ _ _
  · have hl := validC_iff.1 HV.out
    have ht := tot_mem HV.out
    have h0 : 0 < ls.length := by omega
    have c0 := G0.out.cell
    by_cases h1 : ls.length = 1
    · have HC := Lib.hid (pa_one HV.out h1)
      have hlit := eqLen_lit h1
      have hlit2 : ((ls.length : Nat) : Int) = 1 := by omega
      have HAN : Below w1.heap.size w1 (w1.alloc (.cells #[.slice none 0 0] 47)) := (Below.refl _ _).alloc (Nat.le_refl _) _
      have K1 := G1.out.below HAN G1.out.lt
      have e0 := K1.cell
      have f0 := K1.free
      have HO := Lib.hid (((OwnM.one (RowZ_nil w1.heap.size w1.heap.size w1) (Nat.le_refl _)).other K1 (by decide) (by decide) ((Keeps.refl _ _).one 0 (.slice (some ⟨w1.heap.size, 0, none⟩) 1 1))).wide hw1.out.size (hi' := ((w1.alloc (.cells #[.slice none 0 0] 47)).setCell ⟨w.heap.size + 1, 0, none⟩ (.slice (some ⟨w1.heap.size, 0, none⟩) 1 1)).heap.size) (by simp))
      have HB : Hid (Below w.heap.size w ((w1.alloc (.cells #[.slice none 0 0] 47)).setCell ⟨w.heap.size + 1, 0, none⟩ (.slice (some ⟨w1.heap.size, 0, none⟩) 1 1))) := (hw1.out.trans (HAN.mono hw1.out.size)).setCell (by simp) _
      clear HAN K1
      go_wp2
      refine bodyPost_ret (v := .agg #[.slice (some ⟨w1.heap.size, 0, none⟩) 1 1]) (by simp [results, Try.results51, go_sem, e0]) rfl ⟨_, rfl, ?_, HB.out⟩
      rw [HC.out]
      exact HO.out
    · have HC := Lib.hid (pa_more HV.out h1)
      obtain ⟨b, o, cap', u, e, hb, _, _⟩ := hM.out.at h0
      simp only [Value.slice.injEq] at e
      obtain ⟨rfl, _, rfl⟩ := e
      have htd := tot_drop ls 1
      have hM1 := Lib.hid ((hM.out.mono hw1.out (Nat.le_refl _)).tail : Maps w1 _ _)
      have hz1 : ¬ ((ls.length : Nat) : Int) = 1 := by omega
      have hc1 : ¬ (cap = 1) := by omega
      have hk1 : (1 : Int) ≤ (ls.length : Int) := by omega
      have hk2 : 1 ≤ ls.length := by omega
      have hk3 : 1 ≤ cap := by omega
      go_wp2_with fail
      refine (copied_any _ (ls.drop 1) w1 hM1.out (by simp; omega) (by omega)).mono ?_
      rintro e w2 ⟨v2, rfl, ho2, hb2⟩
      have H2 := Lib.hid (G1.out.below hb2 G1.out.lt)
      obtain ⟨vo, L, vc, rfl⟩ := ho2.shape
      have e0 := H2.out.cell
      have f0 := H2.out.free
      have hzz : w2.heap.size ≤ (w2.setCell ⟨w.heap.size + 1, 0, none⟩ (.slice vo L vc)).heap.size := by simp
      have HO := Lib.hid ((ho2.other H2.out (by decide) (by decide) ((Keeps.refl _ _).one 0 (.slice vo L vc))).wide hw1.out.size hzz)
      have HB : Hid (Below w.heap.size w (w2.setCell ⟨w.heap.size + 1, 0, none⟩ (.slice vo L vc))) := (hw1.out.trans (hb2.mono hw1.out.size)).setCell (by simp) _
      clear c0 ho2 hb2 hzz
      go_wp2
      refine bodyPost_ret (v := .agg #[.slice vo L vc]) (by simp [results, Try.results51, go_sem, e0]) rfl ⟨_, rfl, ?_, HB.out⟩
      rw [HC.out]
      exact HO.out

set_option maxHeartbeats 1600000 in
set_option maxRecDepth 100000 in
theorem sParentsOf_any (v : Value) (ls : List (List Itm)) (w : World) (h : Maps w v ls) :
    Calls Try.prog 50 #[.agg #[v]] w (NewMR (fun v => .agg #[v]) (paL ls) w) := by
  have hM := Lib.hid h
  obtain ⟨ao, cap, rfl, hlc, hcm⟩ := h.slice
  clear h
  go_enter Try.func50, Try.ntmps50
  have HA : Hid (Below w.heap.size w ((w.alloc (.cells #[.slice ao ls.length cap] 29)).alloc (.cells #[.slice none 0 0] 29))) := ((Below.refl _ _).alloc (Nat.le_refl _) _).alloc (by simp) _
  have F0 := Lib.hid ((One.new w 29 (.slice ao ls.length cap)).below (B := w.heap.size + 1) ((Below.refl _ _).alloc (by simp) (.cells #[.slice none 0 0] 29)) (by omega))
  have F1' := One.new (w.alloc (.cells #[.slice ao ls.length cap] 29)) 29 (.slice none 0 0)
  simp at F1'
  have F1 := Lib.hid F1'
  clear F1'
  have c0 := F0.out.cell
  cases hv : validC ls
  all_goals
    have HV := Lib.hid hv
    clear hv
    go_wp2_with fail
    refine (svC_v _ (hM.out.mono HA.out (Nat.le_refl _)) HV.out).mono ?_
    rintro e w1 ⟨rfl, hb1⟩
    have hs1 := hb1.size
    simp at hs1 hb1
    have hw1 := Lib.hid (HA.out.trans (hb1.mono (by omega)))
    have G0 := Lib.hid (F0.out.below hb1 (by omega))
    have G1 := Lib.hid (F1.out.below hb1 (by omega))
    clear c0 hb1
  · have e0 := G1.out.cell
    have f0 := G1.out.free
    have HB : Hid (Below w.heap.size w (w1.setCell ⟨w.heap.size + 1, 0, none⟩ (.slice none 0 0))) := hw1.out.setCell (by simp) _
    have HC := Lib.hid (pa_no HV.out)
    go_wp2
    refine bodyPost_ret (v := .agg #[.slice none 0 0]) (by simp [results, Try.results50, go_sem, e0]) rfl ⟨_, rfl, ?_, HB.out⟩
    rw [HC.out]
    exact (OwnM.nil _ _ _).mapsK
  · have hl := validC_iff.1 HV.out
    have ht := tot_mem HV.out
    have h0 : 0 < ls.length := by omega
    have c0 := G0.out.cell
    go_wp2_with fail
    refine (scopyChain_any _ ls _ (hM.out.mono hw1.out (Nat.le_refl _)) (by omega) (by omega)).mono ?_
    rintro e w2 ⟨v2, rfl, ho2, hb2⟩
    obtain ⟨g, cap2, rfl, hg1, hg2⟩ := ho2.head h0
    have hs2 := hb2.size
    have hcap : ls.length ≤ cap2 := by
      obtain ⟨_, _, e, h1, _⟩ := ho2.slice
      simp only [Value.slice.injEq] at e
      omega
    have FN := Lib.hid (One.new w2 29 (.slice (some ⟨g, 0, none⟩) ls.length cap2))
    have HW2 := Lib.hid (hw1.out.trans (hb2.mono hw1.out.size))
    have G2 := Lib.hid (G1.out.below hb2 G1.out.lt)
    have HO2 := Lib.hid ho2
    clear c0 ho2 hb2
    have d0 := FN.out.cell
    have d1 := FN.out.free
    have hk1 : (1 : Int) ≤ (ls.length : Int) := by omega
    have hk2 : 1 ≤ ls.length := by omega
    have hk3 : 1 ≤ cap2 := by omega
    by_cases h1 : ls.length = 1
    · have HC := Lib.hid (pa_one HV.out h1)
      have hn0 : (((ls.length - 1 : Nat) : Int) = 0) := by omega
      have hn1 : (ls.length - 1 = 0) := by omega
      have HB3 : Below w2.heap.size w2 (((w2.alloc (.cells #[.slice (some ⟨w2.heap.size + 1 + 1, 0, none⟩) 1 1] 29)).alloc (.cells #[] 87)).alloc (.cells #[.slice (some ⟨w2.heap.size + 1, 0, none⟩) 0 0] 47)) := (((Below.refl _ _).alloc (Nat.le_refl _) _).alloc (by simp) _).alloc (by simp <;> omega) _
      have K1 := G2.out.below HB3 G2.out.lt
      have e0 := K1.cell
      have f0 := K1.free
      have hone := OwnM.one (w := (w2.alloc (.cells #[.slice (some ⟨w2.heap.size + 1 + 1, 0, none⟩) 1 1] 29)).alloc (.cells #[] 87)) (RowZ_none w.heap.size _ _ (some ⟨w2.heap.size + 1, 0, none⟩)) (by simp; have := HW2.out.size; omega)
      simp at hone
      have hzz : w2.heap.size + 1 + 1 + 1 ≤ ((((w2.alloc (.cells #[.slice (some ⟨w2.heap.size + 1 + 1, 0, none⟩) 1 1] 29)).alloc (.cells #[] 87)).alloc (.cells #[.slice (some ⟨w2.heap.size + 1, 0, none⟩) 0 0] 47)).setCell ⟨w.heap.size + 1, 0, none⟩ (.slice (some ⟨w2.heap.size + 1 + 1, 0, none⟩) 1 1)).heap.size := by simp
      have HM := Lib.hid (((hone.other K1 (by decide) (by decide) ((Keeps.refl _ _).one 0 (.slice (some ⟨w2.heap.size + 1 + 1, 0, none⟩) 1 1))).wide (Nat.le_refl _) hzz).mapsK)
      have HB : Hid (Below w.heap.size w ((((w2.alloc (.cells #[.slice (some ⟨w2.heap.size + 1 + 1, 0, none⟩) 1 1] 29)).alloc (.cells #[] 87)).alloc (.cells #[.slice (some ⟨w2.heap.size + 1, 0, none⟩) 0 0] 47)).setCell ⟨w.heap.size + 1, 0, none⟩ (.slice (some ⟨w2.heap.size + 1 + 1, 0, none⟩) 1 1))) := (HW2.out.trans (HB3.mono HW2.out.size)).setCell (by simp) _
      clear HB3 K1 hone hzz
      go_wp2
      all_goals
        refine bodyPost_ret (v := .agg #[.slice (some ⟨w2.heap.size + 1 + 1, 0, none⟩) 1 1]) (by simp [results, Try.results50, go_sem, e0]) rfl ⟨_, rfl, ?_, HB.out⟩
        rw [HC.out]
        exact HM.out
    · have HC := Lib.hid (pa_more HV.out h1)
      have hc1 : ¬ (cap2 = 1) := by omega
      have hn0 : ¬ (((ls.length - 1 : Nat) : Int) = 0) := by omega
      have hn1 : ¬ (ls.length - 1 = 0) := by omega
      have HA2 : Below w2.heap.size w2 (w2.alloc (.cells #[.slice (some ⟨g, 1, none⟩) (ls.length - 1) (cap2 - 1)] 29)) := (Below.refl _ _).alloc (Nat.le_refl _) _
      have K1 := G2.out.below HA2 G2.out.lt
      have e0 := K1.cell
      have f0 := K1.free
      have HO3 := Lib.hid ((HO2.out.keeps (Keeps.of_below HA2 (fun j hj => hj.2))).other K1 (by decide) (by decide) ((Keeps.refl _ _).one 0 (.slice (some ⟨g, 1, none⟩) (ls.length - 1) (cap2 - 1))))
      have HB : Hid (Below w.heap.size w ((w2.alloc (.cells #[.slice (some ⟨g, 1, none⟩) (ls.length - 1) (cap2 - 1)] 29)).setCell ⟨w.heap.size + 1, 0, none⟩ (.slice (some ⟨g, 1, none⟩) (ls.length - 1) (cap2 - 1)))) := (HW2.out.trans (HA2.mono HW2.out.size)).setCell (by simp) _
      have hzz : w2.heap.size ≤ ((w2.alloc (.cells #[.slice (some ⟨g, 1, none⟩) (ls.length - 1) (cap2 - 1)] 29)).setCell ⟨w.heap.size + 1, 0, none⟩ (.slice (some ⟨g, 1, none⟩) (ls.length - 1) (cap2 - 1))).heap.size := by simp
      have HM := Lib.hid ((HO3.out.wide hw1.out.size hzz).mapsK.tail)
      clear HA2 K1 hzz
      go_wp2
      refine bodyPost_ret (v := .agg #[.slice (some ⟨g, 1, none⟩) (ls.length - 1) (cap2 - 1)]) (by simp [results, Try.results50, go_sem, e0]) rfl ⟨_, rfl, ?_, HB.out⟩
      rw [HC.out]
      exact HM.out
end Go.Proofs.Ytojepjpmegbdmaa
