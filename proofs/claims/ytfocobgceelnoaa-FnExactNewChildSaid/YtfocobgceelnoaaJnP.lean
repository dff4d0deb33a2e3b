/-
  Chains joined, by the program.
-/
import Derived.Test.YtfocobgceelnoaaCatM
import Derived.Test.YtfocobgceelnoaaChnP
namespace Go.Proofs.Ytfocobgceelnoaa
open Go.RowKit

set_option maxHeartbeats 1600000 in
set_option maxRecDepth 100000 in
theorem checkedChain_any (v : Value) (ls : List (List Itm)) (w : World) (h : Maps w v ls) (hn : ls.length ≤ 100000) (hm : tot ls ≤ 100000) :
    Calls Try.prog 60 #[v] w (NewM (fun v => okV v (validC ls)) (ifM (validC ls) ls) w) := by
  have hM := Lib.hid h
  obtain ⟨ao, cap, rfl, hlc, hcm⟩ := h.slice
  clear h
  go_enter Try.func60, Try.ntmps60
  have HA : Hid (Below w.heap.size w (w.alloc (.cells #[.slice none 0 0] 30))) := (Below.refl _ _).alloc (Nat.le_refl _) _
  have F0 := Lib.hid (One.new w 30 (.slice none 0 0))
  go_wp2_with fail
  refine (copied_any _ ls _ (hM.out.mono HA.out (Nat.le_refl _)) hn hm).mono ?_
  rintro e w1 ⟨v1, rfl, ho1, hb1⟩
  obtain ⟨xo, xc, rfl, _, _⟩ := ho1.slice
  have hs1 := hb1.size
  simp at hs1
  have HB1 := Lib.hid (HA.out.trans (hb1.mono (by simp)))
  have G0 := Lib.hid (F0.out.below hb1 (by simp))
  have HO1 := Lib.hid (ho1.keeps ((Keeps.refl _ w1).alloc (fun j hj => hj.2) (.cells #[.slice xo ls.length xc] 30)))
  have hbA : Below w1.heap.size w1 (w1.alloc (.cells #[.slice xo ls.length xc] 30)) := (Below.refl _ _).alloc (Nat.le_refl _) _
  have HB2 := Lib.hid (HB1.out.trans (hbA.mono (by omega)))
  have G2 := Lib.hid (G0.out.below hbA (by omega))
  have N2 := Lib.hid (One.new w1 30 (.slice xo ls.length xc))
  have c1 := N2.out.cell
  clear hb1 ho1 hbA
  cases hv : validC ls
  all_goals
    have HV := Lib.hid hv
    clear hv
    go_wp2_with fail
    refine (vC_v _ HO1.out.maps HV.out).mono ?_
    rintro e w2 ⟨rfl, hb2⟩
    have hs2 := hb2.size
    simp at hs2
    have HB3 := Lib.hid (HB2.out.trans (hb2.mono (by simp; omega)))
    have G3 := Lib.hid (G2.out.below hb2 (by simp; omega))
    have N3 := Lib.hid (N2.out.below hb2 (by simp))
    have e0 := G3.out.cell
    have f0 := G3.out.free
    have c2 := N3.out.cell
    have HO3 := Lib.hid (HO1.out.keeps (Keeps.of_below hb2 (fun j hj => by have := hj.2; simp; omega)))
    clear hb2 c1
    go_wp2
  · have HB : Hid (Below w.heap.size w (w2.setCell ⟨w.heap.size, 0, none⟩ (.slice none 0 0))) := HB3.out.setCell (by simp <;> omega) _
    exact bodyPost_ret (v := okV (.slice none 0 0) false) (by simp [okV, results, Try.results60, go_sem, e0]) rfl ⟨.slice none 0 0, by rw [HV.out], by rw [HV.out]; exact OwnM.nil _ _ _, HB.out⟩
  · have HB : Hid (Below w.heap.size w (w2.setCell ⟨w.heap.size, 0, none⟩ (.slice xo ls.length xc))) := HB3.out.setCell (by simp <;> omega) _
    exact bodyPost_ret (v := okV (.slice xo ls.length xc) true) (by simp [okV, results, Try.results60, go_sem, e0]) rfl ⟨.slice xo ls.length xc, by rw [HV.out], by rw [HV.out]; exact (HO3.out.keeps ((Keeps.refl _ _).boxset (by simp) _)).wide (by simp) (by simp; omega), HB.out⟩

/-! ### two chains, one behind the other -/
theorem items_one {w : World} {u : Value} {l : List Itm} (h : Items w u l) : u.oneCell' = true := by
  obtain ⟨ao, cap, rfl, _⟩ := h
  rfl
theorem tot_app (a b : List (List Itm)) : tot (a ++ b) = tot a + tot b := tot_append a b
/-- Two rows of lists as one. -/
theorem ConcatM2_any (va vb : Value) (a b : List (List Itm)) (w : World) (ha : Maps w va a) (hb : Maps w vb b) (h1 : a.length ≤ 1000) (h2 : b.length ≤ 1000) :
    Calls Try.prog 61 #[.slice (some ⟨w.heap.size, 0, none⟩) 2 2] (w.alloc (.cells #[va, vb] 28)) fun e w' => ∃ v, e = .returned v ∧ Maps w' v (a ++ b) ∧ Below w.heap.size w w' := by
  have HW : Below w.heap.size w (w.alloc (.cells #[va, vb] 28)) := (Below.refl _ _).alloc (Nat.le_refl _) _
  obtain ⟨us, ul, ur, ui⟩ := ha
  obtain ⟨us', ul', ur', ui'⟩ := hb
  have one : ∀ x ∈ us, x.oneCell' = true := fun x hx => by
    obtain ⟨k, hk, rfl⟩ := List.getElem_of_mem hx
    exact items_one (ui k _ _ (List.getElem?_eq_getElem hk) (List.getElem?_eq_getElem (by omega))).1
  have one' : ∀ x ∈ us', x.oneCell' = true := fun x hx => by
    obtain ⟨k, hk, rfl⟩ := List.getElem_of_mem hx
    exact items_one (ui' k _ _ (List.getElem?_eq_getElem hk) (List.getElem?_eq_getElem (by omega))).1
  refine (ConcatM_any w.heap.size 2 [us, us'] _ (by simp) (fun k hk => ?_) (by simp) (by simp; omega)).mono ?_
  · match k, hk with
    | 0, _ => exact ⟨va, two_cell0 (heap_alloc_new _ _), ur.below HW (Nat.le_refl _), one⟩
    | 1, _ => exact ⟨vb, two_cell1 (heap_alloc_new _ _), ur'.below HW (Nat.le_refl _), one'⟩
    | k + 2, hk => simp only [List.length_cons, List.length_nil] at hk; omega
  · rintro e w' ⟨v, rfl, ho, hbl⟩
    have hb2 := HW.trans (hbl.mono HW.size)
    refine ⟨v, rfl, ⟨us ++ us', by simp [ul, ul'], ?_, ?_⟩, hb2⟩
    · have e1 : [us, us'].flatten = us ++ us' := by simp
      rw [e1] at ho
      exact row_of ho (fun _ _ => trivial)
    · intro k u l hu hl
      refine ⟨?_, fun _ _ _ _ _ => trivial⟩
      by_cases hk : k < us.length
      · rw [List.getElem?_append_left hk] at hu
        rw [List.getElem?_append_left (by omega)] at hl
        exact (ui k u l hu hl).1.mono hb2 (Nat.le_refl _)
      · rw [List.getElem?_append_right (by omega)] at hu
        rw [List.getElem?_append_right (by omega), ← ul] at hl
        exact (ui' _ u l hu hl).1.mono hb2 (Nat.le_refl _)

def jnB (a b : List (List Itm)) : Bool := (validC a && validC b) && validC (a ++ b)
theorem ifM_le {c : Bool} {ls : List (List Itm)} (h : c = true → tot ls ≤ 10000000) : tot (ifM c ls) ≤ 10000000 := by
  unfold ifM
  split
  · rename_i hc
    exact h hc
  · simp [tot]

set_option maxHeartbeats 1600000 in
set_option maxRecDepth 100000 in
theorem JoinChains_any (va vb : Value) (a b : List (List Itm)) (w : World) (ha : Maps w va a) (hb : Maps w vb b) :
    Calls Try.prog 25 #[.agg #[va], .agg #[vb]] w (NewM (fun v => okV v (jnB a b)) (ifM (jnB a b) (a ++ b)) w) := by
  have hMa := Lib.hid ha
  have hMb := Lib.hid hb
  obtain ⟨ao, ac, rfl, _, _⟩ := ha.slice
  obtain ⟨bo, bc, rfl, _, _⟩ := hb.slice
  clear ha hb
  go_enter Try.func25, Try.ntmps25
  have HA : Hid (Below w.heap.size w (((w.alloc (.cells #[.slice ao a.length ac] 30)).alloc (.cells #[.slice bo b.length bc] 30)).alloc (.cells #[.slice none 0 0] 30))) := (((Below.refl _ _).alloc (Nat.le_refl _) _).alloc (by simp) _).alloc (by simp <;> omega) _
  have F0 := (One.new w 30 (.slice ao a.length ac)).below (B := w.heap.size + 1) (((Below.refl _ _).alloc (by simp) (.cells #[.slice bo b.length bc] 30)).alloc (by simp <;> omega) (.cells #[.slice none 0 0] 30)) (by omega)
  have F1 := (One.new (w.alloc (.cells #[.slice ao a.length ac] 30)) 30 (.slice bo b.length bc)).below (B := w.heap.size + 2) ((Below.refl _ _).alloc (by simp) (.cells #[.slice none 0 0] 30)) (by simp)
  have F2 := One.new ((w.alloc (.cells #[.slice ao a.length ac] 30)).alloc (.cells #[.slice bo b.length bc] 30)) 30 (.slice none 0 0)
  simp at F1 F2
  have c0 := F0.cell
  have c1 := F1.cell
  have HF0 := Lib.hid F0
  have HF1 := Lib.hid F1
  have HF2 := Lib.hid F2
  clear F0 F1 F2
  cases hva : validC a
  all_goals
    have HVA := Lib.hid hva
    clear hva
    go_wp2_with fail
    refine (vC_v _ (hMa.out.mono HA.out (Nat.le_refl _)) HVA.out).mono ?_
    rintro e w1 ⟨rfl, hb1⟩
    have hs1 := hb1.size
    simp at hs1 hb1
    have HB1 := Lib.hid (HA.out.trans (hb1.mono (by omega)))
    have G0 := Lib.hid (HF0.out.below hb1 (by omega))
    have G1 := Lib.hid (HF1.out.below hb1 (by omega))
    have G2 := Lib.hid (HF2.out.below hb1 (by omega))
    clear hb1 c0 c1
    have c0 := G0.out.cell
    have c1 := G1.out.cell
    have e0 := G2.out.cell
    have f0 := G2.out.free
  · have HB : Hid (Below w.heap.size w (w1.setCell ⟨w.heap.size + 1 + 1, 0, none⟩ (.slice none 0 0))) := HB1.out.setCell (by simp <;> omega) _
    have HJ : Hid (jnB a b = false) := by show _ = _; unfold jnB; rw [HVA.out]; rfl
    go_wp2
    exact bodyPost_ret (v := okV (.slice none 0 0) false) (by simp [okV, results, Try.results25, go_sem, e0]) rfl ⟨.slice none 0 0, by rw [HJ.out], by rw [HJ.out]; exact OwnM.nil _ _ _, HB.out⟩
  · cases hvb : validC b
    all_goals
      have HVB := Lib.hid hvb
      clear hvb
      go_wp2_with fail
      refine (vC_v _ (hMb.out.mono HB1.out (Nat.le_refl _)) HVB.out).mono ?_
      rintro e w2 ⟨rfl, hb2⟩
      have hs2 := hb2.size
      have HB2 := Lib.hid (HB1.out.trans (hb2.mono (by omega)))
      have K0 := Lib.hid (G0.out.below hb2 (by omega))
      have K1 := Lib.hid (G1.out.below hb2 (by omega))
      have K2 := Lib.hid (G2.out.below hb2 (by omega))
      clear hb2 c0 c1 e0 f0
      have c0 := K0.out.cell
      have c1 := K1.out.cell
      have e0 := K2.out.cell
      have f0 := K2.out.free
    · have HB : Hid (Below w.heap.size w (w2.setCell ⟨w.heap.size + 1 + 1, 0, none⟩ (.slice none 0 0))) := HB2.out.setCell (by simp <;> omega) _
      have HJ : Hid (jnB a b = false) := by show _ = _; unfold jnB; rw [HVA.out, HVB.out]; rfl
      go_wp2
      exact bodyPost_ret (v := okV (.slice none 0 0) false) (by simp [okV, results, Try.results25, go_sem, e0]) rfl ⟨.slice none 0 0, by rw [HJ.out], by rw [HJ.out]; exact OwnM.nil _ _ _, HB.out⟩
    · have hla := validC_iff.1 HVA.out
      have hlb := validC_iff.1 HVB.out
      have hta := tot_mem HVA.out
      have htb := tot_mem HVB.out
      have hla4 : a.length ≤ 4 := hla.2.2
      have hlb4 : b.length ≤ 4 := hlb.2.2
      have htab := tot_app a b
      have hlab : (a ++ b).length = a.length + b.length := List.length_append
      clear hla hlb
      go_wp2_with fail
      refine (ConcatM2_any _ _ a b w2 (hMa.out.mono HB2.out (Nat.le_refl _)) (hMb.out.mono HB2.out (Nat.le_refl _)) (by omega) (by omega)).mono ?_
      rintro e w3 ⟨v3, rfl, hM3, hb3⟩
      have hs3 := hb3.size
      go_wp2_with fail
      refine (checkedChain_any v3 (a ++ b) w3 hM3 (by omega) (by omega)).mono ?_
      rintro e w4 ⟨v4, rfl, ho4, hb4⟩
      have hb34 := hb3.trans (hb4.mono hb3.size)
      have HB4 := Lib.hid (HB2.out.trans (hb34.mono (by omega)))
      have Q2 := Lib.hid (K2.out.below hb34 (by omega))
      have hs4 := hb34.size
      obtain ⟨xo, L, xc, rfl⟩ := ho4.shape
      have HO4 := Lib.hid ho4
      have HJ : Hid (jnB a b = validC (a ++ b)) := by show _ = _; unfold jnB; rw [HVA.out, HVB.out]; rfl
      clear hb3 hb4 hb34 ho4 c0 c1 e0 f0 hM3
      have e0 := Q2.out.cell
      have f0 := Q2.out.free
      generalize validC (a ++ b) = q at *
      have HB : Hid (Below w.heap.size w (w4.setCell ⟨w.heap.size + 1 + 1, 0, none⟩ (.slice xo L xc))) := HB4.out.setCell (by simp <;> omega) _
      go_wp2
      exact bodyPost_ret (v := okV (.slice xo L xc) q) (by simp [okV, results, Try.results25, go_sem, e0]) rfl ⟨.slice xo L xc, by rw [HJ.out], by rw [HJ.out]; exact (HO4.out.keeps ((Keeps.refl _ _).boxset (by simp; omega) _)).wide (by omega) (by simp), HB.out⟩
end Go.Proofs.Ytfocobgceelnoaa
