/-
  Chains joined, by the model.
-/
import Derived.Test.YtfocobgceelnoaaJnP
namespace Go.Proofs.Ytfocobgceelnoaa
open Go.RowKit

theorem RowsZ.append {lo1 hi1 lo2 hi2 lo hi : Nat} {w : World} {us us' : List Value} {ls ls' : List (List Itm)} (h : RowsZ lo1 hi1 w us ls) (h' : RowsZ lo2 hi2 w us' ls') (hd : hi1 ≤ lo2 ∨ hi2 ≤ lo1) (h1 : lo ≤ lo1) (h2 : lo ≤ lo2) (h3 : hi1 ≤ hi) (h4 : hi2 ≤ hi) : RowsZ lo hi w (us ++ us') (ls ++ ls') := by
  have hl := h.len
  have hl' := h'.len
  have get : ∀ (k : Nat) u l, (us ++ us')[k]? = some u → (ls ++ ls')[k]? = some l → (k < us.length ∧ us[k]? = some u ∧ ls[k]? = some l) ∨ (us.length ≤ k ∧ us'[k - us.length]? = some u ∧ ls'[k - us.length]? = some l) := by
    intro k u l hu hl0
    by_cases hk : k < us.length
    · rw [List.getElem?_append_left hk] at hu
      rw [List.getElem?_append_left (by omega)] at hl0
      exact .inl ⟨hk, hu, hl0⟩
    · rw [List.getElem?_append_right (by omega)] at hu
      rw [List.getElem?_append_right (by omega), ← hl] at hl0
      exact .inr ⟨by omega, hu, hl0⟩
  refine ⟨by simp [hl, hl'], fun k u l hu hl0 => ?_, fun i j x x' m m' hij hx hx' hm hm' hne hne' g hg hg' => ?_⟩
  · rcases get k u l hu hl0 with ⟨_, a1, a2⟩ | ⟨_, a1, a2⟩
    · exact (h.row k u l a1 a2).wide h1 h3
    · exact (h'.row _ u l a1 a2).wide h2 h4
  · have r : ∀ {i : Nat} {x : Value} {m : List Itm}, us[i]? = some x → ls[i]? = some m → m ≠ [] → x.ownBlock = some g → lo1 ≤ g ∧ g < hi1 := fun a1 a2 a3 a4 => (h.row _ _ _ a1 a2).range a3 a4
    have r' : ∀ {i : Nat} {x : Value} {m : List Itm}, us'[i]? = some x → ls'[i]? = some m → m ≠ [] → x.ownBlock = some g → lo2 ≤ g ∧ g < hi2 := fun a1 a2 a3 a4 => (h'.row _ _ _ a1 a2).range a3 a4
    rcases get i x m hx hm with ⟨b0, b1, b2⟩ | ⟨b0, b1, b2⟩
    · rcases get j x' m' hx' hm' with ⟨_, c1, c2⟩ | ⟨_, c1, c2⟩
      · exact h.apart i j x x' m m' hij b1 c1 b2 c2 hne hne' g hg hg'
      · have p := r b1 b2 hne hg
        have q := r' c1 c2 hne' hg'
        omega
    · rcases get j x' m' hx' hm' with ⟨_, c1, c2⟩ | ⟨c0, c1, c2⟩
      · have p := r' b1 b2 hne hg
        have q := r c1 c2 hne' hg'
        omega
      · exact h'.apart _ _ x x' m m' (by omega) b1 c1 b2 c2 hne hne' g hg hg'
theorem OwnM.row_shape {lo hi : Nat} {w : World} {v : Value} {ls : List (List Itm)} (h : OwnM lo hi w v ls) (hn : 0 < ls.length) : ∃ us g cap, us.length = ls.length ∧ v = .slice (some ⟨g, 0, none⟩) ls.length cap ∧ g < hi ∧ w.ownsRow lo 34 1 (.slice (some ⟨g, 0, none⟩) ls.length cap) ls.length us ∧ RowsZ lo hi w us ls := by
  obtain ⟨us, h1, h2⟩ := h
  rcases h1 with ⟨h1, h3⟩ | ⟨rfl, _⟩
  · obtain ⟨g, cap, e, _, _⟩ := own_shape h1 (by have := h2.len; omega)
    refine ⟨us, g, cap, h2.len, by rw [e, h2.len], h3 g (by rw [e]; rfl), ?_, h2⟩
    rw [e, h2.len] at h1
    exact h1
  · have := h2.len
    simp at this
    omega
theorem rows_one {lo hi : Nat} {w : World} {us : List Value} {ls : List (List Itm)} (h : RowsZ lo hi w us ls) : ∀ x ∈ us, x.oneCell' = true := fun x hx => by
  have hl := h.len
  obtain ⟨k, hk, rfl⟩ := List.getElem_of_mem hx
  exact items_one (h.row k _ _ (List.getElem?_eq_getElem hk) (List.getElem?_eq_getElem (by omega))).items

theorem One.grown {w w' : World} {b T : Nat} {u : Value} {row : Option Nat} (h : One w b T u) (hg : w.grownBy w' row) (hne : row ≠ some b) : One w' b T u := by
  have hb := hg.block b h.lt (fun e => hne e.symm)
  unfold One at h ⊢
  rw [hb, h]
theorem chain_field (ao : Option Addr) (n c : Nat) (w : World) : (Instr.field 30 (.agg #[.slice ao n c]) 0).run Try.prog w = .ok (.slice ao n c) w := by
  simp [Instr.field, run_underlying Try.underlying30, part, asAgg]

set_option maxHeartbeats 3200000 in
set_option maxRecDepth 100000 in
theorem sJoinChains_any (va vb : Value) (a b : List (List Itm)) (w : World) (ha : Maps w va a) (hb : Maps w vb b) :
    Calls Try.prog 24 #[.agg #[va], .agg #[vb]] w (NewM (fun v => okV v (jnB a b)) (ifM (jnB a b) (a ++ b)) w) := by
  have hMa := Lib.hid ha
  have hMb := Lib.hid hb
  obtain ⟨ao, ac, rfl, _, _⟩ := ha.slice
  obtain ⟨bo, bc, rfl, _, _⟩ := hb.slice
  clear ha hb
  go_enter Try.func24, Try.ntmps24
  have HA : Hid (Below w.heap.size w (((w.alloc (.cells #[.slice ao a.length ac] 30)).alloc (.cells #[.slice bo b.length bc] 30)).alloc (.cells #[.slice none 0 0] 30))) := (((Below.refl _ _).alloc (Nat.le_refl _) _).alloc (by simp) _).alloc (by simp <;> omega) _
  have F0 := (One.new w 30 (.slice ao a.length ac)).below (B := w.heap.size + 1) (((Below.refl _ _).alloc (by simp) (.cells #[.slice bo b.length bc] 30)).alloc (by simp <;> omega) (.cells #[.slice none 0 0] 30)) (by omega)
  have F1 := (One.new (w.alloc (.cells #[.slice ao a.length ac] 30)) 30 (.slice bo b.length bc)).below (B := w.heap.size + 2) ((Below.refl _ _).alloc (by simp) (.cells #[.slice none 0 0] 30)) (by simp)
  have F2 := One.new ((w.alloc (.cells #[.slice ao a.length ac] 30)).alloc (.cells #[.slice bo b.length bc] 30)) 30 (.slice none 0 0)
  simp at F1 F2
  have c0 := F0.cell
  have c1 := F1.cell
  have HF0 := Lib.hid F0
  have HF1 := Lib.hid F1
  have HF2 := Lib.hid F2
  clear F0 F1 F2
  cases hva : validC a
  all_goals
    have HVA := Lib.hid hva
    clear hva
    go_wp2_with fail
    refine (svC_v _ (hMa.out.mono HA.out (Nat.le_refl _)) HVA.out).mono ?_
    rintro e w1 ⟨rfl, hb1⟩
    have hs1 := hb1.size
    simp at hs1 hb1
    have HB1 := Lib.hid (HA.out.trans (hb1.mono (by omega)))
    have G0 := Lib.hid (HF0.out.below hb1 (by omega))
    have G1 := Lib.hid (HF1.out.below hb1 (by omega))
    have G2 := Lib.hid (HF2.out.below hb1 (by omega))
    clear hb1 c0 c1
    have c0 := G0.out.cell
    have c1 := G1.out.cell
    have e0 := G2.out.cell
    have f0 := G2.out.free
  · have HB : Hid (Below w.heap.size w (w1.setCell ⟨w.heap.size + 1 + 1, 0, none⟩ (.slice none 0 0))) := HB1.out.setCell (by simp <;> omega) _
    have HJ : Hid (jnB a b = false) := by show _ = _; unfold jnB; rw [HVA.out]; rfl
    go_wp2
    exact bodyPost_ret (v := okV (.slice none 0 0) false) (by simp [okV, results, Try.results24, go_sem, e0]) rfl ⟨.slice none 0 0, by rw [HJ.out], by rw [HJ.out]; exact OwnM.nil _ _ _, HB.out⟩
  · cases hvb : validC b
    all_goals
      have HVB := Lib.hid hvb
      clear hvb
      go_wp2_with fail
      refine (svC_v _ (hMb.out.mono HB1.out (Nat.le_refl _)) HVB.out).mono ?_
      rintro e w2 ⟨rfl, hb2⟩
      have hs2 := hb2.size
      have HB2 := Lib.hid (HB1.out.trans (hb2.mono (by omega)))
      have K0 := Lib.hid (G0.out.below hb2 (by omega))
      have K1 := Lib.hid (G1.out.below hb2 (by omega))
      have K2 := Lib.hid (G2.out.below hb2 (by omega))
      clear hb2 c0 c1 e0 f0
      have c0 := K0.out.cell
      have c1 := K1.out.cell
      have e0 := K2.out.cell
      have f0 := K2.out.free
    · have HB : Hid (Below w.heap.size w (w2.setCell ⟨w.heap.size + 1 + 1, 0, none⟩ (.slice none 0 0))) := HB2.out.setCell (by simp <;> omega) _
      have HJ : Hid (jnB a b = false) := by show _ = _; unfold jnB; rw [HVA.out, HVB.out]; rfl
      go_wp2
      exact bodyPost_ret (v := okV (.slice none 0 0) false) (by simp [okV, results, Try.results24, go_sem, e0]) rfl ⟨.slice none 0 0, by rw [HJ.out], by rw [HJ.out]; exact OwnM.nil _ _ _, HB.out⟩
    · have hla := validC_iff.1 HVA.out
      have hlb := validC_iff.1 HVB.out
      have hta := tot_mem HVA.out
      have htb := tot_mem HVB.out
      have hla4 : a.length ≤ 4 := hla.2.2
      have hlb4 : b.length ≤ 4 := hlb.2.2
      have hla1 : 0 < a.length := hla.2.1
      have hlb1 : 0 < b.length := hlb.2.1
      have HAB : Hid ((a ++ b).length = a.length + b.length) := List.length_append
      clear hla hlb
      go_wp2_with fail
      refine (scopyChain_any _ a w2 (hMa.out.mono HB2.out (Nat.le_refl _)) (by omega) (by omega)).mono ?_
      rintro e w3 ⟨v3, rfl, ho3, hb3⟩
      have hs3 := hb3.size
      obtain ⟨us, ga, ca, hul, rfl, hga, hra, hza⟩ := ho3.row_shape hla1
      have hbx : Below w3.heap.size w3 (w3.alloc (.cells #[.slice (some ⟨ga, 0, none⟩) a.length ca] 30)) := (Below.refl _ _).alloc (Nat.le_refl _) _
      have hb3x := hb3.trans (hbx.mono hs3)
      have HBX := Lib.hid (HB2.out.trans (hb3x.mono (by omega)))
      have N3 := Lib.hid (One.new w3 30 (.slice (some ⟨ga, 0, none⟩) a.length ca))
      have X1 := Lib.hid (K1.out.below hb3x (by omega))
      have X2 := Lib.hid (K2.out.below hb3x (by omega))
      have HRA := Lib.hid (ownsRow_below hra hbx (Nat.le_refl _))
      have HZA := Lib.hid (hza.keeps (Keeps.of_below hbx (fun j hj => hj.2)))
      have n0 := N3.out.cell
      have x1 := X1.out.cell
      have HUL := Lib.hid hul
      have HGA := Lib.hid hga
      clear hb3 hbx hb3x c0 c1 e0 f0 ho3 hra hza hul hga
      have hcf := chain_field
      have hszx : (w3.alloc (.cells #[.slice (some ⟨ga, 0, none⟩) a.length ca] 30)).heap.size = w3.heap.size + 1 := by simp
      go_wp2_with fail
      go_region_law (first
        | (go_simp; go_at_call 55; refine (scopyChain_any _ b _ (show Maps (w3.alloc (.cells #[.slice (some ⟨ga, 0, none⟩) a.length ca] 30)).drew _ b from hMb.out.mono HBX.out.drew (Nat.le_refl _)) (by omega) (by omega)).mono ?_; rintro e w4 ⟨v4, rfl, ho4, hb4⟩; obtain ⟨us', gb, cb, hul', rfl, hgb, hrb, hzb⟩ := ho4.row_shape hlb1; have hN4 := N3.out.below (Below.undrew hb4) N3.out.lt; have n4 := hN4.cell)
        | (refine step_append_rowsO _ rfl (.tmp 19) (.tmp 22) rfl _ (.slice (some ⟨ga, 0, none⟩) a.length ca) _ us (by first | rfl | simp [Act.eval, Act.put]) (ownsRow_below HRA.out (Below.undrew hb4) (Nat.le_refl _)) (.slice (some ⟨gb, 0, none⟩) b.length cb) us' (by first | rfl | simp [Act.eval, Act.put]) (by rw [← hul'] at hrb ⊢; exact row_of hrb (fun _ _ => trivial)) (rows_one hzb) (by omega) (by omega) (by have := hb4.size; simp at this; omega) ?_; intro v5 w5 hown5 hgrow5; obtain ⟨g5, c5, rfl, _, _⟩ := own_shape hown5 (by omega); have hn5 := hN4.grown hgrow5 (by intro e; have := HGA.out; simp [Value.ownBlock] at e; omega); have n5 := hn5.cell; have z5 := hn5.free))
      all_goals
        have hs4 := hb4.size
        simp at hs4
        have HB4 := Lib.hid (HBX.out.trans ((Below.undrew hb4).mono HBX.out.size))
        have hbx4 : Below (w3.heap.size + 1) (w3.alloc (.cells #[.slice (some ⟨ga, 0, none⟩) a.length ca] 30)) w4 := by have := Below.undrew hb4; rw [← hszx]; exact this
        have hra4 := ownsRow_below HRA.out hbx4 (by rw [hszx]; exact Nat.le_refl _)
        have hza4 := HZA.out.keeps (Keeps.of_below hbx4 (fun j hj => by have := hj.2; omega))
        have hz5 := ((hza4.append hzb (lo := w2.heap.size) (hi := w4.heap.size) (.inl (by simp)) (Nat.le_refl _) (by simp; omega) (by omega) (Nat.le_refl _)).grown hra4 hgrow5).wide (Nat.le_refl _) hgrow5.size
        have hul5 := HUL.out
        have hlt5 : g5 < w5.heap.size := (own_range hown5 rfl).2
        have hom : OwnM w2.heap.size w5.heap.size w5 (.slice (some ⟨g5, 0, none⟩) (a.length + b.length) c5) (a ++ b) := by
          refine ⟨us ++ us', .inl ⟨?_, fun g hg => ?_⟩, hz5⟩
          · have e : (us ++ us').length = a.length + b.length := by rw [List.length_append, hul5, hul']
            rw [e]
            rw [hul'] at hown5
            exact hown5
          · simp only [Value.ownBlock, Option.some.injEq] at hg
            omega
        have hos := (hom.other (b := w3.heap.size) hn5 (by decide) (by decide) ((Keeps.refl _ _).one 0 (.slice (some ⟨g5, 0, none⟩) (a.length + b.length) c5)))
        have HOS := Lib.hid hos
        have hb45 : Below w2.heap.size w4 w5 := (Below.refl _ _).grown hgrow5 (by omega) (fun j hj => (own_range hra4 hj).1)
        have HB5 : Hid (Below w.heap.size w (w5.setCell ⟨w3.heap.size, 0, none⟩ (.slice (some ⟨g5, 0, none⟩) (a.length + b.length) c5))) := (HB4.out.trans (hb45.mono (by omega))).setCell (by simp; omega) _
        have hx4 := X2.out.below (Below.undrew hb4) X2.out.lt
        have HX5 := Lib.hid (hx4.grown hgrow5 (by intro e; have := (own_range hra4 e).1; omega))
        have hs5 := hgrow5.size
        have HN6 : Hid (One (w5.setCell ⟨w3.heap.size, 0, none⟩ (.slice (some ⟨g5, 0, none⟩) (a.length + b.length) c5)) (w.heap.size + 1 + 1) 30 (.slice none 0 0)) := HX5.out.keeps ((Keeps.refl (fun j => j = w.heap.size + 1 + 1) w5).setCell (by simp; omega) _) rfl
        have hs6 : w5.heap.size = (w5.setCell ⟨w3.heap.size, 0, none⟩ (.slice (some ⟨g5, 0, none⟩) (a.length + b.length) c5)).heap.size := by simp
        clear hb4 hbx4 hra4 hza4 hz5 hown5 hgrow5 hom hos hb45 hx4 hN4 n4 n0 x1 ho4 hrb hzb
        go_wp2_with fail
        refine (schkC_any _ (a ++ b) _ HOS.out (by omega)).mono ?_
        rintro e w6 ⟨v6, rfl, ho6, hb6⟩
        have hsz6 := hb6.size
        have HB6 := Lib.hid (HB5.out.trans (hb6.mono HB5.out.size))
        have Q2 := Lib.hid (HN6.out.below hb6 HN6.out.lt)
        obtain ⟨xo, L, xc, rfl⟩ := ho6.shape
        have HO6 := Lib.hid ho6
        have HJ : Hid (jnB a b = validC (a ++ b)) := by show _ = _; unfold jnB; rw [HVA.out, HVB.out]; rfl
        clear hb6 ho6 n5 z5
        have e0 := Q2.out.cell
        have f0 := Q2.out.free
        generalize validC (a ++ b) = q at *
        have HB : Hid (Below w.heap.size w (w6.setCell ⟨w.heap.size + 1 + 1, 0, none⟩ (.slice xo L xc))) := HB6.out.setCell (by simp <;> omega) _
        go_wp2
        exact bodyPost_ret (v := okV (.slice xo L xc) q) (by simp [okV, results, Try.results24, go_sem, e0]) rfl ⟨.slice xo L xc, by rw [HJ.out], by rw [HJ.out]; exact (HO6.out.keeps ((Keeps.refl _ _).boxset (by simp; omega) _)).wide (by omega) (by simp), HB.out⟩
theorem jn_le (a b : List (List Itm)) : tot (ifM (jnB a b) (a ++ b)) ≤ 10000000 := ifM_le fun h => by
  unfold jnB at h
  rw [Bool.and_eq_true, Bool.and_eq_true] at h
  have h1 := tot_mem h.1.1
  have h2 := tot_mem h.1.2
  rw [tot_app]
  omega
end Go.Proofs.Ytfocobgceelnoaa
