/-
  An item put into a chain's first map, by the program and by the model.
-/
import Derived.Test.YtojepjpmegbdmaaChnI
namespace Go.Proofs.Ytojepjpmegbdmaa
open Go.RowKit

theorem OwnM.shape {lo hi : Nat} {w : World} {v : Value} {ls : List (List Itm)} (h : OwnM lo hi w v ls) : ∃ ao L cap, v = .slice ao L cap := by
  obtain ⟨ao, cap, e, _⟩ := h.slice
  exact ⟨ao, _, cap, e⟩
theorem ret_m {a b : Value} {c d : Bool} (h : a = b) (h' : c = d) : Ending.returned (okV a c) = .returned (okV b d) := by rw [h, h']
theorem OwnM.head {lo hi : Nat} {w : World} {v : Value} {ls : List (List Itm)} (h : OwnM lo hi w v ls) (hk : 0 < ls.length) : ∃ g cap, v = .slice (some ⟨g, 0, none⟩) ls.length cap ∧ lo ≤ g ∧ g < hi := by
  obtain ⟨us, h3, h4⟩ := h
  have hl := h4.len
  rcases h3 with ⟨h3, h5⟩ | ⟨rfl, _⟩
  · obtain ⟨g, cap, rfl, hgc, hgB⟩ := own_shape h3 (by omega)
    exact ⟨g, cap, by rw [hl], hgB, h5 g rfl⟩
  · simp at hl
    omega
/-- At a list of one's own: its value, its slot. -/
theorem OwnM.cell {lo hi g cap : Nat} {w : World} {ls : List (List Itm)} (h : OwnM lo hi w (.slice (some ⟨g, 0, none⟩) ls.length cap) ls) {k : Nat} (hk : k < ls.length) : ∃ u, w.cell? ⟨g, k, none⟩ = some u ∧ Items w u ls[k] := by
  obtain ⟨b, o, cap', u, e, hb, hc, hI⟩ := h.maps.at hk
  simp only [Value.slice.injEq, Option.some.injEq, Addr.mk.injEq, and_true] at e
  obtain ⟨⟨rfl, rfl⟩, _, rfl⟩ := e
  rw [Nat.zero_add] at hc
  exact ⟨u, hc, hI⟩
theorem tot_mem {ls : List (List Itm)} (h : validC ls = true) : ls.length ≤ 4 ∧ tot ls ≤ 32 := by
  have h1 := validC_iff.1 h
  refine ⟨h1.2.2, ?_⟩
  have key : ∀ ms : List (List Itm), (∀ l ∈ ms, validI l = true) → tot ms ≤ 8 * ms.length := by
    intro ms
    induction ms with
    | nil => intro _; simp [tot]
    | cons x r ih =>
      intro hh
      have h2 := valid_len (hh x (by simp))
      have h3 := ih (fun l hl => hh l (by simp [hl]))
      simp only [tot, List.length_cons]
      omega
  have := key ls h1.1
  omega

set_option maxHeartbeats 800000 in
set_option maxRecDepth 100000 in
theorem putAt_any (v : Value) (ls : List (List Itm)) (k : Nat) (s : ByteArray) (n : Int) (w : World) (h : Maps w v ls) (hk : k < ls.length) (hs : s.size ≤ 9223372036854775807) (hi : -9223372036854775808 ≤ n ∧ n ≤ 9223372036854775807) (hn : ls.length ≤ 100000) (hm : tot ls ≤ 100000) :
    Calls Try.prog 101 #[.agg #[v], .int .i64 k, .string s, .int .i64 n] w fun e w' => ∃ v', e = .returned (okV v' (okP ls[k] s n)) ∧ OwnM w.heap.size w'.heap.size w' v' (ifM (okP ls[k] s n) (ls.set k (putL ls[k] s n))) ∧ Below w.heap.size w w' := by
  have hM := Lib.hid h
  obtain ⟨b, o, cap, u, rfl, hb, h1, hI⟩ := h.at hk
  clear h
  go_enter Try.func101, Try.ntmps101
  have HA : Hid (Below w.heap.size w ((w.alloc (.cells #[.slice (some ⟨b, o, none⟩) ls.length cap] 29)).alloc (.cells #[.slice none 0 0] 29))) := ((Below.refl _ _).alloc (Nat.le_refl _) _).alloc (by simp) _
  have F0 := (One.new w 29 (.slice (some ⟨b, o, none⟩) ls.length cap)).below (B := w.heap.size + 1) ((Below.refl _ _).alloc (by simp) (.cells #[.slice none 0 0] 29)) (by omega)
  have F1 := One.new (w.alloc (.cells #[.slice (some ⟨b, o, none⟩) ls.length cap] 29)) 29 (.slice none 0 0)
  simp at F1
  have c0 := F0.cell
  have c1 := (HA.out.cell (p := ⟨b, _, none⟩) hb).trans h1
  have HI := Lib.hid (hI.mono HA.out (Nat.le_refl _))
  obtain ⟨ok, hok⟩ : ∃ ok, Hid (okP ls[k] s n = ok) := ⟨_, Lib.hid rfl⟩
  have HP := Lib.hid (PutItem_any _ _ s n _ HI.out hs hi)
  rw [hok.out] at HP
  clear h1 hI
  go_wp2_with fail
  refine HP.out.mono ?_
  rintro e w1 ⟨u1, rfl, ho1, hb1⟩
  have hs1 := hb1.size
  simp at hs1 ho1 hb1
  have hw1 := Lib.hid (HA.out.trans (hb1.mono (by omega)))
  have hz := Lib.hid ((RowZ.of ho1).wide (show w.heap.size ≤ w.heap.size + 1 + 1 by omega) (Nat.le_refl _))
  have G0 := F0.below hb1 (by omega)
  have G1 := Lib.hid (F1.below hb1 (by omega))
  clear c0 c1 F0 F1 ho1 hb1
  have c0 := G0.cell
  go_wp2_with fail
  refine (replaced_any _ ls k u1 _ ok _ (hM.out.mono hw1.out (Nat.le_refl _)) hk hz.out (by omega) hn hm).mono ?_
  rintro e w2 ⟨v2, rfl, ho2, hb2⟩
  have H2 := Lib.hid (G1.out.below hb2 G1.out.lt)
  obtain ⟨vo, L, vc, rfl⟩ := ho2.shape
  have e0 := H2.out.cell
  have f0 := H2.out.free
  have HO := Lib.hid (ho2.other H2.out (by decide) (by decide) ((Keeps.refl _ _).one 0 (.slice vo L vc)))
  have HB : Hid (Below w.heap.size w (w2.setCell ⟨w.heap.size + 1, 0, none⟩ (.slice vo L vc))) := (hw1.out.trans (hb2.mono hw1.out.size)).setCell (by simp) _
  clear c0 G0 ho2 hb2
  have hzz : w2.heap.size ≤ (w2.setCell ⟨w.heap.size + 1, 0, none⟩ (.slice vo L vc)).heap.size := by simp
  have HO' := HO.out.wide (Nat.le_refl _) hzz
  rw [← hok.out] at HO'
  have HO'' := Lib.hid HO'
  clear HO'
  go_wp2
  exact bodyPost_ret (v := okV (.slice vo L vc) ok) (by simp [okV, results, Try.results101, go_sem, e0]) rfl ⟨_, ret_m rfl hok.out.symm, HO''.out, HB.out⟩

def cpB (ls : List (List Itm)) (s : ByteArray) (n : Int) : Bool := validC ls && okP (ls.headD []) s n
def cpL (ls : List (List Itm)) (s : ByteArray) (n : Int) : List (List Itm) := ifM (cpB ls s n) (ls.set 0 (putL (ls.headD []) s n))
theorem head_at {ls : List (List Itm)} (h : 0 < ls.length) : ls.headD [] = ls[0] := by
  cases ls with
  | nil => simp at h
  | cons x r => rfl

set_option maxHeartbeats 800000 in
set_option maxRecDepth 100000 in
theorem ChainPut_any (v : Value) (ls : List (List Itm)) (s : ByteArray) (n : Int) (w : World) (h : Maps w v ls) (hs : s.size ≤ 9223372036854775807) (hi : -9223372036854775808 ≤ n ∧ n ≤ 9223372036854775807) :
    Calls Try.prog 35 #[.agg #[v], .string s, .int .i64 n] w (NewM (fun v => .tuple #[.agg #[v], .bool (cpB ls s n)]) (cpL ls s n) w) := by
  have hM := Lib.hid h
  clear h
  go_enter Try.func35, Try.ntmps35
  have HA : Hid (Below w.heap.size w ((w.alloc (.cells #[v] 29)).alloc (.cells #[.slice none 0 0] 29))) := ((Below.refl _ _).alloc (Nat.le_refl _) _).alloc (by simp) _
  have F0 := Lib.hid ((One.new w 29 v).below (B := w.heap.size + 1) ((Below.refl _ _).alloc (by simp) (.cells #[.slice none 0 0] 29)) (by omega))
  have F1' := One.new (w.alloc (.cells #[v] 29)) 29 (.slice none 0 0)
  simp at F1'
  have F1 := Lib.hid F1'
  clear F1'
  have c0 := F0.out.cell
  cases hv : validC ls
  all_goals
    have HV := Lib.hid hv
    clear hv
    go_wp2_with fail
    refine (vC_v _ (hM.out.mono HA.out (Nat.le_refl _)) HV.out).mono ?_
    rintro e w1 ⟨rfl, hb1⟩
    have hs1 := hb1.size
    simp at hs1 hb1
    have hw1 := Lib.hid (HA.out.trans (hb1.mono (by omega)))
    have G0 := Lib.hid (F0.out.below hb1 (by omega))
    have G1 := Lib.hid (F1.out.below hb1 (by omega))
    clear c0 hb1
  · have e0 := G1.out.cell
    have f0 := G1.out.free
    have HB : Hid (Below w.heap.size w (w1.setCell ⟨w.heap.size + 1, 0, none⟩ (.slice none 0 0))) := hw1.out.setCell (by simp) _
    go_wp2
    refine bodyPost_ret (v := okV (.slice none 0 0) false) (by simp [okV, results, Try.results35, go_sem, e0]) rfl ⟨_, ret_m rfl (by unfold cpB; rw [HV.out]; rfl), ?_, HB.out⟩
    unfold cpL cpB
    rw [HV.out]
    exact OwnM.nil _ _ _
  · have hl := validC_iff.1 HV.out
    have ht := tot_mem HV.out
    have h0 : 0 < ls.length := by omega
    have c0 := G0.out.cell
    have HP := Lib.hid (putAt_any v ls 0 s n w1 (hM.out.mono hw1.out (Nat.le_refl _)) h0 hs hi (by omega) (by omega))
    have HK : Hid (cpB ls s n = okP ls[0] s n) := by unfold Hid cpB; rw [HV.out, head_at h0]; rfl
    have HL : Hid (cpL ls s n = ifM (okP ls[0] s n) (ls.set 0 (putL ls[0] s n))) := by unfold Hid cpL; rw [HK.out, head_at h0]
    generalize okP ls[0] s n = ok at HP HK HL
    generalize ls.set 0 (putL ls[0] s n) = M at HP HL
    go_wp2_with fail
    refine HP.out.mono ?_
    rintro e w2 ⟨v2, rfl, ho2, hb2⟩
    have H2 := Lib.hid (G1.out.below hb2 G1.out.lt)
    obtain ⟨vo, L, vc, rfl⟩ := ho2.shape
    have e0 := H2.out.cell
    have f0 := H2.out.free
    have HO := Lib.hid (ho2.other H2.out (by decide) (by decide) ((Keeps.refl _ _).one 0 (.slice vo L vc)))
    have HB : Hid (Below w.heap.size w (w2.setCell ⟨w.heap.size + 1, 0, none⟩ (.slice vo L vc))) := (hw1.out.trans (hb2.mono hw1.out.size)).setCell (by simp) _
    clear c0 ho2 hb2
    go_wp2
    refine bodyPost_ret (v := okV (.slice vo L vc) ok) (by simp [okV, results, Try.results35, go_sem, e0]) rfl ⟨_, ret_m rfl HK.out.symm, ?_, HB.out⟩
    rw [HL.out]
    exact HO.out.wide (by omega) (by simp)

/-! ### the model -/
set_option maxHeartbeats 800000 in
set_option maxRecDepth 100000 in
theorem schkC_any {lo hi : Nat} (v : Value) (ls : List (List Itm)) (w : World) (h : OwnM lo hi w v ls) (hhi : hi ≤ w.heap.size) :
    Calls Try.prog 100 #[.agg #[v]] w fun e w' => ∃ v', e = .returned (okV v' (validC ls)) ∧ OwnM lo w'.heap.size w' v' (ifM (validC ls) ls) ∧ Below w.heap.size w w' := by
  have hM := Lib.hid h
  obtain ⟨vo, L, vc, rfl⟩ := h.shape
  clear h
  go_enter Try.func100, Try.ntmps100
  have HA : Hid (Below w.heap.size w ((w.alloc (.cells #[.slice vo L vc] 29)).alloc (.cells #[.slice none 0 0] 29))) := ((Below.refl _ _).alloc (Nat.le_refl _) _).alloc (by simp) _
  have F0 := Lib.hid ((One.new w 29 (.slice vo L vc)).below (B := w.heap.size + 1) ((Below.refl _ _).alloc (by simp) (.cells #[.slice none 0 0] 29)) (by omega))
  have F1' := One.new (w.alloc (.cells #[.slice vo L vc] 29)) 29 (.slice none 0 0)
  simp at F1'
  have F1 := Lib.hid F1'
  clear F1'
  have c0 := F0.out.cell
  cases hv : validC ls
  all_goals
    have HV := Lib.hid hv
    clear hv
    go_wp2_with fail
    refine (svC_v _ (hM.out.maps.mono HA.out (Nat.le_refl _)) HV.out).mono ?_
    rintro e w1 ⟨rfl, hb1⟩
    have hs1 := hb1.size
    simp at hs1 hb1
    have hw1 := Lib.hid (HA.out.trans (hb1.mono (by omega)))
    have G0 := Lib.hid (F0.out.below hb1 (by omega))
    have G1 := Lib.hid (F1.out.below hb1 (by omega))
    have c0 := G0.out.cell
    have e0 := G1.out.cell
    have f0 := G1.out.free
    clear hb1
    go_wp2
  · have HB : Hid (Below w.heap.size w (w1.setCell ⟨w.heap.size + 1, 0, none⟩ (.slice none 0 0))) := hw1.out.setCell (by simp) _
    exact bodyPost_ret (v := okV (.slice none 0 0) false) (by simp [okV, results, Try.results100, go_sem, e0]) rfl ⟨_, rfl, OwnM.nil _ _ _, HB.out⟩
  · have HB : Hid (Below w.heap.size w (w1.setCell ⟨w.heap.size + 1, 0, none⟩ (.slice vo L vc))) := hw1.out.setCell (by simp) _
    have hsz := HB.out.size
    exact bodyPost_ret (v := okV (.slice vo L vc) true) (by simp [okV, results, Try.results100, go_sem, e0]) rfl ⟨_, rfl, (hM.out.keeps (Keeps.of_below HB.out (fun j hj => Nat.lt_of_lt_of_le hj.2 hhi))).wide (Nat.le_refl _) (by omega), HB.out⟩
theorem validC_set {ls : List (List Itm)} {k : Nat} (h : validC ls = true) (hk : k < ls.length) (l : List Itm) : validC (ls.set k l) = validI l := by
  have h1 := validC_iff.1 h
  rw [Bool.eq_iff_iff, validC_iff]
  constructor
  · rintro ⟨ha, _⟩
    exact ha l (List.mem_of_getElem? (i := k) (by simp [hk]))
  · intro hl
    refine ⟨fun m hm => ?_, by simp; omega, by simp; omega⟩
    rcases List.mem_or_eq_of_mem_set hm with hm | rfl
    · exact h1.1 m hm
    · exact hl
theorem cp_of {ls : List (List Itm)} {s : ByteArray} {n : Int} (h : validC ls = true) (h0 : 0 < ls.length) : validC (ls.set 0 (putI ls[0] s n)) = cpB ls s n ∧ ifM (validC (ls.set 0 (putI ls[0] s n))) (ls.set 0 (putI ls[0] s n)) = cpL ls s n := by
  have h1 := (validC_iff.1 h).1 _ (List.getElem_mem h0)
  have e1 : validC (ls.set 0 (putI ls[0] s n)) = cpB ls s n := by
    rw [validC_set h h0]
    unfold cpB okP
    rw [h, head_at h0, h1]
    rfl
  refine ⟨e1, ?_⟩
  rw [e1]
  unfold cpL
  cases hb : cpB ls s n
  · rfl
  · have hp : okP (ls.headD []) s n = true := by unfold cpB at hb; rw [Bool.and_eq_true] at hb; exact hb.2
    unfold putL
    rw [hp, head_at h0]
    rfl

set_option maxHeartbeats 1600000 in
set_option maxRecDepth 100000 in
theorem sChainPut_any (v : Value) (ls : List (List Itm)) (s : ByteArray) (n : Int) (w : World) (h : Maps w v ls) (hs : s.size ≤ 9223372036854775807) (hi : -9223372036854775808 ≤ n ∧ n ≤ 9223372036854775807) :
    Calls Try.prog 34 #[.agg #[v], .string s, .int .i64 n] w (NewM (fun v => .tuple #[.agg #[v], .bool (cpB ls s n)]) (cpL ls s n) w) := by
  have hM := Lib.hid h
  clear h
  go_enter Try.func34, Try.ntmps34
  have HA : Hid (Below w.heap.size w ((w.alloc (.cells #[v] 29)).alloc (.cells #[.slice none 0 0] 29))) := ((Below.refl _ _).alloc (Nat.le_refl _) _).alloc (by simp) _
  have F0 := Lib.hid ((One.new w 29 v).below (B := w.heap.size + 1) ((Below.refl _ _).alloc (by simp) (.cells #[.slice none 0 0] 29)) (by omega))
  have F1' := One.new (w.alloc (.cells #[v] 29)) 29 (.slice none 0 0)
  simp at F1'
  have F1 := Lib.hid F1'
  clear F1'
  have c0 := F0.out.cell
  cases hv : validC ls
  all_goals
    have HV := Lib.hid hv
    clear hv
    go_wp2_with fail
    refine (svC_v _ (hM.out.mono HA.out (Nat.le_refl _)) HV.out).mono ?_
    rintro e w1 ⟨rfl, hb1⟩
    have hs1 := hb1.size
    simp at hs1 hb1
    have hw1 := Lib.hid (HA.out.trans (hb1.mono (by omega)))
    have G0 := Lib.hid (F0.out.below hb1 (by omega))
    have G1 := Lib.hid (F1.out.below hb1 (by omega))
    clear c0 hb1
  · have e0 := G1.out.cell
    have f0 := G1.out.free
    have HB : Hid (Below w.heap.size w (w1.setCell ⟨w.heap.size + 1, 0, none⟩ (.slice none 0 0))) := hw1.out.setCell (by simp) _
    go_wp2
    refine bodyPost_ret (v := okV (.slice none 0 0) false) (by simp [okV, results, Try.results34, go_sem, e0]) rfl ⟨_, ret_m rfl (by unfold cpB; rw [HV.out]; rfl), ?_, HB.out⟩
    unfold cpL cpB
    rw [HV.out]
    exact OwnM.nil _ _ _
  · have hl := validC_iff.1 HV.out
    have ht := tot_mem HV.out
    have h0 : 0 < ls.length := by omega
    have hln : ls[0].length ≤ 8 := valid_len (hl.1 _ (List.getElem_mem h0))
    have c0 := G0.out.cell
    have HC := Lib.hid (cp_of (s := s) (n := n) HV.out h0)
    go_wp2_with fail
    refine (scopyChain_any v ls _ (hM.out.mono hw1.out (Nat.le_refl _)) (by omega) (by omega)).mono ?_
    rintro e w2 ⟨v2, rfl, ho2, hb2⟩
    obtain ⟨g, cap, rfl, hg1, hg2⟩ := ho2.head h0
    have hs2 := hb2.size
    have HA2 : Hid (Below w2.heap.size w2 (w2.alloc (.cells #[.slice (some ⟨g, 0, none⟩) ls.length cap] 29))) := (Below.refl _ _).alloc (Nat.le_refl _) _
    have HO2 := Lib.hid (ho2.keeps (Keeps.of_below HA2.out (fun j hj => hj.2)))
    have FN := Lib.hid (One.new w2 29 (.slice (some ⟨g, 0, none⟩) ls.length cap))
    have G2 := Lib.hid ((G1.out.below hb2 G1.out.lt).below HA2.out (by have := G1.out.lt; omega))
    have HW2 := Lib.hid ((hw1.out.trans (hb2.mono hw1.out.size)).trans (HA2.out.mono (by have := hw1.out.size; omega)))
    obtain ⟨u, hcb, hI⟩ := HO2.out.cell h0
    have HI := Lib.hid hI
    have d0 := FN.out.cell
    have hA2 : (w2.alloc (.cells #[.slice (some ⟨g, 0, none⟩) ls.length cap] 29)).heap.size = w2.heap.size + 1 := by simp
    clear c0 hI ho2 hb2
    go_wp2_with fail
    generalize w2.alloc (.cells #[.slice (some ⟨g, 0, none⟩) ls.length cap] 29) = W at *
    have hkc : (0 : Int) < (ls.length : Int) := by omega
    go_region_law (first
      | (go_simp; go_at_call 99; refine (put_any _ _ s n _ (Items.drew HI.out) (by omega) hs hi).mono ?_; rintro e w3 ⟨u3, rfl, ho3, hb3⟩; have hF3 := FN.out.below (Below.undrew hb3) (by show w2.heap.size < W.heap.size; omega); have c3 := hF3.cell; have hM3 := HO2.out.keeps (Keeps.of_below (Below.undrew hb3) (fun j hj => by have := hj.2; show j < W.heap.size; omega)); obtain ⟨g', cap', eg, _, _, ⟨x, hc5⟩, f5, hput⟩ := hM3.put (lo := w.heap.size) (hi := w3.heap.size) (RowZ.of ho3) h0 (.inr (by show w2.heap.size ≤ W.heap.size; omega)) hw1.out.size (by show w.heap.size ≤ W.heap.size; exact HW2.out.size) (by have := hb3.size; simp at this; omega) (Nat.le_refl _); simp only [Value.slice.injEq, Option.some.injEq, Addr.mk.injEq, and_true] at eg; obtain ⟨rfl, _, rfl⟩ := eg; obtain ⟨uo, uc, rfl, _, _⟩ := own_slice ho3.1))
    all_goals
      have hw3 : W.heap.size ≤ w3.heap.size := hb3.size
      have hbS : Below W.heap.size W w3 := Below.undrew hb3
      have HO3 := Lib.hid hput
      have HW3 : Hid (Below w.heap.size w (w3.setCell ⟨g, 0, none⟩ (.slice uo (putI ls[0] s n).length uc))) := (HW2.out.trans (hbS.mono HW2.out.size)).setCell (by simp; have := hw1.out.size; omega) _
      have G3 := Lib.hid ((G2.out.below hbS G2.out.lt).keeps ((Keeps.refl (fun j => j ≠ g) w3).setCell (a := ⟨g, 0, none⟩) (fun h => h rfl) (.slice uo (putI ls[0] s n).length uc)) (by have := G1.out.lt; omega))
      have F3 := Lib.hid (hF3.keeps ((Keeps.refl (fun j => j ≠ g) w3).setCell (a := ⟨g, 0, none⟩) (fun h => h rfl) (.slice uo (putI ls[0] s n).length uc)) (by omega))
      have hsz3 : w3.heap.size = (w3.setCell ⟨g, 0, none⟩ (.slice uo (putI ls[0] s n).length uc)).heap.size := by simp
      generalize w3.setCell ⟨g, 0, none⟩ (.slice uo (putI ls[0] s n).length uc) = X at *
      clear hF3 c3 hM3 hc5 f5 hput hbS hb3 ho3 hcb d0
      have d0 := F3.out.cell
      go_wp2_with fail
      refine (schkC_any _ _ X HO3.out (by omega)).mono ?_
      rintro e w4 ⟨v4, rfl, ho4, hb4⟩
      rw [HC.out.1, HC.out.2] at *
      have H4 := Lib.hid (G3.out.below hb4 G3.out.lt)
      obtain ⟨vo, L, vc, rfl⟩ := ho4.shape
      have e0 := H4.out.cell
      have f0 := H4.out.free
      have hzz : w4.heap.size ≤ (w4.setCell ⟨w.heap.size + 1, 0, none⟩ (.slice vo L vc)).heap.size := by simp
      have HO := Lib.hid ((ho4.other H4.out (by decide) (by decide) ((Keeps.refl _ _).one 0 (.slice vo L vc))).wide (Nat.le_refl _) hzz)
      have HB : Hid (Below w.heap.size w (w4.setCell ⟨w.heap.size + 1, 0, none⟩ (.slice vo L vc))) := (HW3.out.trans (hb4.mono HW3.out.size)).setCell (by simp) _
      clear d0 ho4 hb4 hzz
      go_wp2
      exact bodyPost_ret (v := okV (.slice vo L vc) (cpB ls s n)) (by simp [okV, results, Try.results34, go_sem, e0]) rfl ⟨_, rfl, HO.out, HB.out⟩
theorem cp_le (ls : List (List Itm)) (s : ByteArray) (n : Int) : tot (cpL ls s n) ≤ 10000000 := by
  cases hv : validC ls
  · unfold cpL cpB
    rw [hv]
    simp [ifM, tot]
  · have h0 : 0 < ls.length := by have := validC_iff.1 hv; omega
    rw [← (cp_of (s := s) (n := n) hv h0).2]
    cases hb : validC (ls.set 0 (putI ls[0] s n))
    · simp [ifM, tot]
    · have := tot_mem hb
      simp only [ifM, if_true]
      omega
end Go.Proofs.Ytojepjpmegbdmaa
