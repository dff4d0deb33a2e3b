/-
  Counts reckoned key by key: what the functions of chapter 1 answer, and which lists are valid by lying within others.
-/
import Derived.Test.YtloalakpkjbeaaaPure4
namespace Go.Proofs.Ytloalakpkjbeaaa

def addL (a b : List Itm) : List Itm := if (validI a && validI b) = true then chkI (posI (sumL a b 1)) else []
def addB (a b : List Itm) : Bool := (validI a && validI b) && validI (posI (sumL a b 1))
def lesL (a b : List Itm) : List Itm := if (validI a && validI b) = true then chkI (posI (sumL a b (-1))) else []
def lesB (a b : List Itm) : Bool := (validI a && validI b) && validI (posI (sumL a b (-1)))
def updL (a b : List Itm) : List Itm := if (validI a && validI b) = true then chkI (sumL a b 1) else []
def updB (a b : List Itm) : Bool := (validI a && validI b) && validI (sumL a b 1)
def subL (a b : List Itm) : List Itm := if (validI a && validI b) = true then chkI (sumL a b (-1)) else []
def subB (a b : List Itm) : Bool := (validI a && validI b) && validI (sumL a b (-1))
def metL (a b : List Itm) : List Itm := if (validI a && validI b) = true then posI (sumL a (posI (sumL a b (-1))) (-1)) else []
def joiR (a b : List Itm) : List Itm := posI (sumL a (posI (sumL b a (-1))) 1)
def joiL (a b : List Itm) : List Itm := if (validI a && validI b) = true then chkI (joiR a b) else []
def joiB (a b : List Itm) : Bool := (validI a && validI b) && validI (joiR a b)
def kepL (a : List Itm) : List Itm := if validI a = true then posI (sumL a [] 1) else []
def trnL (a : List Itm) : List Itm := if validI a = true then posI (sumL [] a (-1)) else []
def dzrL (a : List Itm) : List Itm := if validI a = true then nzI (sumL a [] 1) else []
def sclL (a : List Itm) (m : Int) : List Itm := if (validI a && numB m) = true then chkI (sumL [] a m) else []
def sclB (a : List Itm) (m : Int) : Bool := (validI a && numB m) && validI (sumL [] a m)
def cofN (a : List Itm) (s : ByteArray) : Int := if validI a = true then cnt (sumL a [] 1) s else 0
def totN (a : List Itm) : Int := if validI a = true then sumI (sumL a [] 1) else 0
def witB (a b : List Itm) : Bool := (validI a && validI b) && decide ((posI (sumL a b (-1))).length = 0)
def samB (a b : List Itm) : Bool := (validI a && validI b) && decide ((nzI (sumL a b (-1))).length = 0)

theorem valid_sub {l m : List Itm} (ul : uniqI l = true) (hm : validI m = true) (hk : ∀ s, hasI l s = true → hasI m s = true) (hn : ∀ x ∈ l, -9999 ≤ x.2 ∧ x.2 ≤ 9999) : validI l = true := by
  have h1 := (validI_iff m).1 hm
  refine (validI_iff l).2 ⟨fun x hx => ⟨?_, numB_iff.2 (hn x hx)⟩, ul, ?_⟩
  · obtain ⟨y, hy, e⟩ := hasI_mem.1 (hk x.1 (hasI_mem.2 ⟨x, hx, rfl⟩))
    rw [← e]
    exact (h1.1 y hy).1
  · have h2 : (keysL l).length ≤ (keysL m).length := List.Nodup.length_le_of_subset (uniq_nodup.1 ul) (fun s hs => mem_keys.2 (hk s (mem_keys.1 hs)))
    have e1 : (keysL l).length = l.length := List.length_map ..
    have e2 : (keysL m).length = m.length := List.length_map ..
    omega
theorem has_cnt_pos {l : List Itm} (pl : ∀ x ∈ l, 0 < x.2) (ul : uniqI l = true) {s : ByteArray} : hasI l s = true ↔ 0 < cnt l s := by
  constructor
  · intro h
    obtain ⟨x, hx, rfl⟩ := hasI_mem.1 h
    rw [cnt_at_mem ul hx]
    exact pl x hx
  · intro h
    exact has_of_pos (by omega)
theorem cnt_valid {l : List Itm} (h : validI l = true) (s : ByteArray) : -9999 ≤ cnt l s ∧ cnt l s ≤ 9999 := by
  cases hh : hasI l s
  · rw [cnt_none hh]; omega
  · obtain ⟨x, hx, rfl⟩ := hasI_mem.1 hh
    rw [cnt_at_mem (valid_uniq h) hx]
    exact valid_num h x hx
/-- A positive list within a valid one is valid. -/
theorem valid_le {l m : List Itm} (ul : uniqI l = true) (pl : ∀ x ∈ l, 0 < x.2) (hm : validI m = true) (h : ∀ s, cnt l s ≤ max 0 (cnt m s)) : validI l = true := by
  refine valid_sub ul hm (fun s hs => ?_) (fun x hx => ?_)
  · have h1 := (has_cnt_pos pl ul).1 hs
    have h2 := h s
    exact has_of_pos (by omega)
  · have h1 := pl x hx
    have h2 := h x.1
    rw [cnt_at_mem ul hx] at h2
    have h3 := (cnt_valid hm x.1).2
    omega
theorem valid_posI {a : List Itm} (h : validI a = true) : validI (posI a) = true := by
  refine valid_le (uniq_filter (valid_uniq h)) pos_pos h fun s => ?_
  rw [cnt_pos (valid_uniq h)]
  exact Int.le_refl _
theorem upos {l : List Itm} (h : uniqI l = true) : uniqI (posI l) = true := uniq_filter h
theorem cpos {l : List Itm} (h : uniqI l = true) (s : ByteArray) : cnt (posI l) s = max 0 (cnt l s) := cnt_pos h s
theorem csum {a b : List Itm} (ha : validI a = true) (hb : uniqI b = true) (m : Int) (s : ByteArray) : cnt (sumL a b m) s = cnt a s + cnt b s * m := cnt_sum ha hb m s
theorem usum {a : List Itm} (ha : validI a = true) (b : List Itm) (m : Int) : uniqI (sumL a b m) = true := uniq_sum (b := b) ha m
theorem cps {a b : List Itm} (ha : validI a = true) (hb : uniqI b = true) (m : Int) (s : ByteArray) : cnt (posI (sumL a b m)) s = max 0 (cnt a s + cnt b s * m) := by
  rw [cpos (usum ha b m), csum ha hb]
theorem ups {a : List Itm} (ha : validI a = true) (b : List Itm) (m : Int) : uniqI (posI (sumL a b m)) = true := upos (usum ha b m)
theorem valid_pcnt {l m : List Itm} (ul : uniqI l = true) (um : uniqI m = true) (pl : ∀ x ∈ l, 0 < x.2) (pm : ∀ x ∈ m, 0 < x.2) (h : ∀ s, cnt l s = cnt m s) : validI l = validI m :=
  valid_perm (perm_of_cnt ul um (fun x hx => by have := pl x hx; omega) (fun x hx => by have := pm x hx; omega) h)
theorem chk_yes {l : List Itm} (h : validI l = true) : chkI l = l := by unfold chkI; rw [if_pos h]
theorem kep_of {a : List Itm} (h : validI a = true) : kepL a = posI a := by unfold kepL; rw [if_pos h, sumL_one h]
theorem sam_of {a b : List Itm} (ha : validI a = true) (hb : validI b = true) (h : ∀ s, cnt a s = cnt b s) : samB a b = true := by
  unfold samB
  rw [ha, hb, same_of ha hb h]
  rfl
theorem sam_iff {a b : List Itm} (ha : validI a = true) (hb : validI b = true) : samB a b = true ↔ ∀ s, cnt a s = cnt b s := by
  refine ⟨fun h => ?_, sam_of ha hb⟩
  unfold samB at h
  rw [ha, hb, sumL_valid ha, same_eq (valid_uniq ha) (valid_uniq hb)] at h
  have h2 := (Bool.and_eq_true _ _).mp (by simpa using h)
  intro s
  have h3 := (within_iff (valid_uniq ha) (valid_uniq hb)).1 h2.1 s
  have h4 := (within_iff (valid_uniq hb) (valid_uniq ha)).1 h2.2 s
  omega
theorem wit_iff {a b : List Itm} (ha : validI a = true) (hb : validI b = true) : witB a b = true ↔ ∀ s, cnt a s ≤ cnt b s := by
  unfold witB
  rw [ha, hb, sumL_valid ha, within_eq (valid_uniq ha) (valid_uniq hb)]
  exact within_iff (valid_uniq ha) (valid_uniq hb)
theorem add_of {a b : List Itm} (ha : validI a = true) (hb : validI b = true) (h : validI (posI (sumL a b 1)) = true) : addL a b = posI (sumL a b 1) ∧ addB a b = true := by
  unfold addL addB
  rw [ha, hb, h]
  exact ⟨by rw [chk_yes h]; rfl, rfl⟩
theorem add_parts {a b : List Itm} (h : addB a b = true) : validI a = true ∧ validI b = true ∧ validI (posI (sumL a b 1)) = true := by
  unfold addB at h
  rw [Bool.and_eq_true, Bool.and_eq_true] at h
  exact ⟨h.1.1, h.1.2, h.2⟩
theorem les_of {a b : List Itm} (ha : validI a = true) (hb : validI b = true) (h : validI (posI (sumL a b (-1))) = true) : lesL a b = posI (sumL a b (-1)) ∧ lesB a b = true := by
  unfold lesL lesB
  rw [ha, hb, h]
  exact ⟨by rw [chk_yes h]; rfl, rfl⟩
theorem les_parts {a b : List Itm} (h : lesB a b = true) : validI a = true ∧ validI b = true ∧ validI (posI (sumL a b (-1))) = true := by
  unfold lesB at h
  rw [Bool.and_eq_true, Bool.and_eq_true] at h
  exact ⟨h.1.1, h.1.2, h.2⟩
theorem les_valid {a b : List Itm} (ha : validI a = true) (hb : validI b = true) (hp : ∀ s, 0 ≤ cnt b s) : validI (posI (sumL a b (-1))) = true := by
  refine valid_le (ups ha b _) pos_pos ha fun s => ?_
  rw [cps ha (valid_uniq hb)]
  have := hp s
  omega
theorem sub_of {a b : List Itm} (ha : validI a = true) (hb : validI b = true) (h : validI (sumL a b (-1)) = true) : subL a b = sumL a b (-1) ∧ subB a b = true := by
  unfold subL subB
  rw [ha, hb, h]
  exact ⟨by rw [chk_yes h]; rfl, rfl⟩
theorem sub_parts {a b : List Itm} (h : subB a b = true) : validI a = true ∧ validI b = true ∧ validI (sumL a b (-1)) = true := by
  unfold subB at h
  rw [Bool.and_eq_true, Bool.and_eq_true] at h
  exact ⟨h.1.1, h.1.2, h.2⟩
theorem upd_of {a b : List Itm} (ha : validI a = true) (hb : validI b = true) (h : validI (sumL a b 1) = true) : updL a b = sumL a b 1 ∧ updB a b = true := by
  unfold updL updB
  rw [ha, hb, h]
  exact ⟨by rw [chk_yes h]; rfl, rfl⟩
theorem upd_parts {a b : List Itm} (h : updB a b = true) : validI a = true ∧ validI b = true ∧ validI (sumL a b 1) = true := by
  unfold updB at h
  rw [Bool.and_eq_true, Bool.and_eq_true] at h
  exact ⟨h.1.1, h.1.2, h.2⟩
theorem cnt_nil (s : ByteArray) : cnt [] s = 0 := rfl
/-! ### the smaller and the greater counts -/
theorem nonneg_pos {l : List Itm} (s : ByteArray) : 0 ≤ cnt (posI l) s := cnt_nonneg' pos_pos s
theorem cmet {a b : List Itm} (ha : validI a = true) (hb : validI b = true) (s : ByteArray) : cnt (posI (sumL a (posI (sumL a b (-1))) (-1))) s = max 0 (min (cnt a s) (cnt b s)) := by
  rw [cps ha (ups ha b _), cps ha (valid_uniq hb)]
  omega
theorem met_of {a b : List Itm} (ha : validI a = true) (hb : validI b = true) : validI (metL a b) = true ∧ ∀ s, cnt (metL a b) s = max 0 (min (cnt a s) (cnt b s)) := by
  have e : metL a b = posI (sumL a (posI (sumL a b (-1))) (-1)) := by unfold metL; rw [ha, hb]; rfl
  rw [e]
  refine ⟨valid_le (ups ha _ _) pos_pos ha fun s => ?_, cmet ha hb⟩
  rw [cmet ha hb]
  omega
theorem met_pos {a b : List Itm} : ∀ x ∈ metL a b, 0 < x.2 := by
  unfold metL
  split
  · exact pos_pos
  · intro x hx; cases hx
theorem ujoi {a : List Itm} (ha : validI a = true) (b : List Itm) : uniqI (joiR a b) = true := ups ha _ _
theorem cjoi {a b : List Itm} (ha : validI a = true) (hb : validI b = true) (s : ByteArray) : cnt (joiR a b) s = max 0 (max (cnt a s) (cnt b s)) := by
  unfold joiR
  rw [cps ha (ups hb a _), cps hb (valid_uniq ha)]
  omega
theorem joi_of {a b : List Itm} (ha : validI a = true) (hb : validI b = true) (h : validI (joiR a b) = true) : joiL a b = joiR a b ∧ joiB a b = true := by
  unfold joiL joiB
  rw [ha, hb, h]
  exact ⟨by rw [chk_yes h]; rfl, rfl⟩
theorem joi_parts {a b : List Itm} (h : joiB a b = true) : validI a = true ∧ validI b = true ∧ validI (joiR a b) = true := by
  unfold joiB at h
  rw [Bool.and_eq_true, Bool.and_eq_true] at h
  exact ⟨h.1.1, h.1.2, h.2⟩

theorem ok_valid {l : List Itm} (h : validI l = true) : okI l := fun x hx => by
  have h1 := ((validI_iff l).1 h).1 x hx
  have h2 := numB_iff.1 h1.2
  have h3 := h1.1
  unfold keyB at h3
  simp only [Bool.and_eq_true, decide_eq_true_eq] at h3
  omega

/-! ### AddCounts -/
theorem addc_algebra {a b : List Itm} (h : addB a b = true) :
    addB b a = true ∧ samB (addL b a) (addL a b) = true ∧ kepL (addL a b) = addL a b ∧ addB a [] = true ∧ addL a [] = kepL a := by
  obtain ⟨ha, hb, hv⟩ := add_parts h
  have hv2 : validI (posI (sumL b a 1)) = true := by rw [← valid_perm (add_turn ha hb)]; exact hv
  have h0 : validI [] = true := rfl
  have e0 : posI (sumL a [] 1) = posI a := by rw [sumL_one ha]
  have hv3 : validI (posI (sumL a [] 1)) = true := by rw [e0]; exact valid_posI ha
  refine ⟨(add_of hb ha hv2).2, ?_, ?_, (add_of ha h0 hv3).2, ?_⟩
  · rw [(add_of hb ha hv2).1, (add_of ha hb hv).1]
    refine sam_of hv2 hv fun s => ?_
    rw [cps hb (valid_uniq ha), cps ha (valid_uniq hb)]
    omega
  · rw [(add_of ha hb hv).1, kep_of hv]
    exact pos_self pos_pos
  · rw [(add_of ha h0 hv3).1, kep_of ha, e0]
/-- Positive counts of three lists, put together in either way. -/
theorem chain_algebra {a b c : List Itm} (ha : validI a = true) (hb : validI b = true) (hc : validI c = true) (pa : ∀ s, 0 ≤ cnt a s) (pb : ∀ s, 0 ≤ cnt b s) (pc : ∀ s, 0 ≤ cnt c s)
    (hp : addB a b = true) (hq : addB (addL a b) c = true) (hr : addB b c = true) :
    addB a (addL b c) = true ∧ samB (addL (addL a b) c) (addL a (addL b c)) = true := by
  obtain ⟨_, _, hv1⟩ := add_parts hp
  have e1 := (add_of ha hb hv1).1
  obtain ⟨_, _, hv2⟩ := add_parts hr
  have e2 := (add_of hb hc hv2).1
  rw [e1] at hq ⊢
  rw [e2]
  obtain ⟨_, _, hv3⟩ := add_parts hq
  have e3 := (add_of hv1 hc hv3).1
  have ec : ∀ s, cnt (posI (sumL (posI (sumL a b 1)) c 1)) s = cnt (posI (sumL a (posI (sumL b c 1)) 1)) s := by
    intro s
    rw [cps hv1 (valid_uniq hc), cps ha (valid_uniq hb), cps ha (valid_uniq hv2), cps hb (valid_uniq hc)]
    have := pa s
    have := pb s
    have := pc s
    omega
  have hv4 : validI (posI (sumL a (posI (sumL b c 1)) 1)) = true := by
    rw [← valid_pcnt (ups hv1 c 1) (ups ha _ 1) pos_pos pos_pos ec]
    exact hv3
  have e4 := add_of ha hv2 hv4
  refine ⟨e4.2, ?_⟩
  rw [e3, e4.1]
  exact sam_of hv3 hv4 ec
/-- What is left and the smaller counts together. -/
theorem less_algebra {a b : List Itm} (ha : validI a = true) (hb : validI b = true) (pa : ∀ s, 0 ≤ cnt a s) (pb : ∀ s, 0 ≤ cnt b s) :
    lesB a b = true ∧ addB (lesL a b) (metL a b) = true ∧ samB (addL (lesL a b) (metL a b)) a = true := by
  have hv := les_valid ha hb pb
  have e1 := les_of ha hb hv
  obtain ⟨hm, cm⟩ := met_of ha hb
  have ec : ∀ s, cnt (posI (sumL (posI (sumL a b (-1))) (metL a b) 1)) s = cnt a s := by
    intro s
    rw [cps hv (valid_uniq hm), cps ha (valid_uniq hb), cm]
    have := pa s
    have := pb s
    omega
  have hv2 : validI (posI (sumL (posI (sumL a b (-1))) (metL a b) 1)) = true := by
    refine valid_le (ups hv _ 1) pos_pos ha fun s => ?_
    rw [ec]
    omega
  rw [e1.1]
  have e2 := add_of hv hm hv2
  refine ⟨e1.2, e2.2, ?_⟩
  rw [e2.1]
  exact sam_of hv2 ha ec
theorem meet_algebra {a b : List Itm} (ha : validI a = true) (hb : validI b = true) :
    samB (metL b a) (metL a b) = true ∧ witB (metL (posI a) (posI b)) (posI a) = true ∧ witB (metL (posI a) (posI b)) (posI b) = true ∧ (witB (posI a) (posI b) = true → samB (metL (posI a) (posI b)) (posI a) = true) := by
  have h1 := met_of ha hb
  have h2 := met_of hb ha
  have hx := valid_posI ha
  have hy := valid_posI hb
  have h3 := met_of hx hy
  refine ⟨sam_of h2.1 h1.1 fun s => ?_, (wit_iff h3.1 hx).2 fun s => ?_, (wit_iff h3.1 hy).2 fun s => ?_, fun hw => sam_of h3.1 hx fun s => ?_⟩
  · rw [h2.2, h1.2]; omega
  · rw [h3.2]; have := nonneg_pos (l := a) s; omega
  · rw [h3.2]; have := nonneg_pos (l := b) s; omega
  · have := (wit_iff hx hy).1 hw s
    rw [h3.2]; have := nonneg_pos (l := a) s; omega
theorem join_algebra {a b : List Itm} (h : joiB a b = true) :
    joiB (posI a) (posI b) = true ∧ addB (joiL (posI a) (posI b)) (metL (posI a) (posI b)) = addB (posI a) (posI b) ∧ witB (posI a) (joiL a b) = true ∧ witB (posI b) (joiL a b) = true ∧ (addB (posI a) (posI b) = true → samB (addL (joiL (posI a) (posI b)) (metL (posI a) (posI b))) (addL (posI a) (posI b)) = true) := by
  obtain ⟨ha, hb, hv⟩ := joi_parts h
  have hx := valid_posI ha
  have hy := valid_posI hb
  have ec : ∀ s, cnt (joiR (posI a) (posI b)) s = cnt (joiR a b) s := by
    intro s
    rw [cjoi hx hy, cjoi ha hb, cpos (valid_uniq ha), cpos (valid_uniq hb)]
    omega
  have hv2 : validI (joiR (posI a) (posI b)) = true := by
    rw [valid_pcnt (ujoi hx _) (ujoi ha _) pos_pos pos_pos ec]
    exact hv
  have e1 := joi_of ha hb hv
  have e2 := joi_of hx hy hv2
  obtain ⟨hm, cm⟩ := met_of hx hy
  rw [e1.1, e2.1]
  have ec2 : ∀ s, cnt (posI (sumL (joiR (posI a) (posI b)) (metL (posI a) (posI b)) 1)) s = cnt (posI (sumL (posI a) (posI b) 1)) s := by
    intro s
    rw [cps hv2 (valid_uniq hm), cps hx (valid_uniq hy), cjoi hx hy, cm]
    have := nonneg_pos (l := a) s
    have := nonneg_pos (l := b) s
    omega
  have hvv := valid_pcnt (ups hv2 _ 1) (ups hx _ 1) pos_pos pos_pos ec2
  refine ⟨e2.2, ?_, (wit_iff hx hv).2 fun s => ?_, (wit_iff hy hv).2 fun s => ?_, fun hq => ?_⟩
  · unfold addB
    rw [hv2, hm, hx, hy, hvv]
  · rw [cjoi ha hb, cpos (valid_uniq ha)]; omega
  · rw [cjoi ha hb, cpos (valid_uniq hb)]; omega
  · have h3 := (add_parts hq).2.2
    rw [(add_of hx hy h3).1, (add_of hv2 hm (hvv.trans h3)).1]
    exact sam_of (hvv.trans h3) h3 ec2
theorem spread_algebra {a b c : List Itm} (h : joiB a b = true) (hc : validI c = true) (pc : ∀ s, 0 ≤ cnt c s) :
    joiB (posI a) (posI b) = true ∧ joiB (metL (posI a) c) (metL (posI b) c) = true ∧ samB (metL (joiL (posI a) (posI b)) c) (joiL (metL (posI a) c) (metL (posI b) c)) = true ∧ validI (joiL a b) = true := by
  obtain ⟨ha, hb, hv⟩ := joi_parts h
  have hx := valid_posI ha
  have hy := valid_posI hb
  have hj := (join_algebra h).1
  have hv2 := (joi_parts hj).2.2
  have e2 := (joi_of hx hy hv2).1
  obtain ⟨hm, cm⟩ := met_of hx hc
  obtain ⟨hn, cn⟩ := met_of hy hc
  have ec : ∀ s, cnt (joiR (metL (posI a) c) (metL (posI b) c)) s = max 0 (min (max (cnt (posI a) s) (cnt (posI b) s)) (cnt c s)) := by
    intro s
    rw [cjoi hm hn, cm, cn]
    have := nonneg_pos (l := a) s
    have := nonneg_pos (l := b) s
    have := pc s
    omega
  have hv3 : validI (joiR (metL (posI a) c) (metL (posI b) c)) = true := by
    refine valid_le (ujoi hm _) pos_pos hc fun s => ?_
    rw [ec]
    have := pc s
    omega
  have e3 := joi_of hm hn hv3
  obtain ⟨hl, cl⟩ := met_of hv2 hc
  refine ⟨hj, e3.2, ?_, by rw [(joi_of ha hb hv).1]; exact hv⟩
  rw [e2, e3.1]
  refine sam_of hl hv3 fun s => ?_
  rw [cl, ec, cjoi hx hy]
  have := nonneg_pos (l := a) s
  have := nonneg_pos (l := b) s
  omega
/-! ### KeepCounts, TurnCounts -/
theorem uscl {a : List Itm} (m : Int) : uniqI (sumL [] a m) = true := usum (a := []) rfl a m
theorem cscl {a : List Itm} (ha : validI a = true) (m : Int) (s : ByteArray) : cnt (sumL [] a m) s = cnt a s * m := by
  rw [csum (a := []) rfl (valid_uniq ha), cnt_nil]
  omega
theorem trn_of {a : List Itm} (ha : validI a = true) : trnL a = posI (sumL [] a (-1)) ∧ validI (posI (sumL [] a (-1))) = true ∧ ∀ s, cnt (posI (sumL [] a (-1))) s = max 0 (-cnt a s) := by
  have hc : ∀ s, cnt (posI (sumL [] a (-1))) s = max 0 (-cnt a s) := fun s => by rw [cpos (uscl _), cscl ha]; omega
  refine ⟨by unfold trnL; rw [if_pos ha], valid_sub (upos (uscl _)) ha (fun s hs => ?_) (fun x hx => ?_), hc⟩
  · have h1 := (has_cnt_pos pos_pos (upos (uscl _))).1 hs
    rw [hc] at h1
    exact has_of_pos (by omega)
  · have h1 := cnt_at_mem (upos (uscl (-1))) hx
    rw [hc] at h1
    have h2 := cnt_valid ha x.1
    omega
theorem has_sum {a b : List Itm} (ha : validI a = true) (m : Int) (s : ByteArray) : hasI (sumL a b m) s = (hasI a s || hasI b s) := by
  rw [sumL_valid ha, addAll_mem]
theorem valid_cnts {l m : List Itm} (ul : uniqI l = true) (hm : validI m = true) (hk : ∀ s, hasI l s = true → hasI m s = true) (h : ∀ s, cnt l s = cnt m s) : validI l = true :=
  valid_sub ul hm hk (fun x hx => by
    have h1 := cnt_at_mem ul hx
    rw [h] at h1
    have := cnt_valid hm x.1
    omega)
theorem keep_algebra {a : List Itm} (ha : validI a = true) :
    validI (kepL a) = true ∧ subB (kepL a) (trnL a) = true ∧ samB (subL (kepL a) (trnL a)) a = true ∧ kepL (kepL a) = kepL a := by
  obtain ⟨e1, ht, ct⟩ := trn_of ha
  have hp := valid_posI ha
  rw [kep_of ha, e1]
  have ec : ∀ s, cnt (sumL (posI a) (posI (sumL [] a (-1))) (-1)) s = cnt a s := fun s => by
    rw [csum hp (valid_uniq ht), ct, cpos (valid_uniq ha)]
    omega
  have hv : validI (sumL (posI a) (posI (sumL [] a (-1))) (-1)) = true := by
    refine valid_cnts (usum hp _ _) ha (fun s hs => ?_) ec
    rw [has_sum hp, Bool.or_eq_true] at hs
    rcases hs with hs | hs
    · have h1 := (has_cnt_pos pos_pos (valid_uniq hp)).1 hs
      rw [cpos (valid_uniq ha)] at h1
      exact has_of_pos (by omega)
    · have h1 := (has_cnt_pos pos_pos (valid_uniq ht)).1 hs
      rw [ct] at h1
      exact has_of_pos (by omega)
  have e2 := sub_of hp ht hv
  refine ⟨hp, e2.2, ?_, ?_⟩
  · rw [e2.1]
    exact sam_of hv ha ec
  · rw [kep_of hp]
    exact pos_self pos_pos
theorem scl_valid {a : List Itm} (ha : validI a = true) : validI (sumL [] a (-1)) = true := by
  refine valid_sub (uscl _) ha (fun s hs => ?_) (fun x hx => ?_)
  · rw [has_sum (a := []) rfl] at hs
    simpa [hasI] using hs
  · have h1 := cnt_at_mem (uscl (-1)) hx
    rw [cscl ha] at h1
    have := cnt_valid ha x.1
    omega
theorem turn_algebra {a : List Itm} (ha : validI a = true) : sclB a (-1) = true ∧ kepL (sclL a (-1)) = trnL a := by
  have hv := scl_valid ha
  have hn : numB (-1) = true := rfl
  have e : sclL a (-1) = sumL [] a (-1) := by unfold sclL; rw [ha, hn, chk_yes hv]; rfl
  refine ⟨by unfold sclB; rw [ha, hn, hv]; rfl, ?_⟩
  rw [e, kep_of hv, (trn_of ha).1]
/-! ### TotalCount -/
theorem sum_put {l : List Itm} (k : ByteArray) (n : Int) : sumI (putI l k n) = sumI l - cnt l k + n := by
  induction l with
  | nil => simp [putI, sumI, cnt]
  | cons x r ih =>
    unfold putI cnt
    split
    · simp only [sumI]; omega
    · simp only [sumI]; rw [ih]; omega
theorem sum_addAll (b : List Itm) (m : Int) : ∀ t : List Itm, sumI (addAll t b m) = sumI t + sumI b * m := by
  induction b with
  | nil => intro t; simp [addAll, sumI]
  | cons x r ih =>
    intro t
    have e : addAll t (x :: r) m = addAll (putI t x.1 (cnt t x.1 + x.2 * m)) r m := rfl
    rw [e, ih, sum_put]
    simp only [sumI]
    rw [Int.add_mul]
    omega
theorem tot_of {a : List Itm} (ha : validI a = true) : totN a = sumI a := by unfold totN; rw [if_pos ha, sumL_one ha]
theorem total_algebra {a c : List Itm} (ha : validI a = true) (hc : validI c = true) (hk : sumI c = -3) (h : updB a c = true) : totN (updL a c) = totN a - 3 := by
  obtain ⟨_, _, hv⟩ := upd_parts h
  rw [(upd_of ha hc hv).1, tot_of hv, tot_of ha, sumL_valid ha, sum_addAll, hk]
  omega
end Go.Proofs.Ytloalakpkjbeaaa
