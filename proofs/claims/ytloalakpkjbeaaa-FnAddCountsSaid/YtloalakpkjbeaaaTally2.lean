/-
  The program's tally: what is read out of it.
-/
import Derived.Test.YtloalakpkjbeaaaTally
namespace Go.Proofs.Ytloalakpkjbeaaa
open Go.RowKit

theorem cnt_at {l : List Itm} : ∀ {k : Nat} (h : k < l.length), uniqI l = true → cnt l l[k].1 = l[k].2 := by
  induction l with
  | nil => intro k h; simp at h
  | cons x r ih =>
    intro k h hu
    simp only [uniqI, Bool.and_eq_true, Bool.not_eq_true'] at hu
    cases k with
    | zero => simp [cnt]
    | succ k =>
      have hk : k < r.length := by simpa using h
      have hne : x.1 ≠ r[k].1 := by
        intro e
        have := hasI_mem.2 ⟨r[k], List.getElem_mem hk, e.symm⟩
        rw [hu.1] at this
        cases this
      simp only [List.getElem_cons_succ, cnt, hne, if_false]
      exact ih hk hu.2

theorem MapN.uniq {e b : Nat} {w : World} {l : List Itm} (h : MapN e w b l) : uniqI l = true := by obtain ⟨D, _, _, _, _, h⟩ := h; exact h

theorem keysV_get {l : List Itm} {k : Nat} (h : k < l.length) : (keysV l)[k]? = some (.string l[k].1) := by simp [keysV, h]

set_option maxHeartbeats 1600000 in
theorem items_any (K : Nat → Prop) (t : Nat) (l : List Itm) (w : World) (h : TallyAt K w t l) (hl : l.length ≤ 1048576) (hok : okI l) :
    Calls Try.prog 69 #[.pointer (some ⟨t, 0, none⟩)] w (FreshI l w) := by
  obtain ⟨v, mb, hb, hBt, hBm, hBv, hown, hmap⟩ := h
  have hu := Lib.hid hmap.uniq
  clear hBv
  obtain ⟨i0, hi, hz0, hz1, hz2⟩ := info_parts Try.infoI
  have hbytes : i0.bytes * l.length ≤ 281474976710656 := by rw [hz2]; omega
  have c0 := two_cell0 hb
  have c1 := two_cell1 hb
  have hbs := lt_of_block hb
  obtain ⟨ao, cap, rfl, hlc, hcm⟩ := own_slice hown
  go_enter Try.func69, Try.ntmps69
  go_wp2_with (at_make; refine wpList_make_own _ rfl _ _ 23 rfl w.heap.size 39 i0 _ 2 Try.underlying23 hi hz0 hz1 _ _ _ l.length rfl rfl rfl hbytes (by unfold maxLen; omega) (Nat.le_refl _) ?_; intro w1 hown1 hgrow1; have c0' := hgrow1.cell c0 (by simp); have c1' := hgrow1.cell c1 (by simp))
  have hlt0 := (hown1.lt w.heap.size rfl).2
  have hb0 : Below w.heap.size w w1 := (Below.refl _ _).grown hgrow1 (Nat.le_refl _) (fun k hk => by cases hk)
  have HW := Lib.hid hown
  clear hgrow1 hown c0' c1'
  go_loopw [17, 3] (fun i x wr => ∃ k : Nat, k ≤ l.length ∧ i = .int .i64 k ∧ x = .slice (some ⟨w.heap.size, 0, none⟩) k l.length ∧
      wr.ownsRow w.heap.size 39 2 (.slice (some ⟨w.heap.size, 0, none⟩) k l.length) k (cellsI (l.take k)) ∧ Below w.heap.size w wr ∧ w.heap.size < wr.heap.size) (fun i _ _ => l.length - (intOf i).toNat)
  case atStart => exact ⟨0, Nat.zero_le _, rfl, rfl, hown1, hb0, hlt0⟩
  case round =>
    obtain ⟨k, hk, rfl, rfl, hrow, hbl, hsz⟩ := hrel
    by_cases hlt : k < l.length
    · obtain ⟨g, rfl, hg, hc⟩ := own_cell HW.out hlt (keysV_get hlt)
      have c2 := (hbl.cell (p := ⟨g, k, none⟩) hg).trans hc
      have d1 := (hbl.cell (p := ⟨t, 1, none⟩) hbs).trans c1
      have hmr := hmap.below hbl (Nat.le_refl _)
      have hs := (hok _ (List.getElem_mem hlt)).1
      have HC := Lib.hid (cnt_at hlt hu.out)
      clear hc
      go_wp2_with (first
        | (at_lookup; refine wpl_lookN _ rfl _ _ 54 rfl hmr Try.underlying54 Try.underlying3 (zeroN _) rfl _ rfl hs ?_; rw [HC.out])
        | (at_builtin; refine wpList_append_fits _ rfl _ _ 23 rfl w.heap.size 39 i0 2 Try.underlying23 hi hz1 w.heap.size k l.length (cellsI (l.take k)) rfl (hrow.alloc _) ⟨wr.heap.size, 0, none⟩ 1 1 [.string l[k].1, .int .i64 l[k].2] rfl rfl (cells_two_new _ _ _ _) (by intro u hu; simp at hu; rcases hu with rfl | rfl <;> rfl) (by omega) ?_; intro w2 hrow2 hgrow2))
      have hs2 := hgrow2.size
      simp at hs2
      have hrow3 : w2.ownsRow w.heap.size 39 2 (.slice (some ⟨w.heap.size, 0, none⟩) (k + 1) l.length) (k + 1) (cellsI (l.take (k + 1))) := by
        rw [List.take_succ_eq_append_getElem hlt, cellsI_snoc]; exact hrow2
      clear hrow2 hrow hmr c2 d1
      go_roundw
      case rel => exact ⟨k + 1, by omega, by go_num, rfl, hrow3, (hbl.alloc (Nat.le_of_lt hsz) _).grown hgrow2 (by simp; omega) (fun j hj => by cases hj; exact Nat.le_refl _), by omega⟩
      case measure => simp [intOf]; omega
    · obtain rfl : k = l.length := by omega
      go_wp2
      go_ret
      exact ⟨_, rfl, ⟨by simpa using hrow, hok⟩, hbl⟩

/-! ### what is kept -/
theorem isPositive_any (n : Int) (w : World) : Calls Try.prog 94 #[.int .i64 n] w fun e w' => e = .returned (.bool (decide (0 < n))) ∧ w = w' := by
  go_enter Try.func94, Try.ntmps94
  go_wp2
  go_ret
  exact ⟨rfl, rfl⟩
theorem isNotZero_any (n : Int) (w : World) : Calls Try.prog 74 #[.int .i64 n] w fun e w' => e = .returned (.bool (decide (n ≠ 0))) ∧ w = w' := by
  go_enter Try.func74, Try.ntmps74
  go_wp2
  go_ret
  refine ⟨ret_bool ?_, rfl⟩
  rw [Bool.eq_iff_iff]; simp

theorem hasI_of_uniq {a b : List Itm} {x : Itm} (h : uniqI (a ++ x :: b) = true) : hasI a x.1 = false ∧ hasI b x.1 = false := by
  induction a with
  | nil =>
    simp only [List.nil_append, uniqI, Bool.and_eq_true, Bool.not_eq_true'] at h
    exact ⟨rfl, h.1⟩
  | cons y r ih =>
    simp only [List.cons_append, uniqI, Bool.and_eq_true, Bool.not_eq_true', hasI_append, hasI, Bool.or_eq_false_iff, decide_eq_false_iff_not] at h
    have := ih h.2
    refine ⟨?_, this.2⟩
    simp only [hasI, this.1, Bool.or_false, decide_eq_false_iff_not]
    exact fun e => h.1.2.1 e.symm
theorem delI_mid {a b : List Itm} {x : Itm} (h : hasI a x.1 = false) : delI (a ++ x :: b) x.1 = a ++ b := by
  induction a with
  | nil => simp [delI]
  | cons y r ih =>
    simp only [hasI, Bool.or_eq_false_iff, decide_eq_false_iff_not] at h
    simp [delI, h.1, ih h.2]
theorem cnt_mid {a b : List Itm} {x : Itm} (h : hasI a x.1 = false) : cnt (a ++ x :: b) x.1 = x.2 := by
  rw [cnt_append, h]; simp [cnt]

/-- What keep has kept of the first k. -/
def keptI (q : Int → Bool) (l : List Itm) (k : Nat) : List Itm := (l.take k).filter fun x => q x.2
theorem keptI_yes {q : Int → Bool} {l : List Itm} {k : Nat} (h : k < l.length) (hq : q l[k].2 = true) : keptI q l (k + 1) = keptI q l k ++ [l[k]] := by
  unfold keptI; rw [List.take_succ_eq_append_getElem h, List.filter_append]; simp [hq]
theorem keptI_no {q : Int → Bool} {l : List Itm} {k : Nat} (h : k < l.length) (hq : q l[k].2 = false) : keptI q l (k + 1) = keptI q l k := by
  unfold keptI; rw [List.take_succ_eq_append_getElem h, List.filter_append]; simp [hq]
theorem keptI_le (q : Int → Bool) (l : List Itm) (k : Nat) : (keptI q l k).length ≤ k := by
  unfold keptI; exact Nat.le_trans (List.length_filter_le _ _) (List.length_take_le _ _)

theorem keysV_snoc (l : List Itm) (x : Itm) : keysV (l ++ [x]) = keysV l ++ [.string x.1] := by simp [keysV]

def KeepRel (K : Nat → Prop) (w wr : World) (t mb : Nat) (v : Value) (l : List Itm) (q : Int → Bool) (k : Nat) : Prop :=
  wr.heap[t]? = some (.cells #[v, .map (some mb)] 56 (0, 0)) ∧ wr.ownsRow 0 9 1 v l.length (keysV l) ∧ MapN 3 wr mb (keptI q l k ++ l.drop k) ∧
    wr.ownsRow w.heap.size 9 1 (.slice (some ⟨w.heap.size, 0, none⟩) (keptI q l k).length l.length) (keptI q l k).length (keysV (keptI q l k)) ∧ Keeps K w wr ∧ w.heap.size < wr.heap.size

theorem keep_no {K : Nat → Prop} {w wr w2 : World} {t mb : Nat} {v : Value} {l : List Itm} {q : Int → Bool} {k : Nat} (h : KeepRel K w wr t mb v l q k) (hlt : k < l.length) (hq : q l[k].2 = false)
    (hmap2 : MapN 3 w2 mb (delI (keptI q l k ++ l.drop k) l[k].1)) (hg : wr.grownBy w2 (some mb)) (hBm : ¬ K mb) (hK : ∀ k, K k → k < w.heap.size) (hmw : mb < w.heap.size) : KeepRel K w w2 t mb v l q (k + 1) := by
  obtain ⟨hb, ho, hm, hr, hk, hs⟩ := h
  have hu := hm.uniq
  rw [List.drop_eq_getElem_cons hlt] at hu hmap2
  rw [delI_mid (hasI_of_uniq hu).1, ← keptI_no hlt hq] at hmap2
  refine ⟨?_, ho.kept hg (.inr (own_map_ne ho hm)), hmap2, ?_, hk.grown hg hK (fun j hj => by cases hj; exact hBm), Nat.lt_of_lt_of_le hs hg.size⟩
  · rw [hg.block t (lt_of_block hb) (by intro e; cases e; exact map_ne hm hb rfl), hb]
  · rw [keptI_no hlt hq]
    exact hr.kept hg (.inr (by simp [Value.ownBlock]; omega))

theorem keep_yes {K : Nat → Prop} {w wr w2 : World} {t mb : Nat} {v : Value} {l : List Itm} {q : Int → Bool} {k : Nat} {o : Obj} (h : KeepRel K w wr t mb v l q k) (hlt : k < l.length) (hq : q l[k].2 = true)
    (hrow2 : w2.ownsRow w.heap.size 9 1 (.slice (some ⟨w.heap.size, 0, none⟩) ((keptI q l k).length + 1) l.length) ((keptI q l k).length + 1) (keysV (keptI q l k) ++ [.string l[k].1])) (hg : (wr.alloc o).grownBy w2 (some w.heap.size))
    (hNK : ¬ K w.heap.size) (hK : ∀ k, K k → k < w.heap.size) (hmw : mb < w.heap.size) (htw : t < w.heap.size) (hvw : ∀ g, v.ownBlock = some g → g < w.heap.size) : KeepRel K w w2 t mb v l q (k + 1) := by
  obtain ⟨hb, ho, hm, hr, hk, hs⟩ := h
  rw [List.drop_eq_getElem_cons hlt] at hm
  have e1 : keptI q l k ++ l[k] :: l.drop (k + 1) = keptI q l (k + 1) ++ l.drop (k + 1) := by rw [keptI_yes hlt hq, List.append_assoc]; rfl
  rw [e1] at hm
  have hs2 := hg.size
  simp at hs2
  refine ⟨grow_block hb hg (by simp; omega), (ho.alloc o).kept hg ?_, (hm.alloc o).kept hg (by simp; omega), ?_, (hk.alloc hK o).grown hg hK (fun j hj => by cases hj; exact hNK), by omega⟩
  · cases hv : v.ownBlock with
    | none => exact .inl rfl
    | some g => exact .inr (by have := hvw g hv; simp; omega)
  · rw [keptI_yes hlt hq, keysV_snoc, List.length_append]
    exact hrow2

theorem keep_end {K : Nat → Prop} {w wr : World} {t mb : Nat} {v : Value} {l : List Itm} {q : Int → Bool} (h : KeepRel K w wr t mb v l q l.length) (hBt : ¬ K t) (hBm : ¬ K mb) (hNK : ¬ K w.heap.size) (htw : t < w.heap.size) :
    TallyAt K (wr.setCell ⟨t, 0, none⟩ (.slice (some ⟨w.heap.size, 0, none⟩) (keptI q l l.length).length l.length)) t (l.filter fun x => q x.2) ∧ Keeps K w (wr.setCell ⟨t, 0, none⟩ (.slice (some ⟨w.heap.size, 0, none⟩) (keptI q l l.length).length l.length)) := by
  obtain ⟨hb, ho, hm, hr, hk, hs⟩ := h
  have e1 : keptI q l l.length = l.filter fun x => q x.2 := by unfold keptI; rw [List.take_length]
  rw [e1] at hm hr ⊢
  rw [List.drop_length, List.append_nil] at hm
  refine ⟨⟨_, mb, two_set0 hb _, hBt, hBm, fun g hg => ?_, ?_, hm.of_block (Below.heap_setCell _ _ _ _ (map_ne hm hb))⟩, hk.setCell hBt _⟩
  · simp [Value.ownBlock] at hg; subst hg; exact hNK
  · have := ownsRow_setCell_other hr (a := ⟨t, 0, none⟩) (by simp [Value.ownBlock]; omega) (.slice (some ⟨w.heap.size, 0, none⟩) (l.filter fun x => q x.2).length l.length)
    refine ⟨this.1, ?_⟩
    rcases this.2 with h2 | ⟨g, c, cur, e, hg, r⟩
    · exact .inl h2
    · exact .inr ⟨g, c, cur, e, Nat.zero_le _, r⟩

set_option maxHeartbeats 1600000 in
set_option maxRecDepth 100000 in
theorem keepPos_any (K : Nat → Prop) (t : Nat) (l : List Itm) (q : Int → Bool) (w : World) (hK : ∀ k, K k → k < w.heap.size) (h : TallyAt K w t l) (hl : l.length ≤ 1048576) (hok : okI l)
    (hF : ∀ (n : Int) (w : World), Calls Try.prog 94 #[.int .i64 n] w fun e w' => e = .returned (.bool (q n)) ∧ w = w') :
    Calls Try.prog 73 #[.pointer (some ⟨t, 0, none⟩), .func (.func 94) #[] #[]] w (AddPost K t (l.filter fun x => q x.2) w) := by
  obtain ⟨v, mb, hb, hBt, hBm, hBv, hown, hmap⟩ := h
  have HV := Lib.hid hBv
  have HKK := Lib.hid hK
  have HF := Lib.hid hF
  clear hBv hK hF
  obtain ⟨i0, hi, hz0, hz1, hz2⟩ := info_parts Try.infoS
  have hbytes : i0.bytes * l.length ≤ 281474976710656 := by rw [hz2]; omega
  have c0 := two_cell0 hb
  have hbs := lt_of_block hb
  obtain ⟨ao, cap, rfl, hlc, hcm⟩ := own_slice hown
  go_enter Try.func73, Try.ntmps73
  go_wp2_with (at_make; refine wpList_make_own _ rfl _ _ 41 rfl w.heap.size 9 i0 _ 1 Try.underlying41 hi hz0 hz1 _ _ _ l.length rfl rfl rfl hbytes (by unfold maxLen; omega) (Nat.le_refl _) ?_; intro w1 hown1 hgrow1; have c0' := hgrow1.cell c0 (by simp))
  have hlt0 := (hown1.lt w.heap.size rfl).2
  have hk0 : Keeps K w w1 := (Keeps.refl _ _).grown hgrow1 HKK.out (fun k hk => by cases hk)
  have hb1 : w1.heap[t]? = some (.cells #[.slice ao l.length cap, .map (some mb)] 56 (0, 0)) := (hgrow1.block t hbs (by simp)).trans hb
  have ho1 := hown.kept hgrow1 (by cases hv : (Value.slice ao l.length cap).ownBlock <;> simp)
  have hm1 := hmap.kept hgrow1 (by simp)
  have hNK : ¬ K w.heap.size := fun h => Nat.lt_irrefl _ (HKK.out _ h)
  have hvl := Lib.hid (fun g hg => (hown.lt g hg).2)
  have hml := hmap.lt
  clear hgrow1 hown hmap hb c0 c0'
  go_loopw [18, 4] (fun i x wr => ∃ k : Nat, k ≤ l.length ∧ i = .int .i64 k ∧ x = .slice (some ⟨w.heap.size, 0, none⟩) (keptI q l k).length l.length ∧ KeepRel K w wr t mb (.slice ao l.length cap) l q k) (fun i _ _ => l.length - (intOf i).toNat)
  case atStart => exact ⟨0, Nat.zero_le _, rfl, rfl, hb1, ho1, hm1, hown1, hk0, hlt0⟩
  case round =>
    obtain ⟨k, hk, rfl, rfl, hR⟩ := hrel
    by_cases hlt : k < l.length
    · have HR := Lib.hid hR
      obtain ⟨hbr, hor, hmr, hrow, hkp, hsz⟩ := hR
      obtain ⟨g, rfl, hg, hc⟩ := own_cell hor hlt (keysV_get hlt)
      have d1 := two_cell1 hbr
      have hs := (hok _ (List.getElem_mem hlt)).1
      have hle := keptI_le q l k
      have HM := Lib.hid (hasI_of_uniq (by have := hmr.uniq; rw [List.drop_eq_getElem_cons hlt] at this; exact this))
      have HC : Hid (cnt (keptI q l k ++ l.drop k) l[k].1 = l[k].2) := by
        unfold Hid; rw [List.drop_eq_getElem_cons hlt]; exact cnt_mid HM.out.1
      have HB := Lib.hid hbr
      have HO := Lib.hid hor
      clear hbr hor
      cases hq : q l[k].2
      · have HQ := Lib.hid hq
        clear hq
        go_wp2_with (first
          | (at_lookup; refine wpl_lookN _ rfl _ _ 54 rfl hmr Try.underlying54 Try.underlying3 (zeroN _) rfl _ rfl hs ?_; rw [HC.out])
          | (at_delete; refine wpl_dropN _ rfl (.tmp 37) (.tmp 38) 54 rfl hmr Try.underlying54 rfl _ rfl hs ?_; intro w2 hmap2 hgrow2)
          | (go_at_call 94; refine (HF.out _ _).mono ?_; rintro e w3 ⟨rfl, rfl⟩; rw [HQ.out]))
        have hR' := keep_no HR.out hlt HQ.out hmap2 hgrow2 hBm HKK.out hml
        clear hmap2 hgrow2 hmr hrow d1 hc
        go_roundw
        case rel => exact ⟨k + 1, by omega, by go_num, by rw [keptI_no hlt HQ.out], hR'⟩
        case measure => simp [intOf]; omega
      · have HQ := Lib.hid hq
        clear hq
        go_wp2_with (first
          | (at_lookup; refine wpl_lookN _ rfl _ _ 54 rfl hmr Try.underlying54 Try.underlying3 (zeroN _) rfl _ rfl hs ?_; rw [HC.out])
          | (at_builtin; refine wpList_append_fits _ rfl _ _ 41 rfl w.heap.size 9 i0 1 Try.underlying41 hi hz1 w.heap.size (keptI q l k).length l.length (keysV (keptI q l k)) rfl (hrow.alloc _) ⟨wr.heap.size, 0, none⟩ 1 1 [.string l[k].1] rfl rfl (cell_one_new _ _ _) (by intro u hu; simp at hu; subst hu; rfl) (by omega) ?_; intro w2 hrow2 hgrow2)
          | (go_at_call 94; refine (HF.out _ _).mono ?_; rintro e w3 ⟨rfl, rfl⟩; rw [HQ.out]))
        have hR' := keep_yes HR.out hlt HQ.out hrow2 hgrow2 hNK HKK.out hml hbs hvl.out
        clear hrow2 hgrow2 hmr hrow d1 hc
        go_roundw
        case rel => exact ⟨k + 1, by omega, by go_num, by rw [keptI_yes hlt HQ.out]; simp, hR'⟩
        case measure => simp [intOf]; omega
    · obtain rfl : k = l.length := by omega
      have d0 := two_cell0 hR.1
      have f0 := two_free hR.1 0
      go_wp2
      go_end0
      exact ⟨rfl, keep_end hR hBt hBm hNK hbs⟩
set_option maxHeartbeats 1600000 in
set_option maxRecDepth 100000 in
theorem keepNz_any (K : Nat → Prop) (t : Nat) (l : List Itm) (q : Int → Bool) (w : World) (hK : ∀ k, K k → k < w.heap.size) (h : TallyAt K w t l) (hl : l.length ≤ 1048576) (hok : okI l)
    (hF : ∀ (n : Int) (w : World), Calls Try.prog 74 #[.int .i64 n] w fun e w' => e = .returned (.bool (q n)) ∧ w = w') :
    Calls Try.prog 73 #[.pointer (some ⟨t, 0, none⟩), .func (.func 74) #[] #[]] w (AddPost K t (l.filter fun x => q x.2) w) := by
  obtain ⟨v, mb, hb, hBt, hBm, hBv, hown, hmap⟩ := h
  have HV := Lib.hid hBv
  have HKK := Lib.hid hK
  have HF := Lib.hid hF
  clear hBv hK hF
  obtain ⟨i0, hi, hz0, hz1, hz2⟩ := info_parts Try.infoS
  have hbytes : i0.bytes * l.length ≤ 281474976710656 := by rw [hz2]; omega
  have c0 := two_cell0 hb
  have hbs := lt_of_block hb
  obtain ⟨ao, cap, rfl, hlc, hcm⟩ := own_slice hown
  go_enter Try.func73, Try.ntmps73
  go_wp2_with (at_make; refine wpList_make_own _ rfl _ _ 41 rfl w.heap.size 9 i0 _ 1 Try.underlying41 hi hz0 hz1 _ _ _ l.length rfl rfl rfl hbytes (by unfold maxLen; omega) (Nat.le_refl _) ?_; intro w1 hown1 hgrow1; have c0' := hgrow1.cell c0 (by simp))
  have hlt0 := (hown1.lt w.heap.size rfl).2
  have hk0 : Keeps K w w1 := (Keeps.refl _ _).grown hgrow1 HKK.out (fun k hk => by cases hk)
  have hb1 : w1.heap[t]? = some (.cells #[.slice ao l.length cap, .map (some mb)] 56 (0, 0)) := (hgrow1.block t hbs (by simp)).trans hb
  have ho1 := hown.kept hgrow1 (by cases hv : (Value.slice ao l.length cap).ownBlock <;> simp)
  have hm1 := hmap.kept hgrow1 (by simp)
  have hNK : ¬ K w.heap.size := fun h => Nat.lt_irrefl _ (HKK.out _ h)
  have hvl := Lib.hid (fun g hg => (hown.lt g hg).2)
  have hml := hmap.lt
  clear hgrow1 hown hmap hb c0 c0'
  go_loopw [18, 4] (fun i x wr => ∃ k : Nat, k ≤ l.length ∧ i = .int .i64 k ∧ x = .slice (some ⟨w.heap.size, 0, none⟩) (keptI q l k).length l.length ∧ KeepRel K w wr t mb (.slice ao l.length cap) l q k) (fun i _ _ => l.length - (intOf i).toNat)
  case atStart => exact ⟨0, Nat.zero_le _, rfl, rfl, hb1, ho1, hm1, hown1, hk0, hlt0⟩
  case round =>
    obtain ⟨k, hk, rfl, rfl, hR⟩ := hrel
    by_cases hlt : k < l.length
    · have HR := Lib.hid hR
      obtain ⟨hbr, hor, hmr, hrow, hkp, hsz⟩ := hR
      obtain ⟨g, rfl, hg, hc⟩ := own_cell hor hlt (keysV_get hlt)
      have d1 := two_cell1 hbr
      have hs := (hok _ (List.getElem_mem hlt)).1
      have hle := keptI_le q l k
      have HM := Lib.hid (hasI_of_uniq (by have := hmr.uniq; rw [List.drop_eq_getElem_cons hlt] at this; exact this))
      have HC : Hid (cnt (keptI q l k ++ l.drop k) l[k].1 = l[k].2) := by
        unfold Hid; rw [List.drop_eq_getElem_cons hlt]; exact cnt_mid HM.out.1
      have HB := Lib.hid hbr
      have HO := Lib.hid hor
      clear hbr hor
      cases hq : q l[k].2
      · have HQ := Lib.hid hq
        clear hq
        go_wp2_with (first
          | (at_lookup; refine wpl_lookN _ rfl _ _ 54 rfl hmr Try.underlying54 Try.underlying3 (zeroN _) rfl _ rfl hs ?_; rw [HC.out])
          | (at_delete; refine wpl_dropN _ rfl (.tmp 37) (.tmp 38) 54 rfl hmr Try.underlying54 rfl _ rfl hs ?_; intro w2 hmap2 hgrow2)
          | (go_at_call 74; refine (HF.out _ _).mono ?_; rintro e w3 ⟨rfl, rfl⟩; rw [HQ.out]))
        have hR' := keep_no HR.out hlt HQ.out hmap2 hgrow2 hBm HKK.out hml
        clear hmap2 hgrow2 hmr hrow d1 hc
        go_roundw
        case rel => exact ⟨k + 1, by omega, by go_num, by rw [keptI_no hlt HQ.out], hR'⟩
        case measure => simp [intOf]; omega
      · have HQ := Lib.hid hq
        clear hq
        go_wp2_with (first
          | (at_lookup; refine wpl_lookN _ rfl _ _ 54 rfl hmr Try.underlying54 Try.underlying3 (zeroN _) rfl _ rfl hs ?_; rw [HC.out])
          | (at_builtin; refine wpList_append_fits _ rfl _ _ 41 rfl w.heap.size 9 i0 1 Try.underlying41 hi hz1 w.heap.size (keptI q l k).length l.length (keysV (keptI q l k)) rfl (hrow.alloc _) ⟨wr.heap.size, 0, none⟩ 1 1 [.string l[k].1] rfl rfl (cell_one_new _ _ _) (by intro u hu; simp at hu; subst hu; rfl) (by omega) ?_; intro w2 hrow2 hgrow2)
          | (go_at_call 74; refine (HF.out _ _).mono ?_; rintro e w3 ⟨rfl, rfl⟩; rw [HQ.out]))
        have hR' := keep_yes HR.out hlt HQ.out hrow2 hgrow2 hNK HKK.out hml hbs hvl.out
        clear hrow2 hgrow2 hmr hrow d1 hc
        go_roundw
        case rel => exact ⟨k + 1, by omega, by go_num, by rw [keptI_yes hlt HQ.out]; simp, hR'⟩
        case measure => simp [intOf]; omega
    · obtain rfl : k = l.length := by omega
      have d0 := two_cell0 hR.1
      have f0 := two_free hR.1 0
      go_wp2
      go_end0
      exact ⟨rfl, keep_end hR hBt hBm hNK hbs⟩
end Go.Proofs.Ytloalakpkjbeaaa
