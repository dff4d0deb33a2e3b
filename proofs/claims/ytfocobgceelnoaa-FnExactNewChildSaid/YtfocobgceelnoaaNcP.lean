/-
  A new child, by the program.
-/
import Derived.Test.YtfocobgceelnoaaJnS
namespace Go.Proofs.Ytfocobgceelnoaa
open Go.RowKit

theorem wpl_append_items2 (w : World) {ops : Array Oper} {rest : List Oper} {o : Oper} {a : Act} {Q : Exit → Act → World → Prop} (hgd : o.guard = none) (s x : Operand)
    (ho : o.op = .call { callee := .builtin .append, args := #[s, x], argTypes := #[34, 34] })
    (base : Nat) (v : Value) (n : Nat) (xs : List Value) (hs : a.eval s = v) (hown : w.ownsRow base 66 2 v n xs)
    (u : Value) (ys : List Itm) (hx : a.eval x = u) (hy : Items w u ys) (hn : n ≤ 1000000) (hm : ys.length ≤ 2000000) (hbase : base ≤ w.heap.size)
    (h : ∀ v' w', w'.ownsRow base 66 2 v' (n + ys.length) (xs ++ cellsI ys) → w.grownBy w' v.ownBlock → wpList Try.prog ops Q rest (a.put o.dst v') w') : wpList Try.prog ops Q (o :: rest) a w := by
  obtain ⟨i0, hi0, hz0, hz1, hz2⟩ := info_parts Try.infoI
  have hy0 := hy
  obtain ⟨ao, cap, rfl, hlc, hcm, hok, hcell⟩ := hy
  cases ao with
  | none =>
    have hx0 : ys = [] := by
      cases ys with
      | nil => rfl
      | cons y r => obtain ⟨b, o, e, _⟩ := hcell 0 (by simp); cases e
    subst hx0
    refine wpl_append_nothing w hgd s x 34 ho base 66 i0 2 Try.underlying34 hi0 v n xs hs hown cap hx ?_
    refine h v w ?_ (World.grownBy.refl _ _)
    have e : cellsI [] = [] := rfl
    rw [e, List.append_nil]
    exact hown
  | some ad =>
    obtain ⟨b, o', sp⟩ := ad
    exact wpList_append_own w hgd s x 34 ho base 66 i0 (.agg #[.string ⟨#[]⟩, .int .i64 0]) 2 24 Try.underlying34 hi0 hz0 hz1 hz2 rfl (by decide) v n xs hs hown ⟨b, o', sp⟩ ys.length cap (cellsI ys) hx (cellsI_length ys) hy0.news (cellsI_one ys) (by unfold maxLen; omega) (by omega) hbase (fun v' w' h1 h2 _ => h v' w' h1 h2)

set_option maxHeartbeats 1600000 in
set_option maxRecDepth 100000 in
theorem slClone_big (v : Value) (xs : List Itm) (w : World) (h : Items w v xs) (hn : xs.length ≤ 2000000) :
    Calls Try.prog 90 #[v] w (FreshI xs w) := by
  have h0 := Lib.hid h
  have hok := Lib.hid h.ok
  obtain ⟨ao, cap, rfl, hlc, hcm, _, hcell⟩ := h
  cases ao with
  | none =>
    have hx : xs = [] := by
      cases xs with
      | nil => rfl
      | cons x r => obtain ⟨b, o, e, _⟩ := hcell 0 (by simp); cases e
    subst hx
    clear hcell
    have hn1 := fun (w : World) a n c => Lib.run_eql_slice_nil (P := Try.prog) w 34 66 a n c 0 0 Try.underlying34
    go_enter Try.func90, Try.ntmps90
    go_wp2
    go_ret
    exact ⟨_, rfl, OwnI_nil _ _ _, Below.refl _ _⟩
  | some ad =>
    obtain ⟨b, o, sp⟩ := ad
    clear hcell
    have hown := World.ownsRow_lit (base := w.heap.size) (e := 66) (size := 2) w #[] 0 (Nat.le_refl _) (by unfold maxLen; omega) rfl
    have hn1 := fun (w : World) a n c => Lib.run_eql_slice_nil (P := Try.prog) w 34 66 a n c 0 0 Try.underlying34
    go_enter Try.func90, Try.ntmps90
    go_wp2_with (at_builtin; refine wpl_append_items2 _ rfl _ _ rfl w.heap.size (.slice (some ⟨w.heap.size, 0, none⟩) 0 0) 0 [] rfl hown (.slice (some ⟨b, o, sp⟩) xs.length cap) xs rfl (h0.out.mono ((Below.refl _ _).alloc (Nat.le_refl _) _) (Nat.le_refl _)) (by omega) (by omega) (by simp) ?_; intro v' w1 hown1 hgrow1)
    go_ret
    refine ⟨_, rfl, ⟨?_, hok.out⟩, ((Below.refl _ _).alloc (Nat.le_refl _) _).grown hgrow1 (by simp) (fun k hk => by simp [Value.ownBlock] at hk; omega)⟩
    simpa using hown1

set_option maxHeartbeats 1600000 in
set_option maxRecDepth 100000 in
theorem copied_big (v : Value) (ls : List (List Itm)) (w : World) (h : Maps w v ls) (hn : ls.length ≤ 100000) (hm : tot ls ≤ 2000000) :
    Calls Try.prog 69 #[v] w (NewM (fun v => .agg #[v]) ls w) := by
  have hM := Lib.hid h
  obtain ⟨ao, cap, rfl, hlc, hcm⟩ := h.slice
  clear h
  obtain ⟨i0, hi, hz0, hz1, hz2⟩ := info_parts Try.infoII
  have hbytes : i0.bytes * ls.length ≤ 281474976710656 := by rw [hz2]; omega
  go_enter Try.func69, Try.ntmps69
  have HA : Hid (Below w.heap.size w (w.alloc (.cells #[.slice none 0 0] 30))) := (Below.refl _ _).alloc (Nat.le_refl _) _
  have HF := Lib.hid (One.new w 30 (.slice none 0 0))
  go_wp2_with (at_make; refine wpList_make_full _ rfl _ _ 28 rfl (w.heap.size + 1) 34 i0 _ 1 Try.underlying28 hi hz0 hz1 _ _ _ _ ls.length rfl rfl rfl rfl hbytes (by unfold maxLen; omega) (by simp) ?_; intro w0 hown0 hgrow0)
  simp at hown0
  have hb0 : Below (w.heap.size + 1) (w.alloc (.cells #[.slice none 0 0] 30)) w0 := (Below.refl _ _).grown hgrow0 (by simp) (fun k hk => by cases hk)
  have hB0 : w.heap.size + 2 ≤ w0.heap.size := by have := (hown0.lt (w.heap.size + 1) rfl).2; omega
  have HOW0 := Lib.hid (hown0.alloc (.cells #[.slice (some ⟨w.heap.size + 1, 0, none⟩) ls.length ls.length] 30))
  have HBW0 : Hid (Below w.heap.size w (w0.alloc (.cells #[.slice (some ⟨w.heap.size + 1, 0, none⟩) ls.length ls.length] 30))) := (HA.out.trans (hb0.mono (by omega))).alloc (by omega) _
  have HF0 := Lib.hid (HF.out.below (hb0.alloc (by omega) (.cells #[.slice (some ⟨w.heap.size + 1, 0, none⟩) ls.length ls.length] 30)) (by omega))
  have HFN := Lib.hid (One.new w0 30 (.slice (some ⟨w.heap.size + 1, 0, none⟩) ls.length ls.length))
  generalize hg0 : w0.heap.size = B0 at *
  clear hown0 hgrow0 hb0 HF HA
  go_loopw [12] (fun i wr => ∃ (k : Nat) (us zs : List Value), k ≤ ls.length ∧ i = .int .i64 k ∧ Hid (Below w.heap.size w wr) ∧ Hid (One wr w.heap.size 30 (.slice none 0 0)) ∧ Hid (One wr B0 30 (.slice (some ⟨w.heap.size + 1, 0, none⟩) ls.length ls.length)) ∧
      Hid (us.length = k) ∧ Hid (zs.length = ls.length - k) ∧ Hid (wr.ownsRow (w.heap.size + 1) 34 1 (.slice (some ⟨w.heap.size + 1, 0, none⟩) ls.length ls.length) ls.length (us ++ zs)) ∧ Hid (RowsZ (B0 + 1) wr.heap.size wr us (ls.take k)) ∧ B0 + 1 ≤ wr.heap.size) (fun i _ => ls.length - (intOf i).toNat)
  case atStart => exact ⟨0, [], _, Nat.zero_le _, rfl, HBW0.out, HF0.out, HFN.out, rfl, by unfold Hid; simp [size_madeCells], HOW0.out, RowsZ.nil _ _ _, by simp [hg0]⟩
  case round =>
    obtain ⟨k, us, zs, hk, rfl, HB, HF1, HF2, HU, HZL, HR, HZ, hsz⟩ := hrel
    by_cases hlt : k < ls.length
    · obtain ⟨b, o, cap', u, e, hb, h1, hI⟩ := hM.out.at hlt
      simp only [Value.slice.injEq] at e
      obtain ⟨rfl, _, rfl⟩ := e
      have c1 := (HB.out.cell (p := ⟨b, _, none⟩) hb).trans h1
      have HI := Lib.hid (hI.mono HB.out (Nat.le_refl _))
      have hle := tot_le hlt
      have d0 := HF2.out.cell
      clear h1 hI
      go_wp2_with fail
      go_region_law (first
        | (go_simp; go_at_call 90; refine (slClone_big _ _ _ (Items.drew HI.out) (by omega)).mono ?_; rintro e w1 ⟨v1, rfl, ho1, hb1⟩; have hF3 := HF2.out.below (Below.undrew hb1) HF2.out.lt; have c3 := hF3.cell; obtain ⟨xo, xcap, rfl, _, _⟩ := own_slice ho1.1; have hown1 := ownsRow_below HR.out (Below.undrew hb1) (Nat.le_refl _); obtain ⟨u0, c5⟩ := row_cell hown1 (j := k) (by omega); have f5 := hown1.frozenAt k))
      all_goals
        have hw1 : wr.heap.size ≤ w1.heap.size := hb1.size
        obtain ⟨zs', hzl', hown'⟩ := row_next (u := .slice xo ls[k].length xcap) hlt HU.out HZL.out hown1
        have hZ1 := ((HZ.out.keeps (Keeps.of_below (Below.undrew hb1) (fun j hj => hj.2))).snoc (RowZ.of ho1) (by exact hsz) (Nat.le_refl _) hw1).keeps ((Keeps.refl _ _).boxset (a := ⟨w.heap.size + 1, k, none⟩) (by simp; omega) (.slice xo ls[k].length xcap))
        have e2 : ls.take k ++ [ls[k]] = ls.take (k + 1) := (List.take_succ_eq_append_getElem hlt).symm
        rw [e2] at hZ1
        have hszz : w1.heap.size ≤ (w1.setCell ⟨w.heap.size + 1, k, none⟩ (.slice xo ls[k].length xcap)).heap.size := by simp
        have HZ' := Lib.hid (hZ1.wide (Nat.le_refl _) hszz)
        have hbA := Below.undrew hb1
        have HB' : Hid (Below w.heap.size w (w1.setCell ⟨w.heap.size + 1, k, none⟩ (.slice xo ls[k].length xcap))) := (HB.out.trans (hbA.mono HB.out.size)).setCell (by simp) _
        have hkA : Keeps (fun j => j < wr.heap.size ∧ j ≠ w.heap.size + 1) wr (w1.setCell ⟨w.heap.size + 1, k, none⟩ (.slice xo ls[k].length xcap)) := (Keeps.of_below hbA (fun j hj => hj.1)).setCell (fun h => h.2 rfl) _
        have HF1' := Lib.hid (HF1.out.keeps hkA ⟨HF1.out.lt, by omega⟩)
        have HF2' := Lib.hid (HF2.out.keeps hkA ⟨HF2.out.lt, by omega⟩)
        have HR' := Lib.hid hown'
        have HZL' := Lib.hid hzl'
        have HU' : Hid ((us ++ [Value.slice xo ls[k].length xcap]).length = k + 1) := by unfold Hid; simp [HU.out]
        clear hZ1 hown1 hF3 c3 c5 f5 hbA hkA hb1 ho1 e2 c1 d0 hown' hzl'
        go_wp2
        go_roundw
        case rel => exact ⟨k + 1, _, _, by omega, by go_num, HB', HF1', HF2', HU', HZL', HR', HZ', by simp; omega⟩
        case measure => simp [intOf]; omega
    · obtain rfl : k = ls.length := by omega
      obtain rfl : zs = [] := List.eq_nil_of_length_eq_zero (by rw [HZL.out]; simp)
      have d0 := HF2.out.cell
      have e0 := HF1.out.cell
      have f0 := HF1.out.free
      have hz := HZ.out
      rw [List.take_length] at hz
      have HZZ := Lib.hid hz
      have hr := HR.out
      rw [List.append_nil] at hr
      have HRR := Lib.hid hr
      clear hr hz
      go_wp2
      exact bodyPost_ret (v := .agg #[.slice (some ⟨w.heap.size + 1, 0, none⟩) ls.length ls.length]) (by simp [results, Try.results69, go_sem, e0]) rfl ⟨_, rfl, by
        refine ⟨us, .inl ⟨?_, fun g hg => ?_⟩, ?_⟩
        · rw [HU.out]
          exact ownsRow_base (((Keeps.refl (fun j => w.heap.size + 1 ≤ j) wr).past (by simp) _).own HRR.out (fun g hg => (own_range HRR.out hg).1)) (by omega)
        · have := (own_range HRR.out hg).2
          simpa using this
        · exact (HZZ.out.keeps ((Keeps.refl _ _).boxset (by simp; omega) _)).wide (by omega) (by simp), HB.out.setCell (by simp) _⟩

set_option maxHeartbeats 1600000 in
set_option maxRecDepth 100000 in
theorem checkedChain_big (v : Value) (ls : List (List Itm)) (w : World) (h : Maps w v ls) (hn : ls.length ≤ 100000) (hm : tot ls ≤ 2000000) :
    Calls Try.prog 60 #[v] w (NewM (fun v => okV v (validC ls)) (ifM (validC ls) ls) w) := by
  have hM := Lib.hid h
  obtain ⟨ao, cap, rfl, hlc, hcm⟩ := h.slice
  clear h
  go_enter Try.func60, Try.ntmps60
  have HA : Hid (Below w.heap.size w (w.alloc (.cells #[.slice none 0 0] 30))) := (Below.refl _ _).alloc (Nat.le_refl _) _
  have F0 := Lib.hid (One.new w 30 (.slice none 0 0))
  go_wp2_with fail
  refine (copied_big _ ls _ (hM.out.mono HA.out (Nat.le_refl _)) hn hm).mono ?_
  rintro e w1 ⟨v1, rfl, ho1, hb1⟩
  obtain ⟨xo, xc, rfl, _, _⟩ := ho1.slice
  have hs1 := hb1.size
  simp at hs1
  have HB1 := Lib.hid (HA.out.trans (hb1.mono (by simp)))
  have G0 := Lib.hid (F0.out.below hb1 (by simp))
  have HO1 := Lib.hid (ho1.keeps ((Keeps.refl _ w1).alloc (fun j hj => hj.2) (.cells #[.slice xo ls.length xc] 30)))
  have hbA : Below w1.heap.size w1 (w1.alloc (.cells #[.slice xo ls.length xc] 30)) := (Below.refl _ _).alloc (Nat.le_refl _) _
  have HB2 := Lib.hid (HB1.out.trans (hbA.mono (by omega)))
  have G2 := Lib.hid (G0.out.below hbA (by omega))
  have N2 := Lib.hid (One.new w1 30 (.slice xo ls.length xc))
  have c1 := N2.out.cell
  clear hb1 ho1 hbA
  cases hv : validC ls
  all_goals
    have HV := Lib.hid hv
    clear hv
    go_wp2_with fail
    refine (vC_v _ HO1.out.maps HV.out).mono ?_
    rintro e w2 ⟨rfl, hb2⟩
    have hs2 := hb2.size
    simp at hs2
    have HB3 := Lib.hid (HB2.out.trans (hb2.mono (by simp; omega)))
    have G3 := Lib.hid (G2.out.below hb2 (by simp; omega))
    have N3 := Lib.hid (N2.out.below hb2 (by simp))
    have e0 := G3.out.cell
    have f0 := G3.out.free
    have c2 := N3.out.cell
    have HO3 := Lib.hid (HO1.out.keeps (Keeps.of_below hb2 (fun j hj => by have := hj.2; simp; omega)))
    clear hb2 c1
    go_wp2
  · have HB : Hid (Below w.heap.size w (w2.setCell ⟨w.heap.size, 0, none⟩ (.slice none 0 0))) := HB3.out.setCell (by simp <;> omega) _
    exact bodyPost_ret (v := okV (.slice none 0 0) false) (by simp [okV, results, Try.results60, go_sem, e0]) rfl ⟨.slice none 0 0, by rw [HV.out], by rw [HV.out]; exact OwnM.nil _ _ _, HB.out⟩
  · have HB : Hid (Below w.heap.size w (w2.setCell ⟨w.heap.size, 0, none⟩ (.slice xo ls.length xc))) := HB3.out.setCell (by simp <;> omega) _
    exact bodyPost_ret (v := okV (.slice xo ls.length xc) true) (by simp [okV, results, Try.results60, go_sem, e0]) rfl ⟨.slice xo ls.length xc, by rw [HV.out], by rw [HV.out]; exact (HO3.out.keeps ((Keeps.refl _ _).boxset (by simp) _)).wide (by simp) (by simp; omega), HB.out⟩

def ncB (a : List (List Itm)) (b : List Itm) : Bool := validC a && validC (b :: a)
theorem nc_le (a : List (List Itm)) (b : List Itm) : tot (ifM (ncB a b) (b :: a)) ≤ 10000000 := ifM_le fun h => by
  unfold ncB at h
  rw [Bool.and_eq_true] at h
  have h1 := tot_mem h.2
  omega
/-- A row of one list, in a block of its own. -/
theorem maps_one {w : World} {u : Value} {l : List Itm} (h : Items w u l) : Maps (w.alloc (.cells #[u] 34)) (.slice (some ⟨w.heap.size, 0, none⟩) 1 1) [l] := by
  have hb : Below w.heap.size w (w.alloc (.cells #[u] 34)) := (Below.refl _ _).alloc (Nat.le_refl _) _
  refine ⟨[u], rfl, ⟨_, 1, rfl, Nat.le_refl _, by omega, fun k x hx => ?_⟩, fun k x m hx hm => ?_⟩
  · match k, hx with
    | 0, hx => simp at hx; subst hx; exact ⟨w.heap.size, 0, rfl, by simp, trivial, by simp⟩
    | k + 1, hx => simp at hx
  · match k, hx, hm with
    | 0, hx, hm => simp at hx hm; subst hx hm; exact ⟨h.mono hb (Nat.le_refl _), fun _ _ _ _ _ => trivial⟩
    | k + 1, hx, _ => simp at hx

set_option maxHeartbeats 1600000 in
set_option maxRecDepth 100000 in
theorem NewChild_any (va vb : Value) (a : List (List Itm)) (b : List Itm) (w : World) (ha : Maps w va a) (hb : Items w vb b) (hbn : b.length ≤ 1048576) :
    Calls Try.prog 18 #[.agg #[va], vb] w (NewM (fun v => okV v (ncB a b)) (ifM (ncB a b) (b :: a)) w) := by
  have hMa := Lib.hid ha
  have hMb := Lib.hid hb
  obtain ⟨ao, ac, rfl, _, _⟩ := ha.slice
  obtain ⟨bo, bc, rfl, _, _⟩ : ∃ ao cap, vb = .slice ao b.length cap ∧ b.length ≤ cap ∧ cap ≤ 9223372036854775807 := by
    obtain ⟨ao, cap, e, h1, h2, _⟩ := hb
    exact ⟨ao, cap, e, h1, h2⟩
  clear ha hb
  go_enter Try.func18, Try.ntmps18
  have HA : Hid (Below w.heap.size w ((w.alloc (.cells #[.slice ao a.length ac] 30)).alloc (.cells #[.slice none 0 0] 30))) := ((Below.refl _ _).alloc (Nat.le_refl _) _).alloc (by simp) _
  have F0 := Lib.hid ((One.new w 30 (.slice ao a.length ac)).below (B := w.heap.size + 1) ((Below.refl _ _).alloc (by simp) (.cells #[.slice none 0 0] 30)) (by omega))
  have F1' := One.new (w.alloc (.cells #[.slice ao a.length ac] 30)) 30 (.slice none 0 0)
  simp at F1'
  have F1 := Lib.hid F1'
  clear F1'
  have c0 := F0.out.cell
  cases hva : validC a
  all_goals
    have HVA := Lib.hid hva
    clear hva
    go_wp2_with fail
    refine (vC_v _ (hMa.out.mono HA.out (Nat.le_refl _)) HVA.out).mono ?_
    rintro e w1 ⟨rfl, hb1⟩
    have hs1 := hb1.size
    simp at hs1 hb1
    have HB1 := Lib.hid (HA.out.trans (hb1.mono (by omega)))
    have G0 := Lib.hid (F0.out.below hb1 (by omega))
    have G1 := Lib.hid (F1.out.below hb1 (by omega))
    clear hb1 c0
    have e0 := G1.out.cell
    have f0 := G1.out.free
  · have HB : Hid (Below w.heap.size w (w1.setCell ⟨w.heap.size + 1, 0, none⟩ (.slice none 0 0))) := HB1.out.setCell (by simp <;> omega) _
    have HJ : Hid (ncB a b = false) := by show _ = _; unfold ncB; rw [HVA.out]; rfl
    go_wp2
    exact bodyPost_ret (v := okV (.slice none 0 0) false) (by simp [okV, results, Try.results18, go_sem, e0]) rfl ⟨.slice none 0 0, by rw [HJ.out], by rw [HJ.out]; exact OwnM.nil _ _ _, HB.out⟩
  · have hla := validC_iff.1 HVA.out
    have hta := tot_mem HVA.out
    have hla4 : a.length ≤ 4 := hla.2.2
    have htab : tot (b :: a) = b.length + tot a := rfl
    have hlab : (b :: a).length = a.length + 1 := rfl
    clear hla
    have hbx : Below w1.heap.size w1 (w1.alloc (.cells #[.slice bo b.length bc] 34)) := (Below.refl _ _).alloc (Nat.le_refl _) _
    have HBX := Lib.hid (HB1.out.trans (hbx.mono (by omega)))
    have HM1 := Lib.hid (maps_one (hMb.out.mono HB1.out (Nat.le_refl _)))
    have hX0 := G0.out.below hbx G0.out.lt
    have HX1 := Lib.hid (G1.out.below hbx G1.out.lt)
    have c0 := hX0.cell
    have HMA := Lib.hid (hMa.out.mono HBX.out (Nat.le_refl _))
    have hszx : (w1.alloc (.cells #[.slice bo b.length bc] 34)).heap.size = w1.heap.size + 1 := by simp
    clear hX0 e0 f0 hbx
    have HCC := Lib.hid (ConcatM2_any _ _ [b] a _ HM1.out HMA.out (by simp) (by omega))
    rw [hszx] at HCC
    go_wp2_with fail
    refine (HCC.out).mono ?_
    rintro e w3 ⟨v3, rfl, hM3, hb3⟩
    have hs3 := hb3.size
    go_wp2_with fail
    refine (checkedChain_big v3 (b :: a) w3 hM3 (by omega) (by omega)).mono ?_
    rintro e w4 ⟨v4, rfl, ho4, hb4⟩
    have hb34 := hb3.trans (hb4.mono (by omega))
    have HB4 := Lib.hid (HBX.out.trans (hb34.mono (by omega)))
    have Q1 := Lib.hid (HX1.out.below hb34 (by omega))
    have hs4 := hb34.size
    obtain ⟨xo, L, xc, rfl⟩ := ho4.shape
    have HO4 := Lib.hid ho4
    have HJ : Hid (ncB a b = validC (b :: a)) := by show _ = _; unfold ncB; rw [HVA.out]; rfl
    clear hb3 hb4 hb34 ho4 c0 hM3
    have e0 := Q1.out.cell
    have f0 := Q1.out.free
    generalize validC (b :: a) = q at *
    have HB : Hid (Below w.heap.size w (w4.setCell ⟨w.heap.size + 1, 0, none⟩ (.slice xo L xc))) := HB4.out.setCell (by simp <;> omega) _
    go_wp2
    exact bodyPost_ret (v := okV (.slice xo L xc) q) (by simp [okV, results, Try.results18, go_sem, e0]) rfl ⟨.slice xo L xc, by rw [HJ.out], by rw [HJ.out]; exact (HO4.out.keeps ((Keeps.refl _ _).boxset (by simp; omega) _)).wide (by omega) (by simp), HB.out⟩
end Go.Proofs.Ytfocobgceelnoaa
