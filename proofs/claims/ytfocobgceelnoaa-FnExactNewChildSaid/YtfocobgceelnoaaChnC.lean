/-
  A chain copied by the model; lists appended to a row of lists.
-/
import Derived.Test.YtfocobgceelnoaaChnV
import Derived.Test.YtfocobgceelnoaaSpecR
import Derived.Test.YtfocobgceelnoaaSOrd
import Derived.Deep.RegionLaw
import Derived.Deep.RegionHeld3
namespace Go.Proofs.Ytfocobgceelnoaa
open Go.RowKit

/-- Lists appended, as one step of a region that draws its order. -/
theorem step_append_rows (w : World) {ops : Array Oper} {o : Oper} {a : Act} {K : Act → World → Prop} {Q : Exit → Act → World → Prop} {E : Prop} (hgd : o.guard = none) (s x : Operand)
    (ho : o.op = .call { callee := .builtin .append, args := #[s, x], argTypes := #[28, 28] })
    (base : Nat) (v : Value) (n : Nat) (us : List Value) (hs : a.eval s = v) (hown : w.ownsRow base 34 1 v n us)
    (ad : Addr) (len cap : Nat) (news : List Value) (hx : a.eval x = .slice (some ad) len cap) (hl : news.length = len) (hnews : ∀ j u, news[j]? = some u → w.cell? (ad.add j) = some u) (hone : ∀ u ∈ news, u.oneCell' = true)
    (hn : n ≤ 1000000) (hm : len ≤ 1000000) (hbase : base ≤ w.heap.size)
    (h : ∀ v' w', w'.ownsRow base 34 1 v' (n + len) (us ++ news) → w.grownBy w' v.ownBlock → K (a.put o.dst v') w') :
    if Region.wanted o (yielded ops a.tmps) = true then Oper.wp Try.prog o a w K Q else E := by
  have hw : Region.wanted o (yielded ops a.tmps) = true := by simp [Region.wanted, hgd]
  rw [if_pos hw]
  obtain ⟨i0, hi0, hz0, hz1, hz2⟩ := info_parts Try.infoII
  obtain ⟨v', w', hrun, r1, r2, _⟩ := run_append_own (P := Try.prog) w base 28 o.type 34 i0 (.slice none 0 0) 1 24 Try.underlying28 hi0 hz0 hz1 hz2 rfl (by decide) v n us hown ad len cap news (by omega) hnews hone (by unfold maxLen; omega) (by omega) hbase
  unfold Oper.wp
  simp [execOp, ho, resolve, invoke, builtin, hs, hx, hrun, Result.andThen]
  exact h v' w' r1 r2

theorem RowsZ.grown {lo hi : Nat} {w w' : World} {us : List Value} {ls : List (List Itm)} {B n : Nat} {v : Value} {xs : List Value} (h : RowsZ lo hi w us ls) (ho : w.ownsRow B 34 1 v n xs) (hg : w.grownBy w' v.ownBlock) : RowsZ lo hi w' us ls := by
  refine ⟨h.len, fun k u l hu hl => ?_, h.apart⟩
  have hr := h.row k u l hu hl
  refine ⟨?_, hr.2⟩
  rcases hr.1.cases with ⟨hne, hi⟩ | h0
  · refine .inl ⟨?_, hi.2⟩
    have hk : Keeps (fun j => j < w.heap.size ∧ v.ownBlock ≠ some j) w w' := ⟨hg.os, hg.tape, hg.output, hg.size, fun j hj => hg.block j hj.1 (fun e => hj.2 e.symm)⟩
    refine hk.own hi.1 (fun g hgg => ⟨(own_range hi.1 hgg).2, fun e => ?_⟩)
    exact (hr.notE ho g e).2 hne hgg
  · exact .inr h0
theorem grownBy_below {B : Nat} {w w' : World} {v : Value} {E S n : Nat} {xs : List Value} (ho : w.ownsRow B E S v n xs) (hg : w.grownBy w' v.ownBlock) : Below B w w' ∨ w.heap.size < B := by
  by_cases hB : B ≤ w.heap.size
  · exact .inl ((Below.refl _ _).grown hg hB (fun j hj => (own_range ho hj).1))
  · exact .inr (by omega)
theorem one_slice (w : World) (u : Value) (T : Nat) : ∀ (j : Nat) (x : Value), [u][j]? = some x → (w.alloc (.cells #[u] T)).cell? ((⟨w.heap.size, 0, none⟩ : Addr).add j) = some x := by
  intro j x hx
  match j, hx with
  | 0, hx => simp at hx; subst hx; simp [Addr.add]
  | j + 1, hx => simp at hx

set_option maxHeartbeats 1600000 in
set_option maxRecDepth 100000 in
theorem scopyChain_any (v : Value) (ls : List (List Itm)) (w : World) (h : Maps w v ls) (hn : ls.length ≤ 100000) (hm : tot ls ≤ 1000000) :
    Calls Try.prog 55 #[.agg #[v]] w (NewM (fun v => .agg #[v]) ls w) := by
  have hM := Lib.hid h
  obtain ⟨ao, cap, rfl, hlc, hcm⟩ := h.slice
  clear h
  go_enter Try.func55, Try.ntmps55
  have HA : Hid (Below w.heap.size w (((w.alloc (.cells #[.slice ao ls.length cap] 30)).alloc (.cells #[.slice none 0 0] 30)).alloc (.cells #[.slice none 0 0] 30))) := (((Below.refl _ _).alloc (Nat.le_refl _) _).alloc (by simp) _).alloc (by simp <;> omega) _
  have F0 := (One.new w 30 (.slice ao ls.length cap)).below (B := w.heap.size + 1) (((Below.refl _ _).alloc (by simp) (.cells #[.slice none 0 0] 30)).alloc (by simp <;> omega) (.cells #[.slice none 0 0] 30)) (by omega)
  have F1 := (One.new (w.alloc (.cells #[.slice ao ls.length cap] 30)) 30 (.slice none 0 0)).below (B := w.heap.size + 2) ((Below.refl _ _).alloc (by simp) (.cells #[.slice none 0 0] 30)) (by simp)
  have F2 := One.new ((w.alloc (.cells #[.slice ao ls.length cap] 30)).alloc (.cells #[.slice none 0 0] 30)) 30 (.slice none 0 0)
  simp at F1 F2
  go_wp2_with fail
  go_loopw [4] (fun i wr => ∃ (k : Nat) (us : List Value) (v' : Value), k ≤ ls.length ∧ i = .int .i64 k ∧ Hid (Below w.heap.size w wr) ∧ Hid (One wr w.heap.size 30 (.slice ao ls.length cap)) ∧ Hid (One wr (w.heap.size + 1) 30 (.slice none 0 0)) ∧ Hid (One wr (w.heap.size + 1 + 1) 30 v') ∧
      Hid (us.length = k) ∧ Hid (wr.ownsRow (w.heap.size + 1 + 1 + 1) 34 1 v' k us) ∧ Hid (RowsZ (w.heap.size + 1 + 1 + 1) wr.heap.size wr us (ls.take k)) ∧ w.heap.size + 1 + 1 + 1 ≤ wr.heap.size) (fun i _ => ls.length - (intOf i).toNat)
  case atStart => exact ⟨0, [], _, Nat.zero_le _, rfl, HA.out, F0, F1, F2, rfl, World.ownsRow_nil _ _ _ _, RowsZ.nil _ _ _, by simp⟩
  case round =>
    obtain ⟨k, us, v', hk, rfl, HB, HF0, HF1, HF2, HU, HR, HZ, hsz⟩ := hrel
    have a0 := HF0.out.cell
    clear F0 F1 F2
    by_cases hlt : k < ls.length
    · obtain ⟨b, o, cap', u, e, hb, h1, hI⟩ := hM.out.at hlt
      simp only [Value.slice.injEq] at e
      obtain ⟨rfl, _, rfl⟩ := e
      have c1 := (HB.out.cell (p := ⟨b, _, none⟩) hb).trans h1
      have HI := Lib.hid (hI.mono HB.out (Nat.le_refl _))
      have hle := tot_le hlt
      have hr := HR.out
      obtain ⟨vo, vc, rfl, hvc, hvm⟩ := own_slice hr
      have d0 := HF2.out.cell
      clear h1 hI hr
      go_wp2_with fail
      go_region_law (first
        | (go_simp; go_at_call 56; refine (copyItems_any _ _ _ (Items.drew HI.out) (by omega)).mono ?_; rintro e w1 ⟨v1, rfl, ho1, hb1⟩; have hF3 := HF2.out.below (Below.undrew hb1) HF2.out.lt; have c3 := hF3.cell; have c3a := fun ob : Go.Obj => (hF3.below ((Below.refl w1.heap.size w1).alloc (Nat.le_refl _) ob) hF3.lt).cell; obtain ⟨xo, xcap, rfl, _, _⟩ := own_slice ho1.1)
        | (refine step_append_rows _ rfl (.tmp 14) (.tmp 21) rfl _ _ _ us (by simp [Act.eval]) (ownsRow_below HR.out ((Below.undrew hb1).alloc hb1.size _) (Nat.le_refl _)) ⟨w1.heap.size, 0, none⟩ 1 1 [.slice xo ls[k].length xcap] (by simp [Act.eval]) rfl (one_slice _ _ _) (by simp [Value.oneCell']) (by omega) (by omega) (by have := hb1.size; simp at this ⊢; omega) ?_; intro v2 w2 hown2 hgrow2; obtain ⟨vo2, vc2, rfl, _, _⟩ := own_slice hown2; have hw1 : wr.heap.size ≤ w1.heap.size := hb1.size; have hO2 := (hF3.below ((Below.refl w1.heap.size w1).alloc (Nat.le_refl _) _) (by omega)).below (B := w.heap.size + 1 + 1 + 1) ((Below.refl _ _).grown hgrow2 (by simp; omega) (fun j hj => (own_range HR.out hj).1)) (by omega); have c4 := hO2.cell; have f4 := hO2.free))
      all_goals
        have hwA : w1.heap.size + 1 ≤ w2.heap.size := by have := hgrow2.size; simpa using this
        have hownA := ownsRow_below HR.out ((Below.undrew hb1).alloc hb1.size (.cells #[.slice xo ls[k].length xcap] 34)) (Nat.le_refl _)
        have hZ1 := ((HZ.out.keeps (Keeps.of_below (Below.undrew hb1) (fun j hj => hj.2))).snoc (RowZ.of ho1) hsz (Nat.le_refl _) hw1).keeps ((Keeps.refl _ _).alloc (fun j hj => hj.2) (.cells #[.slice xo ls[k].length xcap] 34))
        have hZ2 := ((hZ1.grown hownA hgrow2).keeps ((Keeps.refl _ _).boxset (a := ⟨w.heap.size + 1 + 1, 0, none⟩) (by simp) (.slice vo2 (k + 1) vc2)))
        have e2 : ls.take k ++ [ls[k]] = ls.take (k + 1) := (List.take_succ_eq_append_getElem hlt).symm
        rw [e2] at hZ2
        have hszz : w1.heap.size ≤ (w2.setCell ⟨w.heap.size + 1 + 1, 0, none⟩ (.slice vo2 (k + 1) vc2)).heap.size := by simp; omega
        have HZ' := Lib.hid (hZ2.wide (Nat.le_refl _) hszz)
        have hbA : Below (w.heap.size + 1 + 1 + 1) wr w2 := (((Below.undrew hb1).mono hsz).alloc (by omega) _).grown hgrow2 (by simp; omega) (fun j hj => (own_range HR.out hj).1)
        have hbS : Below (w.heap.size + 1 + 1) wr (w2.setCell ⟨w.heap.size + 1 + 1, 0, none⟩ (.slice vo2 (k + 1) vc2)) := (hbA.mono (by omega)).setCell (by simp) _
        have HB' := Lib.hid (HB.out.trans (hbS.mono (by omega)))
        have HF0' := Lib.hid (HF0.out.below hbS (by omega))
        have HF1' := Lib.hid (HF1.out.below hbS (by omega))
        have HF2' := Lib.hid (hO2.set (.slice vo2 (k + 1) vc2))
        have HR' : Hid ((w2.setCell ⟨w.heap.size + 1 + 1, 0, none⟩ (.slice vo2 (k + 1) vc2)).ownsRow (w.heap.size + 1 + 1 + 1) 34 1 (.slice vo2 (k + 1) vc2) (k + 1) (us ++ [.slice xo ls[k].length xcap])) := ((Keeps.refl (fun j => w.heap.size + 1 + 1 + 1 ≤ j) w2).past (by simp) _).own hown2 (fun g hg => (own_range hown2 hg).1)
        have HU' : Hid ((us ++ [Value.slice xo ls[k].length xcap]).length = k + 1) := by unfold Hid; simp [HU.out]
        clear hZ1 hZ2 hownA hO2 hF3 c3 c3a c4 f4 hbA hbS hown2 hgrow2 hb1 ho1 e2 a0 c1 d0
        go_wp2
        go_roundw
        case rel => exact ⟨k + 1, _, _, by omega, by go_num, HB', HF0', HF1', HF2', HU', HR', HZ', by simp; omega⟩
        case measure => simp [intOf]; omega
    · obtain rfl : k = ls.length := by omega
      have hr := HR.out
      obtain ⟨vo, vc, rfl, hvc, hvm⟩ := own_slice hr
      have d0 := HF2.out.cell
      have e0 := HF1.out.cell
      have f0 := HF1.out.free
      have hz := HZ.out
      rw [List.take_length] at hz
      have HZZ := Lib.hid hz
      clear hr hz
      go_wp2
      exact bodyPost_ret (v := .agg #[.slice vo ls.length vc]) (by simp [results, Try.results55, go_sem, e0]) rfl ⟨_, rfl, by
        refine ⟨us, .inl ⟨?_, fun g hg => ?_⟩, ?_⟩
        · rw [HU.out]
          exact ownsRow_base (((Keeps.refl (fun j => w.heap.size + 1 + 1 + 1 ≤ j) wr).past (by simp) _).own HR.out (fun g hg => (own_range HR.out hg).1)) (by omega)
        · have := (own_range HR.out hg).2
          simpa using this
        · exact (HZZ.out.keeps ((Keeps.refl _ _).boxset (by simp) _)).wide (by omega) (by simp), HB.out.setCell (by simp) _⟩
end Go.Proofs.Ytfocobgceelnoaa
