/-
  SOrd, ChnC, SOrd2.
-/
import Derived.Deep.RegionHeld3
import Derived.Deep.RegionLaw
import Derived.Test.YtoglgeinnocfjaaC0
import Derived.Test.YtoglgeinnocfjaaC5
import Derived.Test.YtoglgeinnocfjaaC11
/-
  The model's functions over items in order.
-/
namespace Go.Proofs.Ytoglgeinnocfjaa
open Go.RowKit

theorem Items.drop {w : World} {b o n cap : Nat} {sp : Option Nat} {xs : List Itm} (h : Items w (.slice (some ⟨b, o, sp⟩) n cap) xs) {k : Nat} (hk : k ≤ n) : Items w (.slice (some ⟨b, o + k * 2, sp⟩) (n - k) (cap - k)) (xs.drop k) := by
  obtain ⟨ao, cap', e, hlc, hcm, hok, hcell⟩ := h
  simp only [Value.slice.injEq] at e
  obtain ⟨rfl, rfl, rfl⟩ := e
  refine ⟨some ⟨b, o + k * 2, sp⟩, cap - k, by simp, by simp; omega, by omega, fun x hx => hok x (List.mem_of_mem_drop hx), fun j hj => ?_⟩
  have hj' : k + j < xs.length := by simp at hj; omega
  obtain ⟨b', o', e, hb, h1, h2⟩ := hcell (k + j) hj'
  simp only [Option.some.injEq, Addr.mk.injEq] at e
  obtain ⟨rfl, rfl, rfl⟩ := e
  refine ⟨b, o + k * 2, rfl, hb, ?_, ?_⟩
  · rw [show o + k * 2 + j * 2 = o + (k + j) * 2 by omega, h1]; simp
  · rw [show o + k * 2 + j * 2 + 1 = o + (k + j) * 2 + 1 by omega, h2]; simp
theorem Items.dropAll {w : World} {ao : Option Addr} {n k : Nat} {xs : List Itm} (h : Items w (.slice ao n k) xs) (hk : k ≤ n) : Items w (.slice ao (n - k) (k - k)) (xs.drop k) := by
  obtain ⟨ao', cap', e, hlc, hcm, hok, hcell⟩ := h
  simp only [Value.slice.injEq] at e
  obtain ⟨rfl, rfl, rfl⟩ := e
  have e : xs.drop k = [] := List.drop_eq_nil_of_le (by omega)
  rw [e]
  exact ⟨ao, k - k, by simp; omega, by simp, by omega, fun x hx => by simp at hx, fun k hk => by simp at hk⟩

theorem Items_one (w : World) (s : ByteArray) (n : Int) (E : TypeId) (hs : s.size ≤ 9223372036854775807) (hn : -9223372036854775808 ≤ n ∧ n ≤ 9223372036854775807) : Items (w.alloc (.cells #[.string s, .int .i64 n] E)) (.slice (some ⟨w.heap.size, 0, none⟩) 1 1) [(s, n)] := by
  refine ⟨_, 1, rfl, Nat.le_refl _, by omega, fun x hx => ?_, fun k hk => ?_⟩
  · rw [List.mem_singleton.1 hx]; exact ⟨hs, hn.1, hn.2⟩
  · obtain rfl : k = 0 := by simpa using hk
    exact ⟨w.heap.size, 0, rfl, by simp, by simp, by simp⟩

theorem plc_place (l : List Itm) (s : ByteArray) : ∀ i, plcI l s i = placeI l s i := by
  induction l with
  | nil => intro i; rfl
  | cons x r ih => intro i; unfold plcI placeI; rw [ih]
theorem placeI_del (l : List Itm) (s : ByteArray) : ∀ i : Nat, hasI l s = true → ∃ k, ∃ h : k < l.length, placeI l s i = (k + i : Nat) ∧ l[k] = (s, cnt l s) ∧ delI l s = l.take k ++ l.drop (k + 1) ∧ (∀ t, renI l s t = l.set k (t, cnt l s)) ∧ ∀ n, putI l s n = l.set k (s, n) := by
  induction l with
  | nil => intro i h; simp [hasI] at h
  | cons x r ih =>
    intro i h
    by_cases hx : x.1 = s
    · exact ⟨0, by simp, by simp [placeI, hx], by simp [cnt, ← hx], by simp [delI, hx], fun t => by simp [renI, cnt, hx], fun n => by simp [putI, hx]⟩
    · simp only [hasI, hx, decide_false, Bool.false_or] at h
      obtain ⟨k, hk, h1, h2, h3, h4, h5⟩ := ih (i + 1) h
      refine ⟨k + 1, by simpa using hk, ?_, by simpa [cnt, hx] using h2, by simp [delI, hx, h3], fun t => by simp [renI, cnt, hx, h4], fun n => by simp [putI, hx, h5]⟩
      simp only [placeI, hx, if_false, h1]
      omega

theorem okI_sub {l m : List Itm} (h : okI l) (hs : ∀ x ∈ m, x ∈ l) : okI m := fun x hx => h x (hs x hx)
theorem okI_app {l m : List Itm} (h : okI l) (h' : okI m) : okI (l ++ m) := fun x hx => (List.mem_append.1 hx).elim (h x) (h' x)
theorem okI_del {l : List Itm} (h : okI l) (k : ByteArray) : okI (delI l k) := by
  induction l with
  | nil => exact h
  | cons x r ih =>
    unfold delI
    split
    · exact fun y hy => h y (by simp [hy])
    · exact fun y hy => (List.mem_cons.1 hy).elim (fun e => h y (by simp [e])) (ih (fun z hz => h z (by simp [hz])) y)
theorem Below.undrew {B : Nat} {w w' : World} (h : Below B w.drew w') : Below B w w' := ⟨h.os, h.tape, h.output, h.size, h.block⟩
theorem chk_chkL (l : List Itm) : chkI l = chkL l := rfl

set_option maxHeartbeats 1600000 in
set_option maxRecDepth 100000 in
theorem swithout_any (v : Value) (xs : List Itm) (k : Nat) (w : World) (h : Items w v xs) (hk : k < xs.length) (hn : xs.length ≤ 1000000) :
    Calls Try.prog 112 #[v, .int .i64 k] w (FreshI (xs.take k ++ xs.drop (k + 1)) w) := by
  have h0 := h
  obtain ⟨ao, cap, rfl, hlc, hcm, hok, hcell⟩ := h
  obtain ⟨b, o, rfl, hb, _, _⟩ := hcell k hk
  clear hcell
  have hT := Lib.hid (h0.take (k := k) (by omega))
  have HL := Lib.hid (show (xs.take k).length = k by simp; omega)
  have HLD := Lib.hid (show (xs.drop (k + 1)).length = xs.length - (k + 1) by simp)
  obtain ⟨A, hA, hDI⟩ : ∃ A, (if cap = k + 1 then some ⟨b, o, none⟩ else some ⟨b, o + (k + 1) * 2, none⟩ : Option Addr) = A ∧ Hid (Items w (.slice A (xs.length - (k + 1)) (cap - (k + 1))) (xs.drop (k + 1))) := by
    refine ⟨_, rfl, ?_⟩
    unfold Hid
    by_cases hc : cap = k + 1
    · rw [if_pos hc]; subst hc; exact h0.dropAll (by omega)
    · rw [if_neg hc]; exact h0.drop (by omega)
  have HOK := Lib.hid (okI_sub (l := xs) (m := xs.take k ++ xs.drop (k + 1)) hok (fun x hx => (List.mem_append.1 hx).elim List.mem_of_mem_take List.mem_of_mem_drop))
  have HLA := Lib.hid (show (xs.take k ++ xs.drop (k + 1)).length = k + (xs.length - (k + 1)) by rw [List.length_append, HL.out, HLD.out])
  have hk1 : IntKind.i64.wrap ((k : Int) + 1) = (k : Int) + 1 := IntWalk.i64_in _ (by omega)
  have hkc : k ≤ cap := by omega
  have hk0 : 0 ≤ (k : Int) + 1 := by omega
  have hkt : ((k : Int) + 1).toNat = k + 1 := by omega
  have hkn : (k : Int) + 1 ≤ (xs.length : Int) := by omega
  have hkn' : k + 1 ≤ xs.length := by omega
  have hkc' : (k : Int) + 1 ≤ (cap : Int) := by omega
  clear hok hb h0
  go_enter Try.func112, Try.ntmps112
  go_wp2_with fail
  go_region_law (first
    | (go_simp; go_at_call 133; refine (copyItems_any _ (xs.take k) _ (Items.drew hT.out) (by rw [HL.out]; omega)).mono ?_; rintro e w1 ⟨v1, rfl, ho1, hb1⟩)
    | (refine step_append_items _ rfl (.tmp 8) (.tmp 12) rfl _ v1 _ _ (by simp [Act.eval]) ho1.1 (.slice A (xs.length - (k + 1)) (cap - (k + 1))) (xs.drop (k + 1)) (by simp [Act.eval]) (Items.mono hDI.out (Below.undrew hb1) (Nat.le_refl _)) (by rw [HL.out]; omega) (by rw [HLD.out]; omega) hb1.size ?_; intro v' w2 hown2 hgrow2))
  go_wp2
  go_ret
  refine ⟨_, rfl, ⟨?_, HOK.out⟩, ?_⟩
  · have e : cellsI (xs.take k ++ xs.drop (k + 1)) = cellsI (xs.take k) ++ cellsI (xs.drop (k + 1)) := by simp [cellsI]
    rw [List.length_append, e]
    exact hown2
  · exact (Below.undrew hb1).grown hgrow2 hb1.size (fun j hj => (ho1.1.lt j hj).1)

theorem okG_of {xs : List Itm} {s : ByteArray} {a b : Bool} (HV : Hid (validI xs = a)) (HH : Hid (hasI xs s = b)) : okG xs s = (a && b) := by unfold okG; rw [HV.out, HH.out]
theorem getN_of {xs : List Itm} {s : ByteArray} {a b : Bool} (HV : Hid (validI xs = a)) (HH : Hid (hasI xs s = b)) : getN xs s = if (a && b) = true then cnt xs s else 0 := by unfold getN; rw [okG_of HV HH]

theorem drp_no {xs : List Itm} {s : ByteArray} {a b : Bool} (HV : Hid (validI xs = a)) (HH : Hid (hasI xs s = b)) (h : (a && b) = false) (E : Nat) (w : World) (B : Nat) : OwnI E w B (.slice none 0 0) (drpL xs s) := by
  unfold drpL
  rw [okG_of HV HH, h]
  exact OwnI_nil _ _ _
theorem drp_yes {xs : List Itm} {s : ByteArray} (HV : Hid (validI xs = true)) (HH : Hid (hasI xs s = true)) : drpL xs s = delI xs s := by
  unfold drpL
  rw [okG_of HV HH]
  rfl

end Go.Proofs.Ytoglgeinnocfjaa
/-
  A chain copied by the model; lists appended to a row of lists.
-/
namespace Go.Proofs.Ytoglgeinnocfjaa
open Go.RowKit

/-- Lists appended, as one step of a region that draws its order. -/
theorem step_append_rows (w : World) {ops : Array Oper} {o : Oper} {a : Act} {K : Act → World → Prop} {Q : Exit → Act → World → Prop} {E : Prop} (hgd : o.guard = none) (s x : Operand)
    (ho : o.op = .call { callee := .builtin .append, args := #[s, x], argTypes := #[49, 49] })
    (base : Nat) (v : Value) (n : Nat) (us : List Value) (hs : a.eval s = v) (hown : w.ownsRow base 55 1 v n us)
    (ad : Addr) (len cap : Nat) (news : List Value) (hx : a.eval x = .slice (some ad) len cap) (hl : news.length = len) (hnews : ∀ j u, news[j]? = some u → w.cell? (ad.add j) = some u) (hone : ∀ u ∈ news, u.oneCell' = true)
    (hn : n ≤ 1000000) (hm : len ≤ 1000000) (hbase : base ≤ w.heap.size)
    (h : ∀ v' w', w'.ownsRow base 55 1 v' (n + len) (us ++ news) → w.grownBy w' v.ownBlock → K (a.put o.dst v') w') :
    if Region.wanted o (yielded ops a.tmps) = true then Oper.wp Try.prog o a w K Q else E := by
  have hw : Region.wanted o (yielded ops a.tmps) = true := by simp [Region.wanted, hgd]
  rw [if_pos hw]
  obtain ⟨i0, hi0, hz0, hz1, hz2⟩ := info_parts Try.infoII
  obtain ⟨v', w', hrun, r1, r2, _⟩ := run_append_own (P := Try.prog) w base 49 o.type 55 i0 (.slice none 0 0) 1 24 Try.underlying49 hi0 hz0 hz1 hz2 rfl (by decide) v n us hown ad len cap news (by omega) hnews hone (by unfold maxLen; omega) (by omega) hbase
  unfold Oper.wp
  simp [execOp, ho, resolve, invoke, builtin, hs, hx, hrun, Result.andThen]
  exact h v' w' r1 r2

theorem RowsZ.grown {lo hi : Nat} {w w' : World} {us : List Value} {ls : List (List Itm)} {B n : Nat} {v : Value} {xs : List Value} (h : RowsZ lo hi w us ls) (ho : w.ownsRow B 55 1 v n xs) (hg : w.grownBy w' v.ownBlock) : RowsZ lo hi w' us ls := by
  refine ⟨h.len, fun k u l hu hl => ?_, h.apart⟩
  have hr := h.row k u l hu hl
  refine ⟨?_, hr.2⟩
  rcases hr.1.cases with ⟨hne, hi⟩ | h0
  · refine .inl ⟨?_, hi.2⟩
    have hk : Keeps (fun j => j < w.heap.size ∧ v.ownBlock ≠ some j) w w' := ⟨hg.os, hg.tape, hg.output, hg.size, fun j hj => hg.block j hj.1 (fun e => hj.2 e.symm)⟩
    refine hk.own hi.1 (fun g hgg => ⟨(own_range hi.1 hgg).2, fun e => ?_⟩)
    exact (hr.notE ho g e).2 hne hgg
  · exact .inr h0
theorem grownBy_below {B : Nat} {w w' : World} {v : Value} {E S n : Nat} {xs : List Value} (ho : w.ownsRow B E S v n xs) (hg : w.grownBy w' v.ownBlock) : Below B w w' ∨ w.heap.size < B := by
  by_cases hB : B ≤ w.heap.size
  · exact .inl ((Below.refl _ _).grown hg hB (fun j hj => (own_range ho hj).1))
  · exact .inr (by omega)
theorem one_slice (w : World) (u : Value) (T : Nat) : ∀ (j : Nat) (x : Value), [u][j]? = some x → (w.alloc (.cells #[u] T)).cell? ((⟨w.heap.size, 0, none⟩ : Addr).add j) = some x := by
  intro j x hx
  match j, hx with
  | 0, hx => simp at hx; subst hx; simp [Addr.add]
  | j + 1, hx => simp at hx

set_option maxHeartbeats 1600000 in
set_option maxRecDepth 100000 in
theorem scopyChain_any (v : Value) (ls : List (List Itm)) (w : World) (h : Maps w v ls) (hn : ls.length ≤ 100000) (hm : tot ls ≤ 1000000) :
    Calls Try.prog 106 #[.agg #[v]] w (NewM (fun v => .agg #[v]) ls w) := by
  have hM := Lib.hid h
  obtain ⟨ao, cap, rfl, hlc, hcm⟩ := h.slice
  clear h
  go_enter Try.func106, Try.ntmps106
  have HA : Hid (Below w.heap.size w (((w.alloc (.cells #[.slice ao ls.length cap] 51)).alloc (.cells #[.slice none 0 0] 51)).alloc (.cells #[.slice none 0 0] 51))) := (((Below.refl _ _).alloc (Nat.le_refl _) _).alloc (by simp) _).alloc (by simp <;> omega) _
  have F0 := (One.new w 51 (.slice ao ls.length cap)).below (B := w.heap.size + 1) (((Below.refl _ _).alloc (by simp) (.cells #[.slice none 0 0] 51)).alloc (by simp <;> omega) (.cells #[.slice none 0 0] 51)) (by omega)
  have F1 := (One.new (w.alloc (.cells #[.slice ao ls.length cap] 51)) 51 (.slice none 0 0)).below (B := w.heap.size + 2) ((Below.refl _ _).alloc (by simp) (.cells #[.slice none 0 0] 51)) (by simp)
  have F2 := One.new ((w.alloc (.cells #[.slice ao ls.length cap] 51)).alloc (.cells #[.slice none 0 0] 51)) 51 (.slice none 0 0)
  simp at F1 F2
  go_wp2_with fail
  go_loopw [4] (fun i wr => ∃ (k : Nat) (us : List Value) (v' : Value), k ≤ ls.length ∧ i = .int .i64 k ∧ Hid (Below w.heap.size w wr) ∧ Hid (One wr w.heap.size 51 (.slice ao ls.length cap)) ∧ Hid (One wr (w.heap.size + 1) 51 (.slice none 0 0)) ∧ Hid (One wr (w.heap.size + 1 + 1) 51 v') ∧
      Hid (us.length = k) ∧ Hid (wr.ownsRow (w.heap.size + 1 + 1 + 1) 55 1 v' k us) ∧ Hid (RowsZ (w.heap.size + 1 + 1 + 1) wr.heap.size wr us (ls.take k)) ∧ w.heap.size + 1 + 1 + 1 ≤ wr.heap.size) (fun i _ => ls.length - (intOf i).toNat)
  case atStart => exact ⟨0, [], _, Nat.zero_le _, rfl, HA.out, F0, F1, F2, rfl, World.ownsRow_nil _ _ _ _, RowsZ.nil _ _ _, by simp⟩
  case round =>
    obtain ⟨k, us, v', hk, rfl, HB, HF0, HF1, HF2, HU, HR, HZ, hsz⟩ := hrel
    have a0 := HF0.out.cell
    clear F0 F1 F2
    by_cases hlt : k < ls.length
    · obtain ⟨b, o, cap', u, e, hb, h1, hI⟩ := hM.out.at hlt
      simp only [Value.slice.injEq] at e
      obtain ⟨rfl, _, rfl⟩ := e
      have c1 := (HB.out.cell (p := ⟨b, _, none⟩) hb).trans h1
      have HI := Lib.hid (hI.mono HB.out (Nat.le_refl _))
      have hle := tot_le hlt
      have hr := HR.out
      obtain ⟨vo, vc, rfl, hvc, hvm⟩ := own_slice hr
      have d0 := HF2.out.cell
      clear h1 hI hr
      go_wp2_with fail
      go_region_law (first
        | (go_simp; go_at_call 133; refine (copyItems_any _ _ _ (Items.drew HI.out) (by omega)).mono ?_; rintro e w1 ⟨v1, rfl, ho1, hb1⟩; have hF3 := HF2.out.below (Below.undrew hb1) HF2.out.lt; have c3 := hF3.cell; have c3a := fun ob : Go.Obj => (hF3.below ((Below.refl w1.heap.size w1).alloc (Nat.le_refl _) ob) hF3.lt).cell; obtain ⟨xo, xcap, rfl, _, _⟩ := own_slice ho1.1)
        | (refine step_append_rows _ rfl (.tmp 14) (.tmp 21) rfl _ _ _ us (by simp [Act.eval]) (ownsRow_below HR.out ((Below.undrew hb1).alloc hb1.size _) (Nat.le_refl _)) ⟨w1.heap.size, 0, none⟩ 1 1 [.slice xo ls[k].length xcap] (by simp [Act.eval]) rfl (one_slice _ _ _) (by simp [Value.oneCell']) (by omega) (by omega) (by have := hb1.size; simp at this ⊢; omega) ?_; intro v2 w2 hown2 hgrow2; obtain ⟨vo2, vc2, rfl, _, _⟩ := own_slice hown2; have hw1 : wr.heap.size ≤ w1.heap.size := hb1.size; have hO2 := (hF3.below ((Below.refl w1.heap.size w1).alloc (Nat.le_refl _) _) (by omega)).below (B := w.heap.size + 1 + 1 + 1) ((Below.refl _ _).grown hgrow2 (by simp; omega) (fun j hj => (own_range HR.out hj).1)) (by omega); have c4 := hO2.cell; have f4 := hO2.free))
      all_goals
        have hwA : w1.heap.size + 1 ≤ w2.heap.size := by have := hgrow2.size; simpa using this
        have hownA := ownsRow_below HR.out ((Below.undrew hb1).alloc hb1.size (.cells #[.slice xo ls[k].length xcap] 55)) (Nat.le_refl _)
        have hZ1 := ((HZ.out.keeps (Keeps.of_below (Below.undrew hb1) (fun j hj => hj.2))).snoc (RowZ.of ho1) hsz (Nat.le_refl _) hw1).keeps ((Keeps.refl _ _).alloc (fun j hj => hj.2) (.cells #[.slice xo ls[k].length xcap] 55))
        have hZ2 := ((hZ1.grown hownA hgrow2).keeps ((Keeps.refl _ _).boxset (a := ⟨w.heap.size + 1 + 1, 0, none⟩) (by simp) (.slice vo2 (k + 1) vc2)))
        have e2 : ls.take k ++ [ls[k]] = ls.take (k + 1) := (List.take_succ_eq_append_getElem hlt).symm
        rw [e2] at hZ2
        have hszz : w1.heap.size ≤ (w2.setCell ⟨w.heap.size + 1 + 1, 0, none⟩ (.slice vo2 (k + 1) vc2)).heap.size := by simp; omega
        have HZ' := Lib.hid (hZ2.wide (Nat.le_refl _) hszz)
        have hbA : Below (w.heap.size + 1 + 1 + 1) wr w2 := (((Below.undrew hb1).mono hsz).alloc (by omega) _).grown hgrow2 (by simp; omega) (fun j hj => (own_range HR.out hj).1)
        have hbS : Below (w.heap.size + 1 + 1) wr (w2.setCell ⟨w.heap.size + 1 + 1, 0, none⟩ (.slice vo2 (k + 1) vc2)) := (hbA.mono (by omega)).setCell (by simp) _
        have HB' := Lib.hid (HB.out.trans (hbS.mono (by omega)))
        have HF0' := Lib.hid (HF0.out.below hbS (by omega))
        have HF1' := Lib.hid (HF1.out.below hbS (by omega))
        have HF2' := Lib.hid (hO2.set (.slice vo2 (k + 1) vc2))
        have HR' : Hid ((w2.setCell ⟨w.heap.size + 1 + 1, 0, none⟩ (.slice vo2 (k + 1) vc2)).ownsRow (w.heap.size + 1 + 1 + 1) 55 1 (.slice vo2 (k + 1) vc2) (k + 1) (us ++ [.slice xo ls[k].length xcap])) := ((Keeps.refl (fun j => w.heap.size + 1 + 1 + 1 ≤ j) w2).past (by simp) _).own hown2 (fun g hg => (own_range hown2 hg).1)
        have HU' : Hid ((us ++ [Value.slice xo ls[k].length xcap]).length = k + 1) := by unfold Hid; simp [HU.out]
        clear hZ1 hZ2 hownA hO2 hF3 c3 c3a c4 f4 hbA hbS hown2 hgrow2 hb1 ho1 e2 a0 c1 d0
        go_wp2
        go_roundw
        case rel => exact ⟨k + 1, _, _, by omega, by go_num, HB', HF0', HF1', HF2', HU', HR', HZ', by simp; omega⟩
        case measure => simp [intOf]; omega
    · obtain rfl : k = ls.length := by omega
      have hr := HR.out
      obtain ⟨vo, vc, rfl, hvc, hvm⟩ := own_slice hr
      have d0 := HF2.out.cell
      have e0 := HF1.out.cell
      have f0 := HF1.out.free
      have hz := HZ.out
      rw [List.take_length] at hz
      have HZZ := Lib.hid hz
      clear hr hz
      go_wp2
      exact bodyPost_ret (v := .agg #[.slice vo ls.length vc]) (by simp [results, Try.results106, go_sem, e0]) rfl ⟨_, rfl, by
        refine ⟨us, .inl ⟨?_, fun g hg => ?_⟩, ?_⟩
        · rw [HU.out]
          exact ownsRow_base (((Keeps.refl (fun j => w.heap.size + 1 + 1 + 1 ≤ j) wr).past (by simp) _).own HR.out (fun g hg => (own_range HR.out hg).1)) (by omega)
        · have := (own_range HR.out hg).2
          simpa using this
        · exact (HZZ.out.keeps ((Keeps.refl _ _).boxset (by simp) _)).wide (by omega) (by simp), HB.out.setCell (by simp) _⟩
end Go.Proofs.Ytoglgeinnocfjaa
/-
  The model's functions over items in order: moved, popped, renamed, turned, laid over.
-/
namespace Go.Proofs.Ytoglgeinnocfjaa
open Go.RowKit

theorem Items.at {w : World} {v : Value} {xs : List Itm} (h : Items w v xs) {k : Nat} (hk : k < xs.length) : ∃ b o cap, v = .slice (some ⟨b, o, none⟩) xs.length cap ∧ xs.length ≤ cap ∧ cap ≤ 9223372036854775807 ∧ b < w.heap.size ∧ w.cell? ⟨b, o + k * 2, none⟩ = some (.string xs[k].1) ∧ w.cell? ⟨b, o + k * 2 + 1, none⟩ = some (.int .i64 xs[k].2) := by
  obtain ⟨ao, cap, rfl, hl, hc, _, hcell⟩ := h
  obtain ⟨b, o, rfl, hb, h1, h2⟩ := hcell k hk
  exact ⟨b, o, cap, rfl, hl, hc, hb, h1, h2⟩

/-- The two cells of an item stand. -/
def Two (w0 : World) (b p : Nat) (x : Itm) (w : World) : Prop := (w.cell? ⟨b, p, none⟩ = some (.string x.1) ∧ w.cell? ⟨b, p + 1, none⟩ = some (.int .i64 x.2)) ∧ Below w0.heap.size w0 w
theorem Two.go {w0 w1 w2 : World} {b p : Nat} {x : Itm} (h : Two w0 b p x w1) (hb : b < w0.heap.size) (h2 : Below w1.heap.size w1 w2) : Two w0 b p x w2 := by
  obtain ⟨⟨h1, h3⟩, h4⟩ := h
  have hb1 : b < w1.heap.size := Nat.lt_of_lt_of_le hb h4.size
  exact ⟨⟨(h2.cell (p := ⟨b, p, none⟩) hb1).trans h1, (h2.cell (p := ⟨b, p + 1, none⟩) hb1).trans h3⟩, h4.trans (h2.mono h4.size)⟩

theorem Two.alloc {w0 w1 : World} {b p : Nat} {x : Itm} (h : Two w0 b p x w1) (hb : b < w0.heap.size) (o : Go.Obj) : Two w0 b p x (w1.alloc o) := h.go hb ((Below.refl _ _).alloc (Nat.le_refl _) _)
theorem Two.grown {w0 w1 w2 : World} {b p : Nat} {x : Itm} {row : Option Nat} (h : Two w0 b p x w1) (hb : b < w0.heap.size) (hg : w1.grownBy w2 row) (hr : ∀ j, row = some j → w0.heap.size ≤ j) : Two w0 b p x w2 := by
  obtain ⟨⟨h1, h3⟩, h4⟩ := h
  have h5 : Below w0.heap.size w0 w2 := h4.grown hg h4.size hr
  have e : ∀ o, w2.cell? ⟨b, o, none⟩ = w1.cell? ⟨b, o, none⟩ := fun o => (h5.cell (p := ⟨b, o, none⟩) hb).trans (h4.cell (p := ⟨b, o, none⟩) hb).symm
  exact ⟨⟨(e p).trans h1, (e (p + 1)).trans h3⟩, h5⟩
theorem own_app {w w2 : World} {B E : Nat} {v : Value} {xs ys : List Itm} (h : w2.ownsRow B E 2 v (xs.length + ys.length) (cellsI xs ++ cellsI ys)) (hB : w.heap.size ≤ B) (hok : okI (xs ++ ys)) : OwnI E w2 w.heap.size v (xs ++ ys) := by
  refine ⟨?_, hok⟩
  rw [List.length_append, cellsI_append]
  exact ownsRow_base h hB
theorem own_one (w : World) (y : Itm) (E : TypeId) {B : Nat} (hB : B ≤ w.heap.size) : (w.alloc (.cells #[.string y.1, .int .i64 y.2] E)).ownsRow B E 2 (.slice (some ⟨w.heap.size, 0, none⟩) 1 1) 1 (cellsI [y]) :=
  ownsRow_base (World.ownsRow_lit (base := w.heap.size) (e := E) (size := 2) w #[.string y.1, .int .i64 y.2] 1 (Nat.le_refl _) (by unfold maxLen; omega) rfl) hB
theorem below_of {P : Prop} {B : Nat} {w w' : World} (h : P ∧ Below B w w') : Below B w w' := h.2

theorem movI_last {xs : List Itm} {s : ByteArray} {k : Nat} {hk : k < xs.length} (h2 : xs[k] = (s, cnt xs s)) (h3 : delI xs s = xs.take k ++ xs.drop (k + 1)) : movI xs s true = xs.take k ++ xs.drop (k + 1) ++ [xs[k]] := by
  unfold movI
  rw [if_pos rfl, h2, h3]
theorem movI_first {xs : List Itm} {s : ByteArray} {k : Nat} {hk : k < xs.length} (h2 : xs[k] = (s, cnt xs s)) (h3 : delI xs s = xs.take k ++ xs.drop (k + 1)) : movI xs s false = [xs[k]] ++ (xs.take k ++ xs.drop (k + 1)) := by
  unfold movI
  rw [h2, h3]
  rfl
theorem mov_no {xs : List Itm} {s : ByteArray} {a b last : Bool} (HV : Hid (validI xs = a)) (HH : Hid (hasI xs s = b)) (h : (a && b) = false) (E : Nat) (w : World) (B : Nat) : OwnI E w B (.slice none 0 0) (movL xs s last) := by
  unfold movL
  rw [okG_of HV HH, h]
  exact OwnI_nil _ _ _
theorem mov_yes {xs : List Itm} {s : ByteArray} {last : Bool} (HV : Hid (validI xs = true)) (HH : Hid (hasI xs s = true)) : movL xs s last = movI xs s last := by
  unfold movL
  rw [okG_of HV HH]
  rfl

end Go.Proofs.Ytoglgeinnocfjaa
