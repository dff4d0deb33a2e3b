/-
  An item dropped from a chain's map, by the program and by the model.
-/
import Derived.Test.YtojepjpmegbdmaaChnP
import Derived.Test.YtojepjpmegbdmaaImplO
import Derived.Test.YtojepjpmegbdmaaImplP
namespace Go.Proofs.Ytojepjpmegbdmaa
open Go.RowKit

set_option maxHeartbeats 800000 in
set_option maxRecDepth 100000 in
theorem dropAt_any (v : Value) (ls : List (List Itm)) (k : Nat) (s : ByteArray) (w : World) (h : Maps w v ls) (hk : k < ls.length) (hn : ls.length ≤ 100000) (hm : tot ls ≤ 100000) :
    Calls Try.prog 106 #[.agg #[v], .int .i64 k, .string s] w fun e w' => ∃ v', e = .returned (okV v' (okG ls[k] s)) ∧ OwnM w.heap.size w'.heap.size w' v' (ifM (okG ls[k] s) (ls.set k (drpL ls[k] s))) ∧ Below w.heap.size w w' := by
  have hM := Lib.hid h
  obtain ⟨b, o, cap, u, rfl, hb, h1, hI⟩ := h.at hk
  clear h
  go_enter Try.func106, Try.ntmps106
  have HA : Hid (Below w.heap.size w ((w.alloc (.cells #[.slice (some ⟨b, o, none⟩) ls.length cap] 29)).alloc (.cells #[.slice none 0 0] 29))) := ((Below.refl _ _).alloc (Nat.le_refl _) _).alloc (by simp) _
  have F0 := (One.new w 29 (.slice (some ⟨b, o, none⟩) ls.length cap)).below (B := w.heap.size + 1) ((Below.refl _ _).alloc (by simp) (.cells #[.slice none 0 0] 29)) (by omega)
  have F1 := One.new (w.alloc (.cells #[.slice (some ⟨b, o, none⟩) ls.length cap] 29)) 29 (.slice none 0 0)
  simp at F1
  have c0 := F0.cell
  have c1 := (HA.out.cell (p := ⟨b, _, none⟩) hb).trans h1
  have HI := Lib.hid (hI.mono HA.out (Nat.le_refl _))
  obtain ⟨ok, hok⟩ : ∃ ok, Hid (okG ls[k] s = ok) := ⟨_, Lib.hid rfl⟩
  have HP := Lib.hid (DropItem_any _ _ s _ HI.out)
  rw [hok.out] at HP
  clear h1 hI
  go_wp2_with fail
  refine HP.out.mono ?_
  rintro e w1 ⟨u1, rfl, ho1, hb1⟩
  have hs1 := hb1.size
  simp at hs1 ho1 hb1
  have hw1 := Lib.hid (HA.out.trans (hb1.mono (by omega)))
  have hz := Lib.hid ((RowZ.of ho1).wide (show w.heap.size ≤ w.heap.size + 1 + 1 by omega) (Nat.le_refl _))
  have G0 := F0.below hb1 (by omega)
  have G1 := Lib.hid (F1.below hb1 (by omega))
  clear c0 c1 F0 F1 ho1 hb1
  have c0 := G0.cell
  go_wp2_with fail
  refine (replaced_any _ ls k u1 _ ok _ (hM.out.mono hw1.out (Nat.le_refl _)) hk hz.out (by omega) hn hm).mono ?_
  rintro e w2 ⟨v2, rfl, ho2, hb2⟩
  have H2 := Lib.hid (G1.out.below hb2 G1.out.lt)
  obtain ⟨vo, L, vc, rfl⟩ := ho2.shape
  have e0 := H2.out.cell
  have f0 := H2.out.free
  have HO := Lib.hid (ho2.other H2.out (by decide) (by decide) ((Keeps.refl _ _).one 0 (.slice vo L vc)))
  have HB : Hid (Below w.heap.size w (w2.setCell ⟨w.heap.size + 1, 0, none⟩ (.slice vo L vc))) := (hw1.out.trans (hb2.mono hw1.out.size)).setCell (by simp) _
  clear c0 G0 ho2 hb2
  have hzz : w2.heap.size ≤ (w2.setCell ⟨w.heap.size + 1, 0, none⟩ (.slice vo L vc)).heap.size := by simp
  have HO' := HO.out.wide (Nat.le_refl _) hzz
  rw [← hok.out] at HO'
  have HO'' := Lib.hid HO'
  clear HO'
  go_wp2
  exact bodyPost_ret (v := okV (.slice vo L vc) ok) (by simp [okV, results, Try.results106, go_sem, e0]) rfl ⟨_, ret_m rfl hok.out.symm, HO''.out, HB.out⟩

def cdB (ls : List (List Itm)) (s : ByteArray) : Bool := validC ls && okG (ls.headD []) s
def cdL (ls : List (List Itm)) (s : ByteArray) : List (List Itm) := ifM (cdB ls s) (ls.set 0 (drpL (ls.headD []) s))
def cdN (ls : List (List Itm)) (s : ByteArray) : Int := if cdB ls s = true then cnt (ls.headD []) s else 0
abbrev okN (f : Value) (n : Int) (ok : Bool) : Value := .tuple #[.agg #[f], .int .i64 n, .bool ok]
theorem ret_mn {a b : Value} {n m : Int} {c d : Bool} (h : a = b) (h1 : n = m) (h' : c = d) : Ending.returned (okN a n c) = .returned (okN b m d) := by rw [h, h1, h']
theorem cd_no {ls : List (List Itm)} {s : ByteArray} (h : cdB ls s = false) : cdL ls s = [] ∧ cdN ls s = 0 := by
  unfold cdL cdN
  rw [h]
  exact ⟨rfl, rfl⟩
theorem cd_yes {ls : List (List Itm)} {s : ByteArray} (h : cdB ls s = true) : cdL ls s = ls.set 0 (delI (ls.headD []) s) ∧ cdN ls s = cnt (ls.headD []) s := by
  have h2 : okG (ls.headD []) s = true := by unfold cdB at h; rw [Bool.and_eq_true] at h; exact h.2
  unfold cdL cdN drpL
  rw [h, h2]
  exact ⟨rfl, rfl⟩
theorem cd_le (ls : List (List Itm)) (s : ByteArray) : tot (cdL ls s) ≤ 10000000 := by
  cases h : cdB ls s
  · rw [(cd_no h).1]; simp [tot]
  · rw [(cd_yes h).1]
    have hv : validC ls = true := by unfold cdB at h; rw [Bool.and_eq_true] at h; exact h.1
    have h1 := tot_mem hv
    have h2 := (validC_iff.1 hv)
    cases ls with
    | nil => simp [tot]
    | cons x r =>
      simp only [List.set_cons_zero, tot, List.headD_cons] at h1 ⊢
      have := del_le x s
      omega

set_option maxHeartbeats 1600000 in
set_option maxRecDepth 100000 in
theorem ChainDrop_any (v : Value) (ls : List (List Itm)) (s : ByteArray) (w : World) (h : Maps w v ls) :
    Calls Try.prog 39 #[.agg #[v], .string s] w (NewM (fun v => .tuple #[.agg #[v], .int .i64 (cdN ls s), .bool (cdB ls s)]) (cdL ls s) w) := by
  have hM := Lib.hid h
  obtain ⟨ao, cap, rfl, hlc, hcm⟩ := h.slice
  clear h
  go_enter Try.func39, Try.ntmps39
  have HA : Hid (Below w.heap.size w ((w.alloc (.cells #[.slice ao ls.length cap] 29)).alloc (.cells #[.slice none 0 0] 29))) := ((Below.refl _ _).alloc (Nat.le_refl _) _).alloc (by simp) _
  have F0 := Lib.hid ((One.new w 29 (.slice ao ls.length cap)).below (B := w.heap.size + 1) ((Below.refl _ _).alloc (by simp) (.cells #[.slice none 0 0] 29)) (by omega))
  have F1' := One.new (w.alloc (.cells #[.slice ao ls.length cap] 29)) 29 (.slice none 0 0)
  simp at F1'
  have F1 := Lib.hid F1'
  clear F1'
  have c0 := F0.out.cell
  cases hv : validC ls
  all_goals
    have HV := Lib.hid hv
    clear hv
    go_wp2_with fail
    refine (vC_v _ (hM.out.mono HA.out (Nat.le_refl _)) HV.out).mono ?_
    rintro e w1 ⟨rfl, hb1⟩
    have hs1 := hb1.size
    simp at hs1 hb1
    have hw1 := Lib.hid (HA.out.trans (hb1.mono (by omega)))
    have G0 := Lib.hid (F0.out.below hb1 (by omega))
    have G1 := Lib.hid (F1.out.below hb1 (by omega))
    clear c0 hb1
  · have e0 := G1.out.cell
    have f0 := G1.out.free
    have HB : Hid (Below w.heap.size w (w1.setCell ⟨w.heap.size + 1, 0, none⟩ (.slice none 0 0))) := hw1.out.setCell (by simp) _
    have HC := Lib.hid (show cdB ls s = false by unfold cdB; rw [HV.out]; rfl)
    go_wp2
    refine bodyPost_ret (v := okN (.slice none 0 0) 0 false) (by simp [okN, results, Try.results39, go_sem, e0]) rfl ⟨_, ret_mn rfl (cd_no HC.out).2.symm HC.out.symm, ?_, HB.out⟩
    rw [(cd_no HC.out).1]
    exact OwnM.nil _ _ _
  · have hl := validC_iff.1 HV.out
    have ht := tot_mem HV.out
    have h0 : 0 < ls.length := by omega
    have c0 := G0.out.cell
    have HP := Lib.hid (dropAt_any _ ls 0 s w1 (hM.out.mono hw1.out (Nat.le_refl _)) h0 (by omega) (by omega))
    have HK : Hid (cdB ls s = okG ls[0] s) := by unfold Hid cdB; rw [HV.out, head_at h0]; rfl
    have HL : Hid (cdL ls s = ifM (okG ls[0] s) (ls.set 0 (drpL ls[0] s))) := by unfold Hid cdL; rw [HK.out, head_at h0]
    have HN : Hid (okG ls[0] s = true → cdN ls s = cnt ls[0] s) := fun hh => by
      have := (cd_yes (HK.out.trans hh)).2
      rw [this, head_at h0]
    obtain ⟨ok, hok⟩ : ∃ ok, Hid (okG ls[0] s = ok) := ⟨_, Lib.hid rfl⟩
    rw [hok.out] at HP HK HL HN
    go_wp2_with fail
    refine HP.out.mono ?_
    rintro e w2 ⟨v2, rfl, ho2, hb2⟩
    have HW2 := Lib.hid (hw1.out.trans (hb2.mono hw1.out.size))
    have H2 := Lib.hid (G1.out.below hb2 G1.out.lt)
    have H0 := Lib.hid (G0.out.below hb2 G0.out.lt)
    obtain ⟨vo, L, vc, rfl⟩ := ho2.shape
    have HO2 := Lib.hid ho2
    have hs2 := hb2.size
    have HA2 : Hid (Below w2.heap.size w2 (w2.alloc (.cells #[.slice vo L vc] 29))) := (Below.refl _ _).alloc (Nat.le_refl _) _
    have K0 := Lib.hid (H0.out.below HA2.out H0.out.lt)
    have K1 := Lib.hid (H2.out.below HA2.out H2.out.lt)
    have KN := Lib.hid (One.new w2 29 (.slice vo L vc))
    have HWA := Lib.hid (HW2.out.trans (HA2.out.mono HW2.out.size))
    have hA2 : (w2.alloc (.cells #[.slice vo L vc] 29)).heap.size = w2.heap.size + 1 := by simp
    clear c0 ho2 hb2
    cases ok
    · have e0 := K1.out.cell
      have f0 := K1.out.free
      have HB : Hid (Below w.heap.size w ((w2.alloc (.cells #[.slice vo L vc] 29)).setCell ⟨w.heap.size + 1, 0, none⟩ (.slice none 0 0))) := HWA.out.setCell (by simp) _
      go_wp2
      refine bodyPost_ret (v := okN (.slice none 0 0) 0 false) (by simp [okN, results, Try.results39, go_sem, e0]) rfl ⟨_, ret_mn rfl (cd_no HK.out).2.symm HK.out.symm, ?_, HB.out⟩
      rw [(cd_no HK.out).1]
      exact OwnM.nil _ _ _
    · obtain ⟨b, o, cap', u, e, hb, hcb, hI⟩ := hM.out.at h0
      simp only [Value.slice.injEq] at e
      obtain ⟨rfl, _, rfl⟩ := e
      have k0 := K0.out.cell
      have c1 : (w2.alloc (.cells #[.slice vo L vc] 29)).cell? ⟨b, o, none⟩ = some u := (HWA.out.cell (p := ⟨b, _, none⟩) hb).trans hcb
      have HI := Lib.hid (hI.mono HWA.out (Nat.le_refl _))
      have HGN := Lib.hid (show getN ls[0] s = cdN ls s by
        unfold getN
        rw [hok.out, if_pos rfl, HN.out rfl])
      clear hcb hI
      go_wp2_with fail
      refine (GetItem_v _ HI.out HGN.out hok.out).mono ?_
      rintro e w3 ⟨rfl, hb3⟩
      have L1 := Lib.hid (K1.out.below hb3 K1.out.lt)
      have LN := Lib.hid (KN.out.below hb3 KN.out.lt)
      have d0 := LN.out.cell
      have e0 := L1.out.cell
      have f0 := L1.out.free
      have HO3 := Lib.hid ((((HO2.out.keeps (Keeps.of_below HA2.out (fun j hj => hj.2))).keeps (Keeps.of_below hb3 (fun j hj => by have := hj.2; omega))).other L1.out (by decide) (by decide) ((Keeps.refl _ _).one 0 (.slice vo L vc))).wide (lo' := w.heap.size) (hi' := (w3.setCell ⟨w.heap.size + 1, 0, none⟩ (.slice vo L vc)).heap.size) hw1.out.size (by have := hb3.size; simp at this ⊢; omega))
      have HB : Hid (Below w.heap.size w (w3.setCell ⟨w.heap.size + 1, 0, none⟩ (.slice vo L vc))) := (HWA.out.trans (hb3.mono HWA.out.size)).setCell (by simp) _
      clear c1 k0 hb3
      go_wp2
      refine bodyPost_ret (v := okN (.slice vo L vc) (cdN ls s) true) (by simp [okN, results, Try.results39, go_sem, e0]) rfl ⟨_, ret_mn rfl rfl HK.out.symm, ?_, HB.out⟩
      rw [HL.out]
      exact HO3.out
end Go.Proofs.Ytojepjpmegbdmaa
