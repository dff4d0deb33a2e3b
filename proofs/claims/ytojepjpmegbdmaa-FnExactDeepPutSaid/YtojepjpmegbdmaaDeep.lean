/-
  An item put into, and dropped from, the map of a chain where it is, by the program.
-/
import Derived.Test.YtojepjpmegbdmaaHowO
import Derived.Test.YtojepjpmegbdmaaChnE
namespace Go.Proofs.Ytojepjpmegbdmaa
open Go.RowKit

def dpK (ls : List (List Itm)) (s : ByteArray) : Nat := (whP ls s).toNat
def dpB (ls : List (List Itm)) (s : ByteArray) (n : Int) : Bool := validC ls && okP (ls[dpK ls s]?.getD []) s n
def dpL (ls : List (List Itm)) (s : ByteArray) (n : Int) : List (List Itm) := ifM (dpB ls s n) (ls.set (dpK ls s) (putL (ls[dpK ls s]?.getD []) s n))
theorem dp_no {ls : List (List Itm)} {s : ByteArray} {n : Int} (h : validC ls = false) : dpB ls s n = false ∧ dpL ls s n = [] := by
  unfold dpL dpB
  rw [h]
  exact ⟨rfl, rfl⟩
theorem dp_at {ls : List (List Itm)} {s : ByteArray} {n : Int} {k : Nat} (h : validC ls = true) (hk : k < ls.length) (hw : dpK ls s = k) : dpB ls s n = okP ls[k] s n ∧ dpL ls s n = ifM (okP ls[k] s n) (ls.set k (putL ls[k] s n)) := by
  unfold dpL dpB
  rw [h, hw, List.getElem?_eq_getElem hk]
  exact ⟨rfl, rfl⟩
theorem dp_k {ls : List (List Itm)} {s : ByteArray} (h : 0 < ls.length) : ∃ k, k < ls.length ∧ dpK ls s = k ∧ ((whP ls s = -1 ∧ k = 0) ∨ whP ls s = (k : Int)) := by
  rcases wh_cases ls s with h1 | ⟨k, hk, h1, _⟩
  · exact ⟨0, h, by unfold dpK; rw [h1.1]; rfl, .inl ⟨h1.1, rfl⟩⟩
  · exact ⟨k, hk, by unfold dpK; rw [h1]; rfl, .inr h1⟩
theorem dp_of {ls : List (List Itm)} {s : ByteArray} {n : Int} {k : Nat} (h : validC ls = true) (hk : k < ls.length) (hw : dpK ls s = k) : validC (ls.set k (putI ls[k] s n)) = dpB ls s n ∧ ifM (validC (ls.set k (putI ls[k] s n))) (ls.set k (putI ls[k] s n)) = dpL ls s n := by
  have h1 := (validC_iff.1 h).1 _ (List.getElem_mem hk)
  have e := dp_at (n := n) h hk hw
  have e1 : validC (ls.set k (putI ls[k] s n)) = okP ls[k] s n := by
    rw [validC_set h hk]
    unfold okP
    rw [h1]
    rfl
  rw [e.1, e.2, e1]
  refine ⟨rfl, ?_⟩
  cases hb : okP ls[k] s n
  · rfl
  · unfold putL
    rw [hb]
    rfl
theorem dp_le (ls : List (List Itm)) (s : ByteArray) (n : Int) : tot (dpL ls s n) ≤ 10000000 := by
  cases hv : validC ls
  · rw [(dp_no hv).2]
    simp [tot]
  · have h0 : 0 < ls.length := by have := validC_iff.1 hv; omega
    obtain ⟨k, hk, hw, _⟩ := dp_k (s := s) h0
    rw [← (dp_of (n := n) hv hk hw).2]
    cases hb : validC (ls.set k (putI ls[k] s n))
    · simp [ifM, tot]
    · have := tot_mem hb
      simp only [ifM, if_true]
      omega

def ddB (ls : List (List Itm)) (s : ByteArray) : Bool := validC ls && decide (0 ≤ whP ls s)
def ddL (ls : List (List Itm)) (s : ByteArray) : List (List Itm) := ifM (ddB ls s) (ls.set (dpK ls s) (delI (ls[dpK ls s]?.getD []) s))
theorem dd_no {ls : List (List Itm)} {s : ByteArray} (h : validC ls = false ∨ whP ls s = -1) : ddB ls s = false ∧ ddL ls s = [] := by
  unfold ddL ddB
  rcases h with h | h
  · rw [h]; exact ⟨rfl, rfl⟩
  · rw [h]; simp [ifM]
theorem dd_yes {ls : List (List Itm)} {s : ByteArray} {k : Nat} (h : validC ls = true) (hk : k < ls.length) (hw : whP ls s = (k : Int)) (hh : hasI ls[k] s = true) : ddB ls s = true ∧ ddL ls s = ls.set k (delI ls[k] s) ∧ okG ls[k] s = true ∧ drpL ls[k] s = delI ls[k] s := by
  have h1 := (validC_iff.1 h).1 _ (List.getElem_mem hk)
  have e1 : dpK ls s = k := by unfold dpK; rw [hw]; rfl
  have e2 : okG ls[k] s = true := by unfold okG; rw [h1, hh]; rfl
  have e3 : ddB ls s = true := by unfold ddB; rw [h, hw]; simp
  refine ⟨e3, ?_, e2, drpL_yes e2⟩
  unfold ddL
  rw [e3, e1, List.getElem?_eq_getElem hk]
  rfl
theorem tot_set_le {ls : List (List Itm)} {k : Nat} (hk : k < ls.length) {l : List Itm} (hl : l.length ≤ ls[k].length) : tot (ls.set k l) ≤ tot ls := by
  induction ls generalizing k with
  | nil => simp at hk
  | cons x r ih =>
    cases k with
    | zero => simp only [List.set_cons_zero, tot]; simp at hl; omega
    | succ k =>
      simp at hk hl
      have := ih hk hl
      simp only [List.set_cons_succ, tot]
      omega
theorem dd_le (ls : List (List Itm)) (s : ByteArray) : tot (ddL ls s) ≤ 10000000 := by
  cases hv : validC ls
  · rw [(dd_no (.inl hv)).2]; simp [tot]
  · rcases wh_cases ls s with h1 | ⟨k, hk, h1, _, h3⟩
    · rw [(dd_no (.inr h1.1)).2]; simp [tot]
    · rw [(dd_yes hv hk h1 h3).2.1]
      have := tot_set_le hk (del_le ls[k] s)
      have := tot_mem hv
      omega
theorem WhereIs_v {v : Value} {ls : List (List Itm)} {s : ByteArray} {r : Int} (w : World) (h : Maps w v ls) (hr : whC ls s = r) : Calls Try.prog 31 #[.agg #[v], .string s] w fun e w' => e = .returned (.int .i64 r) ∧ Below w.heap.size w w' := by
  subst hr
  exact WhereIs_any v ls s w h

set_option maxHeartbeats 1600000 in
set_option maxRecDepth 100000 in
theorem DeepDrop_any (v : Value) (ls : List (List Itm)) (s : ByteArray) (w : World) (h : Maps w v ls) :
    Calls Try.prog 43 #[.agg #[v], .string s] w (NewM (fun v => .tuple #[.agg #[v], .bool (ddB ls s)]) (ddL ls s) w) := by
  have hM := Lib.hid h
  clear h
  go_enter Try.func43, Try.ntmps43
  have HA : Hid (Below w.heap.size w ((w.alloc (.cells #[v] 29)).alloc (.cells #[.slice none 0 0] 29))) := ((Below.refl _ _).alloc (Nat.le_refl _) _).alloc (by simp) _
  have F0 := Lib.hid ((One.new w 29 v).below (B := w.heap.size + 1) ((Below.refl _ _).alloc (by simp) (.cells #[.slice none 0 0] 29)) (by omega))
  have F1' := One.new (w.alloc (.cells #[v] 29)) 29 (.slice none 0 0)
  simp at F1'
  have F1 := Lib.hid F1'
  clear F1'
  have c0 := F0.out.cell
  have HCC : (Hid (whC ls s = -1) ∧ Hid (ddB ls s = false ∧ ddL ls s = [])) ∨ ∃ k : Nat, k < ls.length ∧ Hid (whC ls s = (k : Int)) ∧ validC ls = true ∧ Hid (ddB ls s = true ∧ ∃ h : k < ls.length, ddL ls s = ls.set k (delI ls[k] s) ∧ okG ls[k] s = true ∧ drpL ls[k] s = delI ls[k] s) := by
    cases hv : validC ls
    · exact .inl ⟨whC_no hv, dd_no (.inl hv)⟩
    · rcases wh_cases ls s with h1 | ⟨k, hk, h1, _, h3⟩
      · exact .inl ⟨(whC_yes hv).trans h1.1, dd_no (.inr h1.1)⟩
      · have := dd_yes hv hk h1 h3
        exact .inr ⟨k, hk, (whC_yes hv).trans h1, rfl, this.1, hk, this.2⟩
  rcases HCC with ⟨HW, HD⟩ | ⟨k, hk, HW, hv, HD⟩
  · go_wp2_with fail
    refine (WhereIs_v _ (hM.out.mono HA.out (Nat.le_refl _)) HW.out).mono ?_
    rintro e w1 ⟨rfl, hb1⟩
    have hs1 := hb1.size
    simp at hs1 hb1
    have hw1 := Lib.hid (HA.out.trans (hb1.mono (by omega)))
    have G1 := Lib.hid (F1.out.below hb1 (by omega))
    have e0 := G1.out.cell
    have f0 := G1.out.free
    have HB : Hid (Below w.heap.size w (w1.setCell ⟨w.heap.size + 1, 0, none⟩ (.slice none 0 0))) := hw1.out.setCell (by simp) _
    clear c0 hb1
    go_wp2
    refine bodyPost_ret (v := okV (.slice none 0 0) false) (by simp [okV, results, Try.results43, go_sem, e0]) rfl ⟨_, ret_m rfl HD.out.1.symm, ?_, HB.out⟩
    rw [HD.out.2]
    exact OwnM.nil _ _ _
  · have ht := tot_mem hv
    go_wp2_with fail
    refine (WhereIs_v _ (hM.out.mono HA.out (Nat.le_refl _)) HW.out).mono ?_
    rintro e w1 ⟨rfl, hb1⟩
    have hs1 := hb1.size
    simp at hs1 hb1
    have hw1 := Lib.hid (HA.out.trans (hb1.mono (by omega)))
    have G0 := Lib.hid (F0.out.below hb1 (by omega))
    have G1 := Lib.hid (F1.out.below hb1 (by omega))
    clear c0 hb1
    have c0 := G0.out.cell
    have HP := Lib.hid (dropAt_any v ls k s w1 (hM.out.mono hw1.out (Nat.le_refl _)) hk (by omega) (by omega))
    rw [HD.out.2.2.2.1, HD.out.2.2.2.2, ← HD.out.2.2.1] at HP
    have hkn : ¬ ((k : Int) < 0) := by omega
    go_wp2_with fail
    refine HP.out.mono ?_
    rintro e w2 ⟨v2, rfl, ho2, hb2⟩
    have H2 := Lib.hid (G1.out.below hb2 G1.out.lt)
    obtain ⟨vo, L, vc, rfl⟩ := ho2.shape
    have e0 := H2.out.cell
    have f0 := H2.out.free
    have HO := Lib.hid (ho2.other H2.out (by decide) (by decide) ((Keeps.refl _ _).one 0 (.slice vo L vc)))
    have HB : Hid (Below w.heap.size w (w2.setCell ⟨w.heap.size + 1, 0, none⟩ (.slice vo L vc))) := (hw1.out.trans (hb2.mono hw1.out.size)).setCell (by simp) _
    clear c0 ho2 hb2
    go_wp2
    exact bodyPost_ret (v := okV (.slice vo L vc) true) (by simp [okV, results, Try.results43, go_sem, e0]) rfl ⟨_, ret_m rfl HD.out.1.symm, HO.out.wide (by omega) (by simp), HB.out⟩
end Go.Proofs.Ytojepjpmegbdmaa
