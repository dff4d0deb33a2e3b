/-
  The model's functions over items in order: a default, another key, laid over, turned.
-/
import Derived.Test.YtfinniedlbkhcaaSOrd2
import Derived.Test.YtfinniedlbkhcaaImplP
namespace Go.Proofs.Ytfinniedlbkhcaa
open Go.RowKit

/-! ### a default -/
set_option maxHeartbeats 1600000 in
set_option maxRecDepth 100000 in
theorem sDefaultItem_any (v : Value) (xs : List Itm) (s : ByteArray) (n : Int) (w : World) (h : Items w v xs) (hs : s.size ≤ 9223372036854775807) (hi : -9223372036854775808 ≤ n ∧ n ≤ 9223372036854775807) :
    Calls Try.prog 49 #[v, .string s, .int .i64 n] w (NewLI (defL xs s n) (defN xs s n) (okD xs s n) w) := by
  go_enter Try.func49, Try.ntmps49
  cases hv : validI xs
  all_goals
    have HV := Lib.hid hv
    clear hv
    go_wp2_with fail
    refine (sVi_v _ h HV.out).mono ?_
    rintro e w1 ⟨rfl, hb1⟩
  · have HO := Lib.hid (show okD xs s n = false by unfold okD okP; rw [HV.out]; rfl)
    have HL := Lib.hid (show defL xs s n = [] by have := HO.out; unfold okD at this; unfold defL putL; rw [this]; rfl)
    have HN := Lib.hid (show defN xs s n = 0 by unfold defN; rw [HO.out]; rfl)
    go_wp2
    go_ret3
    exact ⟨_, ret_lib rfl HN.out.symm HO.out.symm, by rw [HL.out]; exact OwnI_nil _ _ _, hb1⟩
  · have hl := valid_len HV.out
    cases hh : hasI xs s
    · have HH := Lib.hid hh
      have hdn : defI xs s n = n := by unfold defI; rw [hh]; rfl
      have HD := Lib.hid hdn
      clear hh hdn
      go_wp2_with fail
      refine (place_no _ (h.mono hb1 (Nat.le_refl _)) HH.out).mono ?_
      rintro e w2 ⟨rfl, rfl⟩
      go_wp2_with fail
      refine (put_any _ _ _ _ _ (h.mono hb1 (Nat.le_refl _)) (by omega) hs hi).mono ?_
      rintro e w2 ⟨v2, rfl, ho2, hb2⟩
      cases hp : validI (putI xs s n)
      all_goals
        have HP := Lib.hid hp
        clear hp
        go_wp2_with fail
        refine (sVi_v _ ho2.items HP.out).mono ?_
        rintro e w3 ⟨rfl, hb3⟩
      · have HO := Lib.hid (show okD xs s n = false by unfold okD okP; rw [HD.out, HP.out, Bool.and_false])
        have HL := Lib.hid (show defL xs s n = [] by have := HO.out; unfold okD at this; unfold defL putL; rw [this]; rfl)
        have HN := Lib.hid (show defN xs s n = 0 by unfold defN; rw [HO.out]; rfl)
        go_wp2
        go_ret3
        exact ⟨_, ret_lib rfl HN.out.symm HO.out.symm, by rw [HL.out]; exact OwnI_nil _ _ _, hb1.trans ((hb2.trans (hb3.mono hb2.size)).mono hb1.size)⟩
      · have HO := Lib.hid (show okD xs s n = true by unfold okD okP; rw [HD.out, HP.out, HV.out]; rfl)
        have HL := Lib.hid (show defL xs s n = putI xs s n by have := HO.out; unfold okD at this; unfold defL putL; rw [this, HD.out]; rfl)
        have HN := Lib.hid (show defN xs s n = n by unfold defN; rw [HO.out, HD.out]; rfl)
        go_wp2
        go_ret3
        exact ⟨_, ret_lib rfl HN.out.symm HO.out.symm, by rw [HL.out]; exact (ho2.below hb3 (Nat.le_refl _)).base hb1.size, hb1.trans ((hb2.trans (hb3.mono hb2.size)).mono hb1.size)⟩
    · obtain ⟨k, hk, h1, h2, _⟩ := placeI_del xs s 0 hh
      have HH := Lib.hid hh
      have H1 := Lib.hid (h1.trans (by simp) : placeI xs s 0 = (k : Int))
      have hdn : defI xs s n = cnt xs s := by unfold defI; rw [hh]; rfl
      have hput : putI xs s (cnt xs s) = xs := putI_self hh
      have HO := Lib.hid (show okD xs s n = true by unfold okD okP; rw [hdn, hput, HV.out]; rfl)
      have HL := Lib.hid (show defL xs s n = xs by have := HO.out; unfold okD at this; unfold defL putL; rw [this, hdn, hput]; rfl)
      have HN := Lib.hid (show defN xs s n = cnt xs s by unfold defN; rw [HO.out, hdn]; rfl)
      have HI := Lib.hid (h.mono hb1 (Nat.le_refl _))
      obtain ⟨b, o, cap, rfl, hlc, hcm, hb, c1, c2⟩ := HI.out.at hk
      rw [h2] at c1 c2
      have HB := Lib.hid hb
      clear hh h1 h2 hdn hput h hb
      go_wp2_with fail
      refine (place_at _ HI.out H1.out).mono ?_
      rintro e w2 ⟨rfl, rfl⟩
      go_wp2_with fail
      go_region_held3 (fun w' : World => (w'.cell? ⟨b, o + k * 2, none⟩ = some (.string s) ∧ w'.cell? ⟨b, o + k * 2 + 1, none⟩ = some (.int .i64 (cnt xs s))) ∧ Below w1.heap.size w1 w')
        (first | exact ⟨⟨c1, c2⟩, (Below.refl _ _).drew⟩ | assumption | exact hS2)
        (first | (go_at_call 109; refine (copyItems_any _ xs _ (Items.mono HI.out (below_of (by assumption)) (Nat.le_refl _)) (by omega)).mono ?_; rintro e w2 ⟨v2, rfl, ho2, hb2⟩; have hS2 := Two.go (x := (s, cnt xs s)) (by assumption) HB.out hb2))
      go_wp2
      go_ret3
      exact ⟨_, ret_lib rfl HN.out.symm HO.out.symm, by rw [HL.out]; exact ho2.base hb1.size, hb1.trans (hS2.2.mono hb1.size)⟩

/-! ### another key -/
theorem okI_ren {l : List Itm} (h : okI l) (k : Nat) (x : Itm) (hx : okI [x]) : okI (l.set k x) := fun y hy => by
  rcases List.mem_or_eq_of_mem_set hy with hy | rfl
  · exact h y hy
  · exact hx _ (by simp)
theorem renL_chk {xs : List Itm} {s t : ByteArray} (hv : validI xs = true) (hh : hasI xs s = true) (ht : hasI xs t = false) : renL xs s t = chkL (renI xs s t) ∧ okR xs s t = validI (renI xs s t) := by
  have e : okR xs s t = validI (renI xs s t) := by unfold okR; rw [hv, hh, ht]; rfl
  exact ⟨by unfold renL chkL; rw [e], e⟩
theorem renL_no {xs : List Itm} {s t : ByteArray} (h : (validI xs && hasI xs s && !hasI xs t) = false) : renL xs s t = [] ∧ okR xs s t = false := by
  have e : okR xs s t = false := by unfold okR; rw [h]; rfl
  exact ⟨by unfold renL; rw [e]; rfl, e⟩

set_option maxHeartbeats 1600000 in
set_option maxRecDepth 100000 in
theorem sRenameItem_any (v : Value) (xs : List Itm) (s t : ByteArray) (w : World) (h : Items w v xs) (ht : t.size ≤ 9223372036854775807) :
    Calls Try.prog 51 #[v, .string s, .string t] w (NewI2 (renL xs s t) (okR xs s t) w) := by
  go_enter Try.func51, Try.ntmps51
  cases hh : hasI xs s
  · have HH := Lib.hid hh
    have HR := Lib.hid (renL_no (xs := xs) (s := s) (t := t) (by rw [hh]; simp))
    clear hh
    go_wp2_with fail
    refine (place_no _ h HH.out).mono ?_
    rintro e w1 ⟨rfl, rfl⟩
    cases hv : validI xs
    all_goals
      have HV := Lib.hid hv
      clear hv
      go_wp2_with fail
      refine (sVi_v _ h HV.out).mono ?_
      rintro e w2 ⟨rfl, hb2⟩
      go_wp2
      go_ret2
      exact ⟨_, ret_lb rfl HR.out.2.symm, by rw [HR.out.1]; exact OwnI_nil _ _ _, hb2⟩
  · obtain ⟨k, hk, h1, h2, _, h4, _⟩ := placeI_del xs s 0 hh
    have HH := Lib.hid hh
    have H1 := Lib.hid (h1.trans (by simp) : placeI xs s 0 = (k : Int))
    have H2 := Lib.hid h2
    have H4 := Lib.hid (h4 t)
    clear hh h1 h2 h4
    go_wp2_with fail
    refine (place_at _ h H1.out).mono ?_
    rintro e w1 ⟨rfl, rfl⟩
    cases hv : validI xs
    all_goals
      have HV := Lib.hid hv
      clear hv
      go_wp2_with fail
      refine (sVi_v _ h HV.out).mono ?_
      rintro e w2 ⟨rfl, hb2⟩
    · have HR := Lib.hid (renL_no (xs := xs) (s := s) (t := t) (by rw [HV.out]; rfl))
      go_wp2
      go_ret2
      exact ⟨_, ret_lb rfl HR.out.2.symm, by rw [HR.out.1]; exact OwnI_nil _ _ _, hb2⟩
    · have hl := valid_len HV.out
      have HI := Lib.hid (h.mono hb2 (Nat.le_refl _))
      cases htt : hasI xs t
      · have HT := Lib.hid htt
        have HR := Lib.hid (renL_chk HV.out HH.out htt)
        clear htt
        go_wp2_with fail
        refine (place_no _ HI.out HT.out).mono ?_
        rintro e w3 ⟨rfl, rfl⟩
        go_wp2_with fail
        refine (copyItems_any v xs _ HI.out (by omega)).mono ?_
        rintro e w3 ⟨v3, rfl, ho3, hb3⟩
        have hown := ho3.1
        obtain ⟨g, cap', rfl, hgc, hgB⟩ := own_shape hown (by omega)
        have c1 := row_cell_at hown (cells_at hk).1
        have f1 := hown.frozenAt (k * 2)
        have hst := (hown.stored (k * 2) (.string t)).1
        rw [cellsI_setKey xs k hk t, H2.out, ← H4.out] at hst
        have HOW : Hid (OwnI 40 (w3.setCell ⟨g, k * 2, none⟩ (.string t)) w2.heap.size (.slice (some ⟨g, 0, none⟩) xs.length cap') (renI xs s t)) := by
          refine ⟨?_, ?_⟩
          · rw [show (renI xs s t).length = xs.length by rw [H4.out]; simp]
            exact hst
          · have hc := ho3.2 _ (List.getElem_mem hk)
            rw [H2.out] at hc
            rw [H4.out]
            exact okI_ren ho3.2 k _ (okI_pair ht hc.2)
        have HB3 : Hid (Below w2.heap.size w2 (w3.setCell ⟨g, k * 2, none⟩ (.string t))) := hb3.setCell hgB _
        clear hst hb3 hown
        go_wp2_with fail
        refine (schecked_any _ HOW.out).mono ?_
        rintro e w4 ⟨v4, rfl, ho4, hb4⟩
        go_wp2
        go_ret2
        refine ⟨_, ret_lb rfl HR.out.2.symm, ?_, hb2.trans ((HB3.out.trans (hb4.mono HB3.out.size)).mono hb2.size)⟩
        rw [HR.out.1]
        exact ho4.base hb2.size
      · obtain ⟨j, hj, g1, _⟩ := placeI_del xs t 0 htt
        have HT := Lib.hid htt
        have G1 := Lib.hid (g1.trans (by simp) : placeI xs t 0 = (j : Int))
        have HR := Lib.hid (renL_no (xs := xs) (s := s) (t := t) (by rw [HV.out, HH.out, htt]; rfl))
        clear htt g1
        go_wp2_with fail
        refine (place_at _ HI.out G1.out).mono ?_
        rintro e w3 ⟨rfl, rfl⟩
        go_wp2
        go_ret2
        exact ⟨_, ret_lb rfl HR.out.2.symm, by rw [HR.out.1]; exact OwnI_nil _ _ _, hb2⟩

/-! ### laid over -/
theorem okI_over {a b : List Itm} (ha : okI a) (hb : okI b) : okI (overI a b) := by
  induction b generalizing a with
  | nil => exact ha
  | cons x r ih => exact ih (okI_put ha (hb x (by simp)).1 (hb x (by simp)).2) (fun y hy => hb y (by simp [hy]))

set_option maxHeartbeats 1600000 in
set_option maxRecDepth 100000 in
theorem soverlaid_any (va vb : Value) (a b : List Itm) (w : World) (ha : Items w va a) (hb : Items w vb b) (hla : a.length ≤ 1000) (hlb : b.length ≤ 1000) :
    Calls Try.prog 108 #[va, vb] w (FreshI (overI a b) w) := by
  obtain ⟨ao, cap, rfl, hlc, hcm, hok, hcell⟩ := hb
  go_enter Try.func108, Try.ntmps108
  go_wp2_with fail
  refine (copyItems_any va a w ha (by omega)).mono ?_
  rintro e w1 ⟨v1, rfl, ho1, hb1⟩
  clear ha
  go_wp2
  go_loopw [5, 6] (fun x i wr => ∃ k : Nat, k ≤ b.length ∧ i = .int .i64 k ∧ OwnI 40 wr w.heap.size x (overI a (b.take k)) ∧ Below w.heap.size w wr) (fun _ i _ => b.length - (intOf i).toNat)
  case atStart => exact ⟨0, Nat.zero_le _, rfl, ho1, hb1⟩
  case round =>
    obtain ⟨k, hk, rfl, hrow, hbl⟩ := hrel
    by_cases hlt : k < b.length
    · obtain ⟨b1, o1, rfl, hb1', h1, h2⟩ := hcell k hlt
      have c1 := (hbl.cell (p := ⟨b1, _, none⟩) hb1').trans h1
      have c2 := (hbl.cell (p := ⟨b1, _, none⟩) hb1').trans h2
      have hx := hok _ (List.getElem_mem hlt)
      have hln := overI_len (b.take k) a
      have htk := List.length_take_le k b
      have hI := Lib.hid hrow.items
      obtain ⟨xo, xcap, rfl, _, _⟩ := own_slice hrow.1
      have HT := Lib.hid (overI_take (a := a) hlt)
      clear h1 h2
      go_wp2_with fail
      go_still_tail 11, (by kernel_rfl)
      change wpList _ _ _ _ _ wr.drew
      go_wp2_with fail
      refine (put_any _ _ _ _ _ (Items.drew hI.out) (by omega) hx.1 hx.2).mono ?_
      rintro e w2 ⟨v2, rfl, ho2, hb2⟩
      have ho3 := Lib.hid (ho2.base (show w.heap.size ≤ wr.drew.heap.size from hbl.size))
      have hb3 := Lib.hid (hbl.drew.trans (hb2.mono hbl.size))
      clear ho2 hb2 c1 c2 hln htk hrow
      go_wp2
      go_roundw
      case rel => exact ⟨k + 1, by omega, by go_num, by rw [HT.out]; exact ho3.out, hb3.out⟩
      case measure => simp [intOf]; omega
    · obtain rfl : k = b.length := by omega
      rw [List.take_length] at hrow
      go_wp2
      go_ret
      exact ⟨_, rfl, hrow, hbl⟩

theorem over_chk {a b : List Itm} (h : okB a b = true) : overL a b = chkL (overI a b) ∧ okO a b = validI (overI a b) := by
  have e : okO a b = validI (overI a b) := by unfold okO; rw [h, Bool.true_and]
  exact ⟨by unfold overL chkL; rw [e], e⟩
theorem over_no {a b : List Itm} (h : okB a b = false) : overL a b = [] ∧ okO a b = false := by
  have e : okO a b = false := by unfold okO; rw [h, Bool.false_and]
  exact ⟨by unfold overL; rw [e]; rfl, e⟩
theorem okB_yes {a b : List Itm} (h : okB a b = true) : validI a = true ∧ validI b = true := by unfold okB at h; simpa using h

theorem sOverItems_any (va vb : Value) (a b : List Itm) (w : World) (ha : Items w va a) (hb : Items w vb b) :
    Calls Try.prog 47 #[va, vb] w (NewI2 (overL a b) (okO a b) w) := by
  go_enter Try.func47, Try.ntmps47
  cases hv : okB a b
  all_goals
    have H := Lib.hid hv
    clear hv
    go_wp2_with fail
    refine (both_v _ ha hb H.out).mono ?_
    rintro e w1 ⟨rfl, hb1⟩
  · have HR := Lib.hid (over_no H.out)
    go_wp2
    go_ret2
    exact ⟨_, ret_lb rfl HR.out.2.symm, by rw [HR.out.1]; exact OwnI_nil _ _ _, hb1⟩
  · have HR := Lib.hid (over_chk H.out)
    have hl1 := valid_len (okB_yes H.out).1
    have hl2 := valid_len (okB_yes H.out).2
    go_wp2_with fail
    refine (soverlaid_any _ _ _ _ _ (ha.mono hb1 (Nat.le_refl _)) (hb.mono hb1 (Nat.le_refl _)) (by omega) (by omega)).mono ?_
    rintro e w2 ⟨v2, rfl, ho2, hb2⟩
    go_wp2_with fail
    refine (schecked_any _ ho2).mono ?_
    rintro e w3 ⟨v3, rfl, ho3, hb3⟩
    go_wp2
    go_ret2
    refine ⟨_, ret_lb rfl HR.out.2.symm, ?_, hb1.trans ((hb2.trans (hb3.mono hb2.size)).mono hb1.size)⟩
    rw [HR.out.1]
    exact ho3.base hb1.size

/-! ### turned -/
set_option maxHeartbeats 1600000 in
set_option maxRecDepth 100000 in
theorem sTurnItems_any (v : Value) (xs : List Itm) (w : World) (h : Items w v xs) :
    Calls Try.prog 53 #[v] w (NewI (turL xs) w) := by
  go_enter Try.func53, Try.ntmps53
  cases hv : validI xs
  all_goals
    have HV := Lib.hid hv
    clear hv
    go_wp2_with fail
    refine (sVi_v _ h HV.out).mono ?_
    rintro e w1 ⟨rfl, hb1⟩
  · go_wp2
    go_ret
    exact ⟨_, rfl, by unfold turL; rw [HV.out]; exact OwnI_nil _ _ _, hb1⟩
  · have hl := valid_len HV.out
    have HL := Lib.hid (show turL xs = xs.reverse by unfold turL; rw [HV.out]; rfl)
    obtain ⟨ao, cap, rfl, hlc, hcm, hok, hcell⟩ := h.mono hb1 (Nat.le_refl _)
    obtain ⟨i0, hi0, hz0, hz1, hz2⟩ := info_parts Try.infoI
    have hown0 := World.ownsRow_lit (base := w1.heap.size) (e := 40) (size := 2) w1 #[] 0 (Nat.le_refl _) (by unfold maxLen; omega) rfl
    clear h
    go_wp2
    go_loopw [3, 4] (fun x i wr => ∃ k : Nat, k ≤ xs.length ∧ i = .int .i64 ((xs.length : Int) - 1 - k) ∧ wr.ownsRow w1.heap.size 40 2 x k (cellsI ((xs.reverse).take k)) ∧ Below w1.heap.size w1 wr ∧ w1.heap.size < wr.heap.size) (fun _ i _ => (intOf i + 1).toNat)
    case atStart => exact ⟨0, Nat.zero_le _, by go_num, hown0, (Below.refl _ _).alloc (Nat.le_refl _) _, by simp⟩
    case round =>
      obtain ⟨k, hk, rfl, hrow, hbl, hsz⟩ := hrel
      by_cases hlt : k < xs.length
      · obtain ⟨j, hj⟩ : ∃ j : Nat, j = xs.length - 1 - k := ⟨_, rfl⟩
        have hjl : j < xs.length := by omega
        obtain ⟨b, o, rfl, hb, h1, h2⟩ := hcell j hjl
        have c1 := (hbl.cell (p := ⟨b, _, none⟩) hb).trans h1
        have c2 := (hbl.cell (p := ⟨b, _, none⟩) hb).trans h2
        have ej : (xs.length : Int) - 1 - (k : Int) = (j : Int) := by omega
        rw [ej]
        have hrv : (xs.reverse).take (k + 1) = (xs.reverse).take k ++ [xs[j]] := by
          rw [List.take_succ_eq_append_getElem (by simpa using hlt), List.getElem_reverse]
          simp only [hj]
        have e1 := Lib.hid hrv
        have HJ := Lib.hid hj
        have HEJ := Lib.hid ej
        clear h1 h2 hrv hj ej
        obtain ⟨xo, xcap, rfl, _, _⟩ := own_slice hrow
        have hs' := hok _ (List.getElem_mem hjl)
        go_wp2_with (at_builtin; refine wpl_append_items _ rfl _ _ rfl w1.heap.size (.slice xo k xcap) k (cellsI ((xs.reverse).take k)) rfl (hrow.alloc _) (.slice (some ⟨wr.heap.size, 0, none⟩) 1 1) [xs[j]] rfl (Items_one _ _ _ _ hs'.1 hs'.2) (by omega) (by simp) (by simp; omega) ?_; intro v' w2 hown2 hgrow2)
        have hs2 := hgrow2.size
        simp at hs2
        have hrow3 : w2.ownsRow w1.heap.size 40 2 v' (k + 1) (cellsI ((xs.reverse).take (k + 1))) := by
          rw [e1.out, cellsI_append]; exact hown2
        have hb3 := (hbl.alloc (Nat.le_of_lt hsz) _).grown hgrow2 (by simp; omega) (fun j hj => (hrow.lt j hj).1)
        clear hown2 hrow c1 c2 hgrow2
        go_roundw
        case rel => exact ⟨k + 1, by omega, by have := HEJ.out; go_num, hrow3, hb3, by omega⟩
        case measure => simp [intOf]
      · obtain rfl : k = xs.length := by omega
        rw [List.take_of_length_le (by simp)] at hrow
        have hokr : okI xs.reverse := fun x hx => hok x (List.mem_reverse.1 hx)
        go_wp2
        go_ret
        refine ⟨_, rfl, ?_, hb1.trans (hbl.mono hb1.size)⟩
        rw [HL.out]
        refine OwnI.base ⟨?_, hokr⟩ hb1.size
        rw [List.length_reverse]
        exact hrow
end Go.Proofs.Ytfinniedlbkhcaa
