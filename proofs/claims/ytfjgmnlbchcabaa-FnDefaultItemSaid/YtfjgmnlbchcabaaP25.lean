/-
  SOrd3, ImplQ, Pop.
-/
import Derived.Test.YtfjgmnlbchcabaaP12
import Derived.Test.YtfjgmnlbchcabaaP13
import Derived.Test.YtfjgmnlbchcabaaP21
/-
  The model's functions over items in order: a default, another key, laid over, turned.
-/
namespace Go.Proofs.Ytfjgmnlbchcabaa
open Go.RowKit

/-! ### a default -/
set_option maxHeartbeats 1600000 in
set_option maxRecDepth 100000 in
theorem sDefaultItem_any (v : Value) (xs : List Itm) (s : ByteArray) (n : Int) (w : World) (h : Items w v xs) (hs : s.size ≤ 9223372036854775807) (hi : -9223372036854775808 ≤ n ∧ n ≤ 9223372036854775807) :
    Calls Try.prog 25 #[v, .string s, .int .i64 n] w (NewLI (defL xs s n) (defN xs s n) (okD xs s n) w) := by
  go_enter Try.func25, Try.ntmps25
  cases hv : validI xs
  all_goals
    have HV := Lib.hid hv
    clear hv
    go_wp2_with fail
    refine (sVi_v _ h HV.out).mono ?_
    rintro e w1 ⟨rfl, hb1⟩
  · have HO := Lib.hid (show okD xs s n = false by unfold okD okP; rw [HV.out]; rfl)
    have HL := Lib.hid (show defL xs s n = [] by have := HO.out; unfold okD at this; unfold defL putL; rw [this]; rfl)
    have HN := Lib.hid (show defN xs s n = 0 by unfold defN; rw [HO.out]; rfl)
    go_wp2
    go_ret3
    exact ⟨_, ret_lib rfl HN.out.symm HO.out.symm, by rw [HL.out]; exact OwnI_nil _ _ _, hb1⟩
  · have hl := valid_len HV.out
    cases hh : hasI xs s
    · have HH := Lib.hid hh
      have hdn : defI xs s n = n := by unfold defI; rw [hh]; rfl
      have HD := Lib.hid hdn
      clear hh hdn
      go_wp2_with fail
      refine (place_no _ (h.mono hb1 (Nat.le_refl _)) HH.out).mono ?_
      rintro e w2 ⟨rfl, rfl⟩
      go_wp2_with fail
      refine (put_any _ _ _ _ _ (h.mono hb1 (Nat.le_refl _)) (by omega) hs hi).mono ?_
      rintro e w2 ⟨v2, rfl, ho2, hb2⟩
      cases hp : validI (putI xs s n)
      all_goals
        have HP := Lib.hid hp
        clear hp
        go_wp2_with fail
        refine (sVi_v _ ho2.items HP.out).mono ?_
        rintro e w3 ⟨rfl, hb3⟩
      · have HO := Lib.hid (show okD xs s n = false by unfold okD okP; rw [HD.out, HP.out, Bool.and_false])
        have HL := Lib.hid (show defL xs s n = [] by have := HO.out; unfold okD at this; unfold defL putL; rw [this]; rfl)
        have HN := Lib.hid (show defN xs s n = 0 by unfold defN; rw [HO.out]; rfl)
        go_wp2
        go_ret3
        exact ⟨_, ret_lib rfl HN.out.symm HO.out.symm, by rw [HL.out]; exact OwnI_nil _ _ _, hb1.trans ((hb2.trans (hb3.mono hb2.size)).mono hb1.size)⟩
      · have HO := Lib.hid (show okD xs s n = true by unfold okD okP; rw [HD.out, HP.out, HV.out]; rfl)
        have HL := Lib.hid (show defL xs s n = putI xs s n by have := HO.out; unfold okD at this; unfold defL putL; rw [this, HD.out]; rfl)
        have HN := Lib.hid (show defN xs s n = n by unfold defN; rw [HO.out, HD.out]; rfl)
        go_wp2
        go_ret3
        exact ⟨_, ret_lib rfl HN.out.symm HO.out.symm, by rw [HL.out]; exact (ho2.below hb3 (Nat.le_refl _)).base hb1.size, hb1.trans ((hb2.trans (hb3.mono hb2.size)).mono hb1.size)⟩
    · obtain ⟨k, hk, h1, h2, _⟩ := placeI_del xs s 0 hh
      have HH := Lib.hid hh
      have H1 := Lib.hid (h1.trans (by simp) : placeI xs s 0 = (k : Int))
      have hdn : defI xs s n = cnt xs s := by unfold defI; rw [hh]; rfl
      have hput : putI xs s (cnt xs s) = xs := putI_self hh
      have HO := Lib.hid (show okD xs s n = true by unfold okD okP; rw [hdn, hput, HV.out]; rfl)
      have HL := Lib.hid (show defL xs s n = xs by have := HO.out; unfold okD at this; unfold defL putL; rw [this, hdn, hput]; rfl)
      have HN := Lib.hid (show defN xs s n = cnt xs s by unfold defN; rw [HO.out, hdn]; rfl)
      have HI := Lib.hid (h.mono hb1 (Nat.le_refl _))
      obtain ⟨b, o, cap, rfl, hlc, hcm, hb, c1, c2⟩ := HI.out.at hk
      rw [h2] at c1 c2
      have HB := Lib.hid hb
      clear hh h1 h2 hdn hput h hb
      go_wp2_with fail
      refine (place_at _ HI.out H1.out).mono ?_
      rintro e w2 ⟨rfl, rfl⟩
      go_wp2_with fail
      go_region_held3 (fun w' : World => (w'.cell? ⟨b, o + k * 2, none⟩ = some (.string s) ∧ w'.cell? ⟨b, o + k * 2 + 1, none⟩ = some (.int .i64 (cnt xs s))) ∧ Below w1.heap.size w1 w')
        (first | exact ⟨⟨c1, c2⟩, (Below.refl _ _).drew⟩ | assumption | exact hS2)
        (first | (go_at_call 74; refine (copyItems_any _ xs _ (Items.mono HI.out (below_of (by assumption)) (Nat.le_refl _)) (by omega)).mono ?_; rintro e w2 ⟨v2, rfl, ho2, hb2⟩; have hS2 := Two.go (x := (s, cnt xs s)) (by assumption) HB.out hb2))
      go_wp2
      go_ret3
      exact ⟨_, ret_lib rfl HN.out.symm HO.out.symm, by rw [HL.out]; exact ho2.base hb1.size, hb1.trans (hS2.2.mono hb1.size)⟩

/-! ### another key -/
theorem okI_ren {l : List Itm} (h : okI l) (k : Nat) (x : Itm) (hx : okI [x]) : okI (l.set k x) := fun y hy => by
  rcases List.mem_or_eq_of_mem_set hy with hy | rfl
  · exact h y hy
  · exact hx _ (by simp)
theorem renL_chk {xs : List Itm} {s t : ByteArray} (hv : validI xs = true) (hh : hasI xs s = true) (ht : hasI xs t = false) : renL xs s t = chkL (renI xs s t) ∧ okR xs s t = validI (renI xs s t) := by
  have e : okR xs s t = validI (renI xs s t) := by unfold okR; rw [hv, hh, ht]; rfl
  exact ⟨by unfold renL chkL; rw [e], e⟩
theorem renL_no {xs : List Itm} {s t : ByteArray} (h : (validI xs && hasI xs s && !hasI xs t) = false) : renL xs s t = [] ∧ okR xs s t = false := by
  have e : okR xs s t = false := by unfold okR; rw [h]; rfl
  exact ⟨by unfold renL; rw [e]; rfl, e⟩

set_option maxHeartbeats 1600000 in
set_option maxRecDepth 100000 in
theorem sRenameItem_any (v : Value) (xs : List Itm) (s t : ByteArray) (w : World) (h : Items w v xs) (ht : t.size ≤ 9223372036854775807) :
    Calls Try.prog 28 #[v, .string s, .string t] w (NewI2 (renL xs s t) (okR xs s t) w) := by
  go_enter Try.func28, Try.ntmps28
  cases hh : hasI xs s
  · have HH := Lib.hid hh
    have HR := Lib.hid (renL_no (xs := xs) (s := s) (t := t) (by rw [hh]; simp))
    clear hh
    go_wp2_with fail
    refine (place_no _ h HH.out).mono ?_
    rintro e w1 ⟨rfl, rfl⟩
    cases hv : validI xs
    all_goals
      have HV := Lib.hid hv
      clear hv
      go_wp2_with fail
      refine (sVi_v _ h HV.out).mono ?_
      rintro e w2 ⟨rfl, hb2⟩
      go_wp2
      go_ret2
      exact ⟨_, ret_lb rfl HR.out.2.symm, by rw [HR.out.1]; exact OwnI_nil _ _ _, hb2⟩
  · obtain ⟨k, hk, h1, h2, _, h4, _⟩ := placeI_del xs s 0 hh
    have HH := Lib.hid hh
    have H1 := Lib.hid (h1.trans (by simp) : placeI xs s 0 = (k : Int))
    have H2 := Lib.hid h2
    have H4 := Lib.hid (h4 t)
    clear hh h1 h2 h4
    go_wp2_with fail
    refine (place_at _ h H1.out).mono ?_
    rintro e w1 ⟨rfl, rfl⟩
    cases hv : validI xs
    all_goals
      have HV := Lib.hid hv
      clear hv
      go_wp2_with fail
      refine (sVi_v _ h HV.out).mono ?_
      rintro e w2 ⟨rfl, hb2⟩
    · have HR := Lib.hid (renL_no (xs := xs) (s := s) (t := t) (by rw [HV.out]; rfl))
      go_wp2
      go_ret2
      exact ⟨_, ret_lb rfl HR.out.2.symm, by rw [HR.out.1]; exact OwnI_nil _ _ _, hb2⟩
    · have hl := valid_len HV.out
      have HI := Lib.hid (h.mono hb2 (Nat.le_refl _))
      cases htt : hasI xs t
      · have HT := Lib.hid htt
        have HR := Lib.hid (renL_chk HV.out HH.out htt)
        clear htt
        go_wp2_with fail
        refine (place_no _ HI.out HT.out).mono ?_
        rintro e w3 ⟨rfl, rfl⟩
        go_wp2_with fail
        refine (copyItems_any v xs _ HI.out (by omega)).mono ?_
        rintro e w3 ⟨v3, rfl, ho3, hb3⟩
        have hown := ho3.1
        obtain ⟨g, cap', rfl, hgc, hgB⟩ := own_shape hown (by omega)
        have c1 := row_cell_at hown (cells_at hk).1
        have f1 := hown.frozenAt (k * 2)
        have hst := (hown.stored (k * 2) (.string t)).1
        rw [cellsI_setKey xs k hk t, H2.out, ← H4.out] at hst
        have HOW : Hid (OwnI 32 (w3.setCell ⟨g, k * 2, none⟩ (.string t)) w2.heap.size (.slice (some ⟨g, 0, none⟩) xs.length cap') (renI xs s t)) := by
          refine ⟨?_, ?_⟩
          · rw [show (renI xs s t).length = xs.length by rw [H4.out]; simp]
            exact hst
          · have hc := ho3.2 _ (List.getElem_mem hk)
            rw [H2.out] at hc
            rw [H4.out]
            exact okI_ren ho3.2 k _ (okI_pair ht hc.2)
        have HB3 : Hid (Below w2.heap.size w2 (w3.setCell ⟨g, k * 2, none⟩ (.string t))) := hb3.setCell hgB _
        clear hst hb3 hown
        go_wp2_with fail
        refine (schecked_any _ HOW.out).mono ?_
        rintro e w4 ⟨v4, rfl, ho4, hb4⟩
        go_wp2
        go_ret2
        refine ⟨_, ret_lb rfl HR.out.2.symm, ?_, hb2.trans ((HB3.out.trans (hb4.mono HB3.out.size)).mono hb2.size)⟩
        rw [HR.out.1]
        exact ho4.base hb2.size
      · obtain ⟨j, hj, g1, _⟩ := placeI_del xs t 0 htt
        have HT := Lib.hid htt
        have G1 := Lib.hid (g1.trans (by simp) : placeI xs t 0 = (j : Int))
        have HR := Lib.hid (renL_no (xs := xs) (s := s) (t := t) (by rw [HV.out, HH.out, htt]; rfl))
        clear htt g1
        go_wp2_with fail
        refine (place_at _ HI.out G1.out).mono ?_
        rintro e w3 ⟨rfl, rfl⟩
        go_wp2
        go_ret2
        exact ⟨_, ret_lb rfl HR.out.2.symm, by rw [HR.out.1]; exact OwnI_nil _ _ _, hb2⟩

/-! ### laid over -/
theorem okI_over {a b : List Itm} (ha : okI a) (hb : okI b) : okI (overI a b) := by
  induction b generalizing a with
  | nil => exact ha
  | cons x r ih => exact ih (okI_put ha (hb x (by simp)).1 (hb x (by simp)).2) (fun y hy => hb y (by simp [hy]))

set_option maxHeartbeats 1600000 in
set_option maxRecDepth 100000 in
theorem soverlaid_any (va vb : Value) (a b : List Itm) (w : World) (ha : Items w va a) (hb : Items w vb b) (hla : a.length ≤ 1000) (hlb : b.length ≤ 1000) :
    Calls Try.prog 67 #[va, vb] w (FreshI (overI a b) w) := by
  obtain ⟨ao, cap, rfl, hlc, hcm, hok, hcell⟩ := hb
  go_enter Try.func67, Try.ntmps67
  go_wp2_with fail
  refine (copyItems_any va a w ha (by omega)).mono ?_
  rintro e w1 ⟨v1, rfl, ho1, hb1⟩
  clear ha
  go_wp2
  go_loopw [5, 6] (fun x i wr => ∃ k : Nat, k ≤ b.length ∧ i = .int .i64 k ∧ OwnI 32 wr w.heap.size x (overI a (b.take k)) ∧ Below w.heap.size w wr) (fun _ i _ => b.length - (intOf i).toNat)
  case atStart => exact ⟨0, Nat.zero_le _, rfl, ho1, hb1⟩
  case round =>
    obtain ⟨k, hk, rfl, hrow, hbl⟩ := hrel
    by_cases hlt : k < b.length
    · obtain ⟨b1, o1, rfl, hb1', h1, h2⟩ := hcell k hlt
      have c1 := (hbl.cell (p := ⟨b1, _, none⟩) hb1').trans h1
      have c2 := (hbl.cell (p := ⟨b1, _, none⟩) hb1').trans h2
      have hx := hok _ (List.getElem_mem hlt)
      have hln := overI_len (b.take k) a
      have htk := List.length_take_le k b
      have hI := Lib.hid hrow.items
      obtain ⟨xo, xcap, rfl, _, _⟩ := own_slice hrow.1
      have HT := Lib.hid (overI_take (a := a) hlt)
      clear h1 h2
      go_wp2_with fail
      go_still_tail 11, (by kernel_rfl)
      change wpList _ _ _ _ _ wr.drew
      go_wp2_with fail
      refine (put_any _ _ _ _ _ (Items.drew hI.out) (by omega) hx.1 hx.2).mono ?_
      rintro e w2 ⟨v2, rfl, ho2, hb2⟩
      have ho3 := Lib.hid (ho2.base (show w.heap.size ≤ wr.drew.heap.size from hbl.size))
      have hb3 := Lib.hid (hbl.drew.trans (hb2.mono hbl.size))
      clear ho2 hb2 c1 c2 hln htk hrow
      go_wp2
      go_roundw
      case rel => exact ⟨k + 1, by omega, by go_num, by rw [HT.out]; exact ho3.out, hb3.out⟩
      case measure => simp [intOf]; omega
    · obtain rfl : k = b.length := by omega
      rw [List.take_length] at hrow
      go_wp2
      go_ret
      exact ⟨_, rfl, hrow, hbl⟩

theorem over_chk {a b : List Itm} (h : okB a b = true) : overL a b = chkL (overI a b) ∧ okO a b = validI (overI a b) := by
  have e : okO a b = validI (overI a b) := by unfold okO; rw [h, Bool.true_and]
  exact ⟨by unfold overL chkL; rw [e], e⟩
theorem over_no {a b : List Itm} (h : okB a b = false) : overL a b = [] ∧ okO a b = false := by
  have e : okO a b = false := by unfold okO; rw [h, Bool.false_and]
  exact ⟨by unfold overL; rw [e]; rfl, e⟩
theorem okB_yes {a b : List Itm} (h : okB a b = true) : validI a = true ∧ validI b = true := by unfold okB at h; simpa using h

theorem sOverItems_any (va vb : Value) (a b : List Itm) (w : World) (ha : Items w va a) (hb : Items w vb b) :
    Calls Try.prog 17 #[va, vb] w (NewI2 (overL a b) (okO a b) w) := by
  go_enter Try.func17, Try.ntmps17
  cases hv : okB a b
  all_goals
    have H := Lib.hid hv
    clear hv
    go_wp2_with fail
    refine (both_v _ ha hb H.out).mono ?_
    rintro e w1 ⟨rfl, hb1⟩
  · have HR := Lib.hid (over_no H.out)
    go_wp2
    go_ret2
    exact ⟨_, ret_lb rfl HR.out.2.symm, by rw [HR.out.1]; exact OwnI_nil _ _ _, hb1⟩
  · have HR := Lib.hid (over_chk H.out)
    have hl1 := valid_len (okB_yes H.out).1
    have hl2 := valid_len (okB_yes H.out).2
    go_wp2_with fail
    refine (soverlaid_any _ _ _ _ _ (ha.mono hb1 (Nat.le_refl _)) (hb.mono hb1 (Nat.le_refl _)) (by omega) (by omega)).mono ?_
    rintro e w2 ⟨v2, rfl, ho2, hb2⟩
    go_wp2_with fail
    refine (schecked_any _ ho2).mono ?_
    rintro e w3 ⟨v3, rfl, ho3, hb3⟩
    go_wp2
    go_ret2
    refine ⟨_, ret_lb rfl HR.out.2.symm, ?_, hb1.trans ((hb2.trans (hb3.mono hb2.size)).mono hb1.size)⟩
    rw [HR.out.1]
    exact ho3.base hb1.size

/-! ### turned -/
set_option maxHeartbeats 1600000 in
set_option maxRecDepth 100000 in
theorem sTurnItems_any (v : Value) (xs : List Itm) (w : World) (h : Items w v xs) :
    Calls Try.prog 32 #[v] w (NewI (turL xs) w) := by
  go_enter Try.func32, Try.ntmps32
  cases hv : validI xs
  all_goals
    have HV := Lib.hid hv
    clear hv
    go_wp2_with fail
    refine (sVi_v _ h HV.out).mono ?_
    rintro e w1 ⟨rfl, hb1⟩
  · go_wp2
    go_ret
    exact ⟨_, rfl, by unfold turL; rw [HV.out]; exact OwnI_nil _ _ _, hb1⟩
  · have hl := valid_len HV.out
    have HL := Lib.hid (show turL xs = xs.reverse by unfold turL; rw [HV.out]; rfl)
    obtain ⟨ao, cap, rfl, hlc, hcm, hok, hcell⟩ := h.mono hb1 (Nat.le_refl _)
    obtain ⟨i0, hi0, hz0, hz1, hz2⟩ := info_parts Try.infoI
    have hown0 := World.ownsRow_lit (base := w1.heap.size) (e := 32) (size := 2) w1 #[] 0 (Nat.le_refl _) (by unfold maxLen; omega) rfl
    clear h
    go_wp2
    go_loopw [3, 4] (fun x i wr => ∃ k : Nat, k ≤ xs.length ∧ i = .int .i64 ((xs.length : Int) - 1 - k) ∧ wr.ownsRow w1.heap.size 32 2 x k (cellsI ((xs.reverse).take k)) ∧ Below w1.heap.size w1 wr ∧ w1.heap.size < wr.heap.size) (fun _ i _ => (intOf i + 1).toNat)
    case atStart => exact ⟨0, Nat.zero_le _, by go_num, hown0, (Below.refl _ _).alloc (Nat.le_refl _) _, by simp⟩
    case round =>
      obtain ⟨k, hk, rfl, hrow, hbl, hsz⟩ := hrel
      by_cases hlt : k < xs.length
      · obtain ⟨j, hj⟩ : ∃ j : Nat, j = xs.length - 1 - k := ⟨_, rfl⟩
        have hjl : j < xs.length := by omega
        obtain ⟨b, o, rfl, hb, h1, h2⟩ := hcell j hjl
        have c1 := (hbl.cell (p := ⟨b, _, none⟩) hb).trans h1
        have c2 := (hbl.cell (p := ⟨b, _, none⟩) hb).trans h2
        have ej : (xs.length : Int) - 1 - (k : Int) = (j : Int) := by omega
        rw [ej]
        have hrv : (xs.reverse).take (k + 1) = (xs.reverse).take k ++ [xs[j]] := by
          rw [List.take_succ_eq_append_getElem (by simpa using hlt), List.getElem_reverse]
          simp only [hj]
        have e1 := Lib.hid hrv
        have HJ := Lib.hid hj
        have HEJ := Lib.hid ej
        clear h1 h2 hrv hj ej
        obtain ⟨xo, xcap, rfl, _, _⟩ := own_slice hrow
        have hs' := hok _ (List.getElem_mem hjl)
        go_wp2_with (at_builtin; refine wpl_append_items _ rfl _ _ rfl w1.heap.size (.slice xo k xcap) k (cellsI ((xs.reverse).take k)) rfl (hrow.alloc _) (.slice (some ⟨wr.heap.size, 0, none⟩) 1 1) [xs[j]] rfl (Items_one _ _ _ _ hs'.1 hs'.2) (by omega) (by simp) (by simp; omega) ?_; intro v' w2 hown2 hgrow2)
        have hs2 := hgrow2.size
        simp at hs2
        have hrow3 : w2.ownsRow w1.heap.size 32 2 v' (k + 1) (cellsI ((xs.reverse).take (k + 1))) := by
          rw [e1.out, cellsI_append]; exact hown2
        have hb3 := (hbl.alloc (Nat.le_of_lt hsz) _).grown hgrow2 (by simp; omega) (fun j hj => (hrow.lt j hj).1)
        clear hown2 hrow c1 c2 hgrow2
        go_roundw
        case rel => exact ⟨k + 1, by omega, by have := HEJ.out; go_num, hrow3, hb3, by omega⟩
        case measure => simp [intOf]
      · obtain rfl : k = xs.length := by omega
        rw [List.take_of_length_le (by simp)] at hrow
        have hokr : okI xs.reverse := fun x hx => hok x (List.mem_reverse.1 hx)
        go_wp2
        go_ret
        refine ⟨_, rfl, ?_, hb1.trans (hbl.mono hb1.size)⟩
        rw [HL.out]
        refine OwnI.base ⟨?_, hokr⟩ hb1.size
        rw [List.length_reverse]
        exact hrow
end Go.Proofs.Ytfjgmnlbchcabaa
/-
  The program's items renamed, and laid over.
-/
namespace Go.Proofs.Ytfjgmnlbchcabaa
open Go.RowKit

set_option maxHeartbeats 1600000 in
set_option maxRecDepth 100000 in
theorem RenameItem_any (v : Value) (xs : List Itm) (s t : ByteArray) (w : World) (h : Items w v xs) (ht : t.size ≤ 9223372036854775807) :
    Calls Try.prog 27 #[v, .string s, .string t] w (NewI2 (renL xs s t) (okR xs s t) w) := by
  go_enter Try.func27, Try.ntmps27
  cases hg : okG xs s
  · have HG := Lib.hid hg
    have HR := Lib.hid (renL_no (xs := xs) (s := s) (t := t) (by unfold okG at hg; rw [hg]; rfl))
    clear hg
    go_wp2_with fail
    refine (findItem_no _ _ s _ h HG.out).mono ?_
    rintro e w1 ⟨u, rfl, hb1⟩
    go_wp2
    go_ret2
    exact ⟨_, ret_lb rfl HR.out.2.symm, by rw [HR.out.1]; exact OwnI_nil _ _ _, hb1⟩
  · have HG := Lib.hid hg
    have hy := okG_yes hg
    clear hg
    go_wp2_with fail
    refine (findItem_yes _ _ s _ h hy.1 hy.2).mono ?_
    rintro e w1 ⟨r, rt, p, a, x, q, rfl, hxs, hx, hp, hR, hb1⟩
    have hlen := ring_len hxs hy.1
    have HB1 := Lib.hid hb1
    cases htt : hasI xs t
    · have HREN := Lib.hid (renL_chk hy.1 hy.2 htt)
      have HF := Lib.hid (find_no (l := p ++ (a, x) :: q) (s := t) (by rw [hxs]; exact htt))
      have HI := Lib.hid (show its (p ++ (a, (t, x.2)) :: q) = renI xs s t by
        rw [← hxs, its_app, its_app]
        exact (renI_sp hx hp t).symm)
      have hxo : okI [(t, x.2)] := okI_pair ht ((hR.ok x (by simp)).2)
      have hl2 : (p ++ (a, (t, x.2)) :: q).length ≤ 8 := by simp at hlen ⊢; omega
      clear hxs hx hp hy h htt hb1
      go_wp2_with fail
      refine (hasKey_any t w1).mono ?_
      rintro e w2 ⟨rfl, rfl⟩
      go_wp2_with fail
      refine (look_any hR (fun k (hk : k < w.heap.size) => Nat.lt_of_lt_of_le hk HB1.out.size) t).mono ?_
      rw [HF.out]
      rintro e w2 ⟨rfl, hR2, hk2, hb2⟩
      have hnd := chain_at hR2
      have c1 := (nd_cells hnd).1
      have f1 := nd_free hnd 0
      have hKa : ¬ (a < w.heap.size) := hR2.out.2 a (List.mem_cons_of_mem _ (by simp))
      have HR3 := Lib.hid (ring_val (y := (t, x.2)) hR2 hxo (j := 0) (u := .string t) (fun p q hN => nd_set0 hN t))
      have HB3 : Hid (Below w.heap.size w (w2.setCell ⟨a, 0, none⟩ (.string t))) := (HB1.out.trans (hb2.mono HB1.out.size)).setCell (Nat.le_of_not_lt hKa) _
      clear hR hR2 hk2 hb2 hnd
      go_wp2_with fail
      refine (values_any HR3.out (by omega)).mono ?_
      rintro e w3 ⟨v3, rfl, ho3, hb3⟩
      rw [HI.out] at ho3
      go_wp2_with fail
      refine (checked_any _ ho3).mono ?_
      rintro e w4 ⟨v4, rfl, ho4, hb4⟩
      have HB4 := Lib.hid (HB3.out.trans (hb3.mono HB3.out.size))
      go_wp2
      go_ret2
      refine ⟨_, ret_lb rfl HREN.out.2.symm, ?_, HB4.out.trans (hb4.mono HB4.out.size)⟩
      rw [HREN.out.1]
      exact ho4.base HB3.out.size
    · obtain ⟨p', a', x', q', hsp, _, _, hf⟩ := find_yes (l := p ++ (a, x) :: q) (s := t) (by rw [hxs]; exact htt)
      have HF := Lib.hid hf
      have HREN := Lib.hid (renL_no (xs := xs) (s := s) (t := t) (by rw [htt]; simp))
      clear hxs hx hp hy h htt hb1 hsp hf
      go_wp2_with fail
      refine (hasKey_any t w1).mono ?_
      rintro e w2 ⟨rfl, rfl⟩
      go_wp2_with fail
      refine (look_any hR (fun k (hk : k < w.heap.size) => Nat.lt_of_lt_of_le hk HB1.out.size) t).mono ?_
      rw [HF.out]
      rintro e w2 ⟨rfl, hR2, hk2, hb2⟩
      go_wp2
      go_ret2
      exact ⟨_, ret_lb rfl HREN.out.2.symm, by rw [HREN.out.1]; exact OwnI_nil _ _ _, HB1.out.trans (hb2.mono HB1.out.size)⟩

set_option maxHeartbeats 1600000 in
set_option maxRecDepth 100000 in
theorem OverItems_any (va vb : Value) (a b : List Itm) (w : World) (ha : Items w va a) (hb : Items w vb b) :
    Calls Try.prog 16 #[va, vb] w (NewI2 (overL a b) (okO a b) w) := by
  go_enter Try.func16, Try.ntmps16
  cases hv : okB a b
  all_goals
    have H := Lib.hid hv
    clear hv
    go_wp2_with fail
    refine (bothValid_v _ ha hb H.out).mono ?_
    rintro e w1 ⟨rfl, hb1⟩
  · have HR := Lib.hid (over_no H.out)
    go_wp2
    go_ret2
    exact ⟨_, ret_lb rfl HR.out.2.symm, by rw [HR.out.1]; exact OwnI_nil _ _ _, hb1⟩
  · have HR := Lib.hid (over_chk H.out)
    have hl1 := valid_len (okB_yes H.out).1
    have hl2 := valid_len (okB_yes H.out).2
    have HB1 := Lib.hid hb1
    have hbI := hb.mono hb1 (Nat.le_refl _)
    clear hb1
    go_wp2_with fail
    refine (ringOf_any _ _ _ (ha.mono HB1.out (Nat.le_refl _)) (by omega)).mono ?_
    rintro e w2 ⟨r, rt, ns0, rfl, hns, hR0, hb2⟩
    have HNS := Lib.hid hns
    have HR0 := Lib.hid hR0
    have HB2 := Lib.hid hb2
    obtain ⟨ao, cap, rfl, hlc, hcm, hok, hcell⟩ := hbI
    clear hns hR0 hb2 ha hb
    go_wp2
    go_loopw [17] (fun i wr => ∃ (k : Nat) (ns : List Nod), k ≤ b.length ∧ i = .int .i64 k ∧ Hid (its ns = overI a (b.take k)) ∧ Hid (RingAt (· < w1.heap.size) wr r rt ns) ∧ Hid (Below w1.heap.size w1 wr)) (fun i _ => b.length - (intOf i).toNat)
    case atStart => exact ⟨0, ns0, Nat.zero_le _, rfl, HNS.out, HR0.out, HB2.out⟩
    case round =>
      obtain ⟨k, ns, hk, rfl, HN, HRR, HB⟩ := hrel
      have hln : ns.length ≤ 100 := by
        have h1 := congrArg List.length HN.out
        have h2 := overI_len (b.take k) a
        have h3 := List.length_take_le k b
        rw [its_len] at h1
        omega
      by_cases hlt : k < b.length
      · obtain ⟨b1, o1, rfl, hb1', h1, h2⟩ := hcell k hlt
        have c1 := (HB.out.cell (p := ⟨b1, _, none⟩) hb1').trans h1
        have c2 := (HB.out.cell (p := ⟨b1, _, none⟩) hb1').trans h2
        have hx := hok _ (List.getElem_mem hlt)
        have HT := Lib.hid (overI_take (a := a) hlt)
        have HR1 := Lib.hid (HRR.out.below ((Below.refl wr.heap.size wr).alloc (Nat.le_refl _) (.cells #[.string b[k].1, .int .i64 b[k].2] 32)))
        clear h1 h2
        go_wp2_with fail
        refine (putIn_any (fun j (hj : j < w1.heap.size) => Nat.lt_of_lt_of_le hj (size_alloc_le HB.out.size _)) HR1.out b[k].1 b[k].2 (okI_pair hx.1 hx.2) (by omega)).mono ?_
        rintro e w3 ⟨p, a', q, rfl, hput, hp, hR3, hk3⟩
        have HN3 : Hid (its (p ++ (a', (b[k].1, b[k].2)) :: q) = overI a (b.take (k + 1))) := by
          unfold Hid
          rw [hput, HT.out, HN.out]
        have HR3 := Lib.hid hR3
        have HB3 : Hid (Below w1.heap.size w1 w3) := (HB.out.alloc HB.out.size _).trans (hk3.below (fun _ h => h))
        clear hput hp hR3 hk3 HR1 HT HN HRR HB c1 c2
        go_wp2
        go_roundw
        case rel => exact ⟨k + 1, _, by omega, by go_num, HN3, HR3, HB3⟩
        case measure => simp [intOf]; omega
      · obtain rfl : k = b.length := by omega
        have HN2 := Lib.hid (show its ns = overI a b by rw [HN.out, List.take_length])
        clear HN
        go_wp2_with fail
        refine (values_any HRR.out (by omega)).mono ?_
        rintro e w3 ⟨v3, rfl, ho3, hb3⟩
        rw [HN2.out] at ho3
        go_wp2_with fail
        refine (checked_any _ ho3).mono ?_
        rintro e w4 ⟨v4, rfl, ho4, hb4⟩
        have HB4 := Lib.hid (HB.out.trans (hb3.mono HB.out.size))
        go_wp2
        go_ret2
        refine ⟨_, ret_lb rfl HR.out.2.symm, ?_, HB1.out.trans ((HB4.out.trans (hb4.mono HB4.out.size)).mono HB1.out.size)⟩
        rw [HR.out.1]
        exact ho4.base (Nat.le_trans HB1.out.size HB.out.size)
end Go.Proofs.Ytfjgmnlbchcabaa
/-
  An item taken off an end, by the model and by the program.
-/
namespace Go.Proofs.Ytfjgmnlbchcabaa
open Go.RowKit

def NewX (l : List Itm) (x : Itm) (b : Bool) : World → Ending → World → Prop := NewL (fun v => .tuple #[v, .agg #[.string x.1, .int .i64 x.2], .bool b]) l
theorem ret_lxb {a b : Value} {x y : Itm} {c d : Bool} (h : a = b) (h1 : x = y) (h' : c = d) : Ending.returned (.tuple #[a, .agg #[.string x.1, .int .i64 x.2], .bool c]) = .returned (.tuple #[b, .agg #[.string y.1, .int .i64 y.2], .bool d]) := by rw [h, h1, h']
theorem okE_no {xs : List Itm} (h : validI xs = false ∨ xs = []) : okE xs = false := by
  unfold okE
  rcases h with h | h
  · rw [h]; rfl
  · rw [h]; simp
theorem pop_no {xs : List Itm} {last : Bool} (h : okE xs = false) : popL xs last = [] ∧ popX xs last = zI := by
  unfold popL popX
  rw [h]
  exact ⟨rfl, rfl⟩
theorem pop_yes {xs : List Itm} {last : Bool} (hv : validI xs = true) (hn : xs ≠ []) : okE xs = true ∧ popL xs last = popI xs last ∧ popX xs last = endI xs last := by
  have e : okE xs = true := by
    unfold okE
    rw [hv]
    cases xs with
    | nil => exact absurd rfl hn
    | cons x r => rfl
  unfold popL popX
  rw [e]
  exact ⟨rfl, rfl, rfl⟩
theorem pop_first {xs : List Itm} (h : 0 < xs.length) : xs.take 0 ++ xs.drop (0 + 1) = popI xs false ∧ xs[0] = endI xs false := by
  cases xs with
  | nil => simp at h
  | cons x r => exact ⟨rfl, rfl⟩
theorem pop_last {xs : List Itm} {k : Nat} (h : k < xs.length) (hk : k = xs.length - 1) : xs.take k ++ xs.drop (k + 1) = popI xs true ∧ xs[k] = endI xs true := by
  subst hk
  refine ⟨?_, ?_⟩
  · rw [List.drop_eq_nil_of_le (by omega), List.append_nil]
    show _ = xs.dropLast
    rw [List.dropLast_eq_take]
  · show _ = xs.getLastD zI
    rw [List.getLastD_eq_getLast?, List.getLast?_eq_getElem?, List.getElem?_eq_getElem h]
    rfl

theorem pop_le (xs : List Itm) (last : Bool) : (popL xs last).length ≤ 10000000 := by
  refine if_len (fun h => ?_)
  have hv : validI xs = true := by unfold okE at h; simp at h; exact h.1
  have hl := valid_len hv
  unfold popI
  cases last
  · simp; omega
  · simp; omega

theorem pop_ring_first {ns : List Nod} {xs : List Itm} (h : its ns = xs) (hl : 0 < xs.length) : ∃ a x q, ns = (a, x) :: q ∧ its q = popI xs false ∧ x = endI xs false := by
  cases ns with
  | nil => subst h; simp at hl
  | cons n q => exact ⟨n.1, n.2, q, rfl, by subst h; rfl, by subst h; rfl⟩
theorem pop_ring_last {ns : List Nod} {xs : List Itm} (h : its ns = xs) (hl : 0 < xs.length) : ∃ p a x, ns = p ++ [(a, x)] ∧ its p = popI xs true ∧ x = endI xs true := by
  have hn : ns ≠ [] := by
    intro e
    subst e; subst h; simp at hl
  obtain ⟨p, n, rfl⟩ : ∃ p n, ns = p ++ [n] := ⟨ns.dropLast, ns.getLast hn, (List.dropLast_concat_getLast hn).symm⟩
  subst h
  refine ⟨p, n.1, n.2, rfl, ?_, ?_⟩
  · show its p = (its (p ++ [n])).dropLast
    rw [its_app]; simp
  · show n.2 = (its (p ++ [n])).getLastD zI
    rw [its_app]; simp
theorem lst_snoc (p : List Nod) (a rt : Nat) (x : Itm) : lstOr rt (p ++ [(a, x)]) = a := by rw [lstOr_app]; rfl

set_option maxHeartbeats 1600000 in
set_option maxRecDepth 100000 in
theorem PopItem_any (v : Value) (xs : List Itm) (last : Bool) (w : World) (h : Items w v xs) :
    Calls Try.prog 34 #[v, .bool last] w (NewX (popL xs last) (popX xs last) (okE xs) w) := by
  go_enter Try.func34, Try.ntmps34
  have HA : Hid (Below w.heap.size w (w.alloc (.cells #[.string ⟨#[]⟩, .int .i64 0] 32))) := (Below.refl _ _).alloc (Nat.le_refl _) _
  cases hv : validI xs
  all_goals
    have HV := Lib.hid hv
    clear hv
    go_wp2_with fail
    refine (Vi_v _ (h.mono HA.out (Nat.le_refl _)) HV.out).mono ?_
    rintro e w1 ⟨rfl, hb1⟩
    obtain ⟨hc, hf⟩ := bcell hb1
    simp at hc hf
    have c0 := hc w.heap.size 0 (by omega)
    have c1 := hc w.heap.size 1 (by omega)
    have f0 := hf w.heap.size 0 (by omega)
    have f1 := hf w.heap.size 1 (by omega)
    simp at c0 c1 f0 f1
    clear hc hf
  · have HP := Lib.hid (pop_no (last := last) (okE_no (.inl HV.out)))
    have HO := Lib.hid (okE_no (.inl HV.out))
    have hs1 := hb1.size
    simp at hs1
    go_wp2
    exact bodyPost_ret (v := .tuple #[.slice none 0 0, .agg #[.string ⟨#[]⟩, .int .i64 0], .bool false]) (by simp [results, Try.results34, go_sem, c0, c1]) rfl ⟨_, ret_lxb rfl HP.out.2.symm HO.out.symm, by rw [HP.out.1]; exact OwnI_nil _ _ _, ((HA.out.trans (hb1.mono (by simp))).setCell (Nat.le_refl _) _).setCell (Nat.le_refl _) _⟩
  · have hs1 := hb1.size
    simp at hs1
    by_cases hn : xs = []
    · have HP := Lib.hid (pop_no (last := last) (okE_no (.inr hn)))
      have HO := Lib.hid (okE_no (.inr hn))
      obtain ⟨ao, cap, rfl, hlc, hcm, _, _⟩ := h
      subst hn
      go_wp2
      exact bodyPost_ret (v := .tuple #[.slice none 0 0, .agg #[.string ⟨#[]⟩, .int .i64 0], .bool false]) (by simp [results, Try.results34, go_sem, c0, c1]) rfl ⟨_, ret_lxb rfl HP.out.2.symm HO.out.symm, by rw [HP.out.1]; exact OwnI_nil _ _ _, ((HA.out.trans (hb1.mono (by simp))).setCell (Nat.le_refl _) _).setCell (Nat.le_refl _) _⟩
    · have HP := Lib.hid (pop_yes (last := last) HV.out hn)
      have hlen : 0 < xs.length := List.length_pos_iff.2 hn
      have hl := valid_len HV.out
      have HB1 : Hid (Below w.heap.size w w1) := HA.out.trans (hb1.mono (by simp))
      have HI := Lib.hid (h.mono HB1.out (Nat.le_refl _))
      clear hb1 h hn
      obtain ⟨ao, cap, rfl, hlc, hcm, _, _⟩ := HI.out
      go_wp2_with fail
      refine (ringOf_any _ xs _ HI.out (by omega)).mono ?_
      rintro e w2 ⟨r, rt, ns, rfl, hns, hR, hb2⟩
      obtain ⟨hc, hf⟩ := bcell hb2
      have c0' := (hc w.heap.size 0 hs1).trans c0
      have c1' := (hc w.heap.size 1 hs1).trans c1
      have f0' := (hf w.heap.size 0 hs1).trans f0
      have f1' := (hf w.heap.size 1 hs1).trans f1
      have HR := Lib.hid hR
      have HB2 := Lib.hid (HB1.out.trans (hb2.mono HB1.out.size))
      have HKB : Hid (w1.heap.size ≤ w2.heap.size) := hb2.size
      clear hR hb2 hc hf c0 c1 f0 f1
      cases last
      · obtain ⟨a, x, q, rfl, hq, hx⟩ := pop_ring_first hns hlen
        have HQ := Lib.hid hq
        have HX := Lib.hid hx
        have hlq : ((a, x) :: q).length ≤ 8 := by rw [← its_len, hns]; exact hl
        clear hns hq hx
        go_wp2_with fail
        refine (show Calls Try.prog 87 #[.pointer (some ⟨r, 0, none⟩)] w2 (fun e w' => e = .returned (.pointer (some ⟨a, 0, none⟩)) ∧ w2 = w') from first_any HR.out).mono ?_
        rintro e w3 ⟨rfl, rfl⟩
        go_wp2_with fail
        refine (cut_any (l := []) (r2 := q) (a := a) (x := x) HR.out (by simp at hlq ⊢; omega)).mono ?_
        rintro e w3 ⟨rfl, hR3, ⟨⟨u1, u2, hN⟩, _, hKa, _⟩, hk3, hs3⟩
        have HR3 := Lib.hid (show RingAt _ w3.drew r rt q from RingAt.below hR3 (Below.refl _ _).drew)
        have c0 := (hk3.cell (a := ⟨w.heap.size, 0, none⟩) hs1).trans c0'
        have c1 := (hk3.cell (a := ⟨w.heap.size, 1, none⟩) hs1).trans c1'
        have f0 : w3.frozen? ⟨w.heap.size, 0, none⟩ = false := by
          rw [← f0']; unfold World.frozen?; rw [hk3.block w.heap.size hs1]
        have f1 : w3.frozen? ⟨w.heap.size, 1, none⟩ = false := by
          rw [← f1']; unfold World.frozen?; rw [hk3.block w.heap.size hs1]
        have cN := ndx_cells hN
        have d0 := cN.1
        have d1 := cN.2.1
        rw [HX.out, ← HP.out.2.2] at d0 d1
        have ha3 : a < w3.heap.size := World.block_lt_of_cell? _ _ d0
        have HB3 : Hid (Below w.heap.size w w3) := HB2.out.trans (hk3.below (fun k hk => Nat.lt_of_lt_of_le hk HB1.out.size))
        have hs13 : w.heap.size < w3.heap.size := by have := HKB.out; omega
        have hl3 : (q).length ≤ 8 := by simp at hlq ⊢; omega
        clear hR3 c0' c1' f0' f1' hk3 hs3 hN cN hKa
        go_wp2_with fail
        go_region_law (first
          | (go_simp; go_at_call 64; refine (values_any HR3.out (by omega)).mono ?_; rintro e w4 ⟨v4, rfl, ho4, hb4⟩; obtain ⟨hc, hf⟩ := bcell hb4; have d0' := (hc a 0 ha3).trans d0; have d1' := (hc a 1 ha3).trans d1; have c0' := (hc w.heap.size 0 hs13).trans c0; have c1' := (hc w.heap.size 1 hs13).trans c1; have f0' := (hf w.heap.size 0 hs13).trans f0; have f1' := (hf w.heap.size 1 hs13).trans f1))
        all_goals go_wp2
        all_goals exact bodyPost_ret (v := .tuple #[v4, .agg #[.string (popX xs false).1, .int .i64 (popX xs false).2], .bool true]) (by simp [results, Try.results34, go_sem, Act.put, c0', c1']) rfl ⟨_, ret_lxb rfl rfl HP.out.1.symm, by
          rw [HP.out.2.1, ← HQ.out]
          exact (ho4.past (((Keeps.refl _ _).past hs13 _).past hs13 _)).base HB3.out.size, ((HB3.out.trans ((Below.undrew hb4).mono HB3.out.size)).setCell (Nat.le_refl _) _).setCell (Nat.le_refl _) _⟩
      · obtain ⟨p, a, x, rfl, hq, hx⟩ := pop_ring_last hns hlen
        have HQ := Lib.hid hq
        have HX := Lib.hid hx
        have hlq : (p ++ [(a, x)]).length ≤ 8 := by rw [← its_len, hns]; exact hl
        clear hns hq hx
        go_wp2_with fail
        refine (first_any HR.out).mono ?_
        rintro e w3 ⟨rfl, rfl⟩
        go_wp2_with fail
        refine (show Calls Try.prog 88 #[.pointer (some ⟨r, 0, none⟩)] w2 (fun e w' => e = .returned (.pointer (some ⟨a, 0, none⟩)) ∧ w2 = w') from lst_snoc p a rt x ▸ last_any HR.out).mono ?_
        rintro e w3 ⟨rfl, rfl⟩
        go_wp2_with fail
        refine (cut_any (l := p) (r2 := []) (a := a) (x := x) HR.out (by simp at hlq ⊢; omega)).mono ?_
        rintro e w3 ⟨rfl, hR3, ⟨⟨u1, u2, hN⟩, _, hKa, _⟩, hk3, hs3⟩
        rw [List.append_nil] at hR3
        have HR3 := Lib.hid (show RingAt _ w3.drew r rt p from RingAt.below hR3 (Below.refl _ _).drew)
        have c0 := (hk3.cell (a := ⟨w.heap.size, 0, none⟩) hs1).trans c0'
        have c1 := (hk3.cell (a := ⟨w.heap.size, 1, none⟩) hs1).trans c1'
        have f0 : w3.frozen? ⟨w.heap.size, 0, none⟩ = false := by
          rw [← f0']; unfold World.frozen?; rw [hk3.block w.heap.size hs1]
        have f1 : w3.frozen? ⟨w.heap.size, 1, none⟩ = false := by
          rw [← f1']; unfold World.frozen?; rw [hk3.block w.heap.size hs1]
        have cN := ndx_cells hN
        have d0 := cN.1
        have d1 := cN.2.1
        rw [HX.out, ← HP.out.2.2] at d0 d1
        have ha3 : a < w3.heap.size := World.block_lt_of_cell? _ _ d0
        have HB3 : Hid (Below w.heap.size w w3) := HB2.out.trans (hk3.below (fun k hk => Nat.lt_of_lt_of_le hk HB1.out.size))
        have hs13 : w.heap.size < w3.heap.size := by have := HKB.out; omega
        have hl3 : (p).length ≤ 8 := by simp at hlq ⊢; omega
        clear hR3 c0' c1' f0' f1' hk3 hs3 hN cN hKa
        go_wp2_with fail
        go_region_law (first
          | (go_simp; go_at_call 64; refine (values_any HR3.out (by omega)).mono ?_; rintro e w4 ⟨v4, rfl, ho4, hb4⟩; obtain ⟨hc, hf⟩ := bcell hb4; have d0' := (hc a 0 ha3).trans d0; have d1' := (hc a 1 ha3).trans d1; have c0' := (hc w.heap.size 0 hs13).trans c0; have c1' := (hc w.heap.size 1 hs13).trans c1; have f0' := (hf w.heap.size 0 hs13).trans f0; have f1' := (hf w.heap.size 1 hs13).trans f1))
        all_goals go_wp2
        all_goals exact bodyPost_ret (v := .tuple #[v4, .agg #[.string (popX xs true).1, .int .i64 (popX xs true).2], .bool true]) (by simp [results, Try.results34, go_sem, Act.put, c0', c1']) rfl ⟨_, ret_lxb rfl rfl HP.out.1.symm, by
          rw [HP.out.2.1, ← HQ.out]
          exact (ho4.past (((Keeps.refl _ _).past hs13 _).past hs13 _)).base HB3.out.size, ((HB3.out.trans ((Below.undrew hb4).mono HB3.out.size)).setCell (Nat.le_refl _) _).setCell (Nat.le_refl _) _⟩
end Go.Proofs.Ytfjgmnlbchcabaa
