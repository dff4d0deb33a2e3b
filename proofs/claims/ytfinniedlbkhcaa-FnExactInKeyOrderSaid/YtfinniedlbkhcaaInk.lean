/-
  Items in the order of keys, by the model.
-/
import Derived.Test.YtfinniedlbkhcaaSOrd2
namespace Go.Proofs.Ytfinniedlbkhcaa
open Go.RowKit

def inkStep (xs o : List Itm) (s : ByteArray) : List Itm := if (hasI xs s && !hasI o s) = true then o ++ [(s, cnt xs s)] else o
def inkI (xs : List Itm) (ks : List ByteArray) : List Itm := ks.foldl (inkStep xs) []
def inkL (xs : List Itm) (ks : List ByteArray) : List Itm := if validI xs = true then inkI xs ks ++ restI xs (inkI xs ks) else []
theorem ink_take {xs : List Itm} {ks : List ByteArray} {k : Nat} (h : k < ks.length) : inkI xs (ks.take (k + 1)) = inkStep xs (inkI xs (ks.take k)) ks[k] := by
  unfold inkI
  rw [List.take_succ_eq_append_getElem h, List.foldl_append]
  rfl
theorem rest_cons (x : Itm) (r o : List Itm) : restI (x :: r) o = bif hasI o x.1 then restI r o else x :: restI r o := by
  unfold restI
  rw [List.filter_cons]
  cases hasI o x.1 <;> rfl
theorem has_rest (xs o : List Itm) (s : ByteArray) : hasI (restI xs o) s = (hasI xs s && !hasI o s) := by
  induction xs with
  | nil => rfl
  | cons x r ih =>
    rw [rest_cons]
    by_cases hx : x.1 = s
    · subst hx
      cases ho : hasI o x.1
      · simp [hasI]
      · simp only [cond_true]
        rw [ih, ho]
        simp
    · cases ho : hasI o x.1
      · simp only [cond_false, hasI, hx, decide_false, Bool.false_or]
        exact ih
      · simp only [cond_true, hasI, hx, decide_false, Bool.false_or]
        exact ih
theorem cnt_rest {xs o : List Itm} {s : ByteArray} (ho : hasI o s = false) : cnt (restI xs o) s = cnt xs s := by
  induction xs with
  | nil => rfl
  | cons x r ih =>
    rw [rest_cons]
    by_cases hx : x.1 = s
    · subst hx
      rw [ho]
      simp [cnt]
    · cases h : hasI o x.1
      · simp only [cond_false, cnt, hx, if_false]
        exact ih
      · simp only [cond_true, cnt, hx, if_false]
        exact ih
theorem rest_none {r o : List Itm} {s : ByteArray} (n : Int) (h : hasI r s = false) : restI r (o ++ [(s, n)]) = restI r o := by
  unfold restI
  induction r with
  | nil => rfl
  | cons x r ih =>
    simp only [hasI, Bool.or_eq_false_iff, decide_eq_false_iff_not] at h
    rw [List.filter_cons, List.filter_cons, ih h.2, hasI_append]
    have : hasI [(s, n)] x.1 = false := by simp [hasI]; exact fun e => h.1 e.symm
    rw [this, Bool.or_false]
theorem del_rest {xs o : List Itm} {s : ByteArray} (n : Int) (hu : uniqI xs = true) : delI (restI xs o) s = restI xs (o ++ [(s, n)]) := by
  induction xs with
  | nil => rfl
  | cons x r ih =>
    simp only [uniqI, Bool.and_eq_true, Bool.not_eq_true'] at hu
    rw [rest_cons, rest_cons, hasI_append]
    by_cases hx : x.1 = s
    · have e2 : hasI [(s, n)] x.1 = true := by simp [hasI, hx]
      rw [e2, Bool.or_true]
      cases h : hasI o x.1
      · simp only [cond_false, cond_true, delI, hx, if_true]
        rw [rest_none n (by rw [← hx]; exact hu.1)]
      · simp only [cond_true]
        exact ih hu.2
    · have e2 : hasI [(s, n)] x.1 = false := by simp [hasI]; exact fun e => hx e.symm
      rw [e2, Bool.or_false]
      cases h : hasI o x.1
      · simp only [cond_false, delI, hx, if_false]
        rw [ih hu.2]
      · simp only [cond_true]
        exact ih hu.2
theorem ink_len {xs : List Itm} (hu : uniqI xs = true) (ks : List ByteArray) : (inkI xs ks).length + (restI xs (inkI xs ks)).length = xs.length := by
  unfold inkI
  have : ∀ (ks : List ByteArray) (o : List Itm), o.length + (restI xs o).length = xs.length → (ks.foldl (inkStep xs) o).length + (restI xs (ks.foldl (inkStep xs) o)).length = xs.length := by
    intro ks
    induction ks with
    | nil => intro o h; exact h
    | cons s r ih =>
      intro o h
      refine ih _ ?_
      unfold inkStep
      cases hc : (hasI xs s && !hasI o s)
      · rw [if_neg (by simp)]; exact h
      · rw [if_pos rfl, ← del_rest _ hu]
        have := delI_length (l := restI xs o) s
        rw [has_rest, hc, if_pos rfl] at this
        simp
        omega
  refine this ks [] ?_
  have : restI xs [] = xs := by unfold restI; rw [List.filter_eq_self]; intro x _; rfl
  rw [this]; simp
theorem ink_no {xs : List Itm} {ks : List ByteArray} {k : Nat} (h : k < ks.length) (hc : (hasI xs ks[k] && !hasI (inkI xs (ks.take k)) ks[k]) = false) : inkI xs (ks.take (k + 1)) = inkI xs (ks.take k) := by
  rw [ink_take h]; unfold inkStep; rw [hc, if_neg (by simp)]
theorem ink_yes {xs : List Itm} {ks : List ByteArray} {k : Nat} (h : k < ks.length) (hc : (hasI xs ks[k] && !hasI (inkI xs (ks.take k)) ks[k]) = true) : inkI xs (ks.take (k + 1)) = inkI xs (ks.take k) ++ [(ks[k], cnt xs ks[k])] := by
  rw [ink_take h]; unfold inkStep; rw [hc, if_pos rfl]
theorem okI_ink {xs : List Itm} (h : okI xs) (ks : List ByteArray) : okI (inkI xs ks) := by
  unfold inkI
  have : ∀ (ks : List ByteArray) (o : List Itm), okI o → okI (ks.foldl (inkStep xs) o) := by
    intro ks
    induction ks with
    | nil => intro o h; exact h
    | cons s r ih =>
      intro o ho
      refine ih _ ?_
      unfold inkStep
      cases hc : (hasI xs s && !hasI o s)
      · rw [if_neg (by simp)]; exact ho
      · rw [if_pos rfl]
        simp only [Bool.and_eq_true] at hc
        obtain ⟨j, hj, _, p2, _⟩ := placeI_del xs s 0 hc.1
        exact okI_app ho (okI_sub h (fun y hy => by rw [List.mem_singleton.1 hy, ← p2]; exact List.getElem_mem hj))
  exact this ks [] (fun x hx => by simp at hx)
theorem ink_le (xs : List Itm) (ks : List ByteArray) : (inkL xs ks).length ≤ 10000000 := if_len fun h => by
  have h1 := valid_len h
  have h2 := ink_len (valid_uniq h) ks
  rw [List.length_append]
  omega

set_option maxHeartbeats 1600000 in
set_option maxRecDepth 100000 in
theorem sInKeyOrder_any (v vk : Value) (xs : List Itm) (ks : List ByteArray) (w : World) (h : Items w v xs) (hkk : Texts w vk ks) :
    Calls Try.prog 58 #[v, vk] w (NewI (inkL xs ks) w) := by
  go_enter Try.func58, Try.ntmps58
  cases hv : validI xs
  all_goals
    have HV := Lib.hid hv
    clear hv
    go_wp2_with fail
    refine (sVi_v _ h HV.out).mono ?_
    rintro e w1 ⟨rfl, hb1⟩
  · go_wp2
    go_ret
    exact ⟨_, rfl, by unfold inkL; rw [HV.out]; exact OwnI_nil _ _ _, hb1⟩
  · have hl := valid_len HV.out
    have HLEN := Lib.hid (ink_len (valid_uniq HV.out))
    have HI := Lib.hid (h.mono hb1 (Nat.le_refl _))
    have hok := h.ok
    obtain ⟨ko, kcap, rfl, hkl, hkc, _, hkcell⟩ := hkk.mono hb1 (Nat.le_refl _)
    have hown0 := World.ownsRow_lit (base := w1.heap.size) (e := 40) (size := 2) w1 #[] 0 (Nat.le_refl _) (by unfold maxLen; omega) rfl
    clear h hkk
    go_wp2
    go_loopw [5, 6] (fun x i wr => ∃ k : Nat, k ≤ ks.length ∧ i = .int .i64 k ∧ wr.ownsRow w1.heap.size 40 2 x (inkI xs (ks.take k)).length (cellsI (inkI xs (ks.take k))) ∧ Below w1.heap.size w1 wr ∧ w1.heap.size < wr.heap.size) (fun _ i _ => ks.length - (intOf i).toNat)
    case atStart => exact ⟨0, Nat.zero_le _, rfl, hown0, (Below.refl _ _).alloc (Nat.le_refl _) _, by simp⟩
    case round =>
      obtain ⟨k, hk', rfl, hrow, hbl, hsz⟩ := hrel
      have hln := HLEN.out (ks.take k)
      have hoI := Lib.hid (OwnI.items (E := 40) ⟨hrow, okI_ink hok (ks.take k)⟩)
      obtain ⟨xo, xcap, rfl, _, _⟩ := own_slice hrow
      by_cases hlt : k < ks.length
      · obtain ⟨b1, o1, rfl, hb1', h1⟩ := hkcell k hlt
        have c1 := (hbl.cell (p := ⟨b1, _, none⟩) hb1').trans h1
        have HIr := Lib.hid (HI.out.mono hbl (Nat.le_refl _))
        clear h1
        cases hh : hasI xs ks[k]
        · have e1 := Lib.hid (ink_no hlt (by rw [hh]; rfl))
          have HH := Lib.hid hh
          clear hh
          go_wp2_with fail
          refine (place_no _ HIr.out HH.out).mono ?_
          rintro e w2 ⟨rfl, rfl⟩
          go_wp2
          go_roundw
          case rel => exact ⟨k + 1, by omega, by go_num, by rw [e1.out]; exact hrow, hbl, hsz⟩
          case measure => simp [intOf]; omega
        · obtain ⟨j, hj, p1, p2, _⟩ := placeI_del xs ks[k] 0 hh
          have P1 := Lib.hid (p1.trans (by simp) : placeI xs ks[k] 0 = (j : Int))
          obtain ⟨b, o, cap, rfl, hlc, hcm, hb, d0, d1⟩ := HIr.out.at hj
          have hx := hok _ (List.getElem_mem hj)
          rw [p2] at d0 d1 hx
          have HX := Lib.hid hx
          clear p1 p2 hb hx
          cases ho : hasI (inkI xs (ks.take k)) ks[k]
          · have e1 := Lib.hid (ink_yes hlt (by rw [hh, ho]; rfl))
            have HO := Lib.hid ho
            clear ho hh
            go_wp2_with fail
            refine (place_at _ HIr.out P1.out).mono ?_
            rintro e w2 ⟨rfl, rfl⟩
            go_wp2_with fail
            refine (place_no _ hoI.out HO.out).mono ?_
            rintro e w2 ⟨rfl, rfl⟩
            go_wp2_with (at_builtin; refine wpl_append_items _ rfl _ _ rfl w1.heap.size (.slice xo (inkI xs (ks.take k)).length xcap) (inkI xs (ks.take k)).length (cellsI (inkI xs (ks.take k))) rfl (hrow.alloc _) (.slice (some ⟨wr.heap.size, 0, none⟩) 1 1) [(ks[k], cnt xs ks[k])] rfl (Items_one _ _ _ _ HX.out.1 HX.out.2) (by omega) (by simp) (by simp; omega) ?_; intro v' w2 hown2 hgrow2)
            have hs2 := hgrow2.size
            simp at hs2
            have hrow3 : w2.ownsRow w1.heap.size 40 2 v' (inkI xs (ks.take (k + 1))).length (cellsI (inkI xs (ks.take (k + 1)))) := by
              rw [e1.out, cellsI_append, List.length_append]; exact hown2
            have hb3 := (hbl.alloc (Nat.le_of_lt hsz) _).grown hgrow2 (by simp; omega) (fun j hj => (hrow.lt j hj).1)
            clear hown2 hrow c1 d0 d1 hgrow2
            go_roundw
            case rel => exact ⟨k + 1, by omega, by go_num, hrow3, hb3, by omega⟩
            case measure => simp [intOf]; omega
          · have e1 := Lib.hid (ink_no hlt (by rw [hh, ho]; rfl))
            obtain ⟨i, hi, q1, _⟩ := placeI_del (inkI xs (ks.take k)) ks[k] 0 ho
            have Q1 := Lib.hid (q1.trans (by simp) : placeI (inkI xs (ks.take k)) ks[k] 0 = (i : Int))
            clear ho hh q1
            go_wp2_with fail
            refine (place_at _ HIr.out P1.out).mono ?_
            rintro e w2 ⟨rfl, rfl⟩
            go_wp2_with fail
            refine (place_at _ hoI.out Q1.out).mono ?_
            rintro e w2 ⟨rfl, rfl⟩
            go_wp2
            go_roundw
            case rel => exact ⟨k + 1, by omega, by go_num, by rw [e1.out]; exact hrow, hbl, hsz⟩
            case measure => simp [intOf]; omega
      · obtain rfl : k = ks.length := by omega
        rw [List.take_length] at hrow hoI hln
        have HL := Lib.hid (show inkL xs ks = inkI xs ks ++ restI xs (inkI xs ks) by unfold inkL; rw [HV.out, if_pos rfl])
        go_wp2_with fail
        refine (srest_any _ _ xs (inkI xs ks) _ (HI.out.mono hbl (Nat.le_refl _)) (by rw [← List.take_length (l := ks)]; rw [List.take_length]; exact hoI.out) (by omega)).mono ?_
        rintro e w2 ⟨v2, rfl, ho2, hb2⟩
        obtain ⟨yo, ycap, rfl, _, _⟩ := own_slice ho2.1
        go_wp2_with (at_builtin; refine wpl_append_items _ rfl _ _ rfl w1.heap.size (.slice xo (inkI xs ks).length xcap) (inkI xs ks).length (cellsI (inkI xs ks)) rfl (ownsRow_below hrow hb2 (Nat.le_refl _)) (.slice yo (restI xs (inkI xs ks)).length ycap) (restI xs (inkI xs ks)) rfl ho2.items (by omega) (by omega) (Nat.le_trans (Nat.le_of_lt hsz) hb2.size) ?_; intro v' w3 hown3 hgrow3)
        go_ret
        refine ⟨_, rfl, ?_, hb1.trans (((hbl.trans (hb2.mono (Nat.le_of_lt hsz))).grown hgrow3 (Nat.le_trans (Nat.le_of_lt hsz) hb2.size) (fun j hj => (hrow.lt j hj).1)).mono hb1.size)⟩
        rw [HL.out]
        exact own_app hown3 hb1.size (okI_app (okI_ink hok ks) (okI_sub hok (fun x hx => (List.mem_filter.1 hx).1)))
end Go.Proofs.Ytfinniedlbkhcaa
