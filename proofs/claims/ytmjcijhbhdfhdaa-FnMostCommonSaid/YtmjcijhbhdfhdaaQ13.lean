/-
  SOrd, CalO, SOrd2.
-/
import Derived.Deep.RegionHeld3
import Derived.Deep.RegionLaw
import Derived.Test.YtmjcijhbhdfhdaaQ0
import Derived.Test.YtmjcijhbhdfhdaaQ6
import Derived.Test.YtmjcijhbhdfhdaaQ10
/-
  The model's functions over items in order.
-/
namespace Go.Proofs.Ytmjcijhbhdfhdaa
open Go.RowKit

theorem Items.drop {w : World} {b o n cap : Nat} {sp : Option Nat} {xs : List Itm} (h : Items w (.slice (some ⟨b, o, sp⟩) n cap) xs) {k : Nat} (hk : k ≤ n) : Items w (.slice (some ⟨b, o + k * 2, sp⟩) (n - k) (cap - k)) (xs.drop k) := by
  obtain ⟨ao, cap', e, hlc, hcm, hok, hcell⟩ := h
  simp only [Value.slice.injEq] at e
  obtain ⟨rfl, rfl, rfl⟩ := e
  refine ⟨some ⟨b, o + k * 2, sp⟩, cap - k, by simp, by simp; omega, by omega, fun x hx => hok x (List.mem_of_mem_drop hx), fun j hj => ?_⟩
  have hj' : k + j < xs.length := by simp at hj; omega
  obtain ⟨b', o', e, hb, h1, h2⟩ := hcell (k + j) hj'
  simp only [Option.some.injEq, Addr.mk.injEq] at e
  obtain ⟨rfl, rfl, rfl⟩ := e
  refine ⟨b, o + k * 2, rfl, hb, ?_, ?_⟩
  · rw [show o + k * 2 + j * 2 = o + (k + j) * 2 by omega, h1]; simp
  · rw [show o + k * 2 + j * 2 + 1 = o + (k + j) * 2 + 1 by omega, h2]; simp
theorem Items.dropAll {w : World} {ao : Option Addr} {n k : Nat} {xs : List Itm} (h : Items w (.slice ao n k) xs) (hk : k ≤ n) : Items w (.slice ao (n - k) (k - k)) (xs.drop k) := by
  obtain ⟨ao', cap', e, hlc, hcm, hok, hcell⟩ := h
  simp only [Value.slice.injEq] at e
  obtain ⟨rfl, rfl, rfl⟩ := e
  have e : xs.drop k = [] := List.drop_eq_nil_of_le (by omega)
  rw [e]
  exact ⟨ao, k - k, by simp; omega, by simp, by omega, fun x hx => by simp at hx, fun k hk => by simp at hk⟩

theorem Items_one (w : World) (s : ByteArray) (n : Int) (E : TypeId) (hs : s.size ≤ 9223372036854775807) (hn : -9223372036854775808 ≤ n ∧ n ≤ 9223372036854775807) : Items (w.alloc (.cells #[.string s, .int .i64 n] E)) (.slice (some ⟨w.heap.size, 0, none⟩) 1 1) [(s, n)] := by
  refine ⟨_, 1, rfl, Nat.le_refl _, by omega, fun x hx => ?_, fun k hk => ?_⟩
  · rw [List.mem_singleton.1 hx]; exact ⟨hs, hn.1, hn.2⟩
  · obtain rfl : k = 0 := by simpa using hk
    exact ⟨w.heap.size, 0, rfl, by simp, by simp, by simp⟩

theorem plc_place (l : List Itm) (s : ByteArray) : ∀ i, plcI l s i = placeI l s i := by
  induction l with
  | nil => intro i; rfl
  | cons x r ih => intro i; unfold plcI placeI; rw [ih]
theorem placeI_del (l : List Itm) (s : ByteArray) : ∀ i : Nat, hasI l s = true → ∃ k, ∃ h : k < l.length, placeI l s i = (k + i : Nat) ∧ l[k] = (s, cnt l s) ∧ delI l s = l.take k ++ l.drop (k + 1) ∧ (∀ t, renI l s t = l.set k (t, cnt l s)) ∧ ∀ n, putI l s n = l.set k (s, n) := by
  induction l with
  | nil => intro i h; simp [hasI] at h
  | cons x r ih =>
    intro i h
    by_cases hx : x.1 = s
    · exact ⟨0, by simp, by simp [placeI, hx], by simp [cnt, ← hx], by simp [delI, hx], fun t => by simp [renI, cnt, hx], fun n => by simp [putI, hx]⟩
    · simp only [hasI, hx, decide_false, Bool.false_or] at h
      obtain ⟨k, hk, h1, h2, h3, h4, h5⟩ := ih (i + 1) h
      refine ⟨k + 1, by simpa using hk, ?_, by simpa [cnt, hx] using h2, by simp [delI, hx, h3], fun t => by simp [renI, cnt, hx, h4], fun n => by simp [putI, hx, h5]⟩
      simp only [placeI, hx, if_false, h1]
      omega

theorem okI_sub {l m : List Itm} (h : okI l) (hs : ∀ x ∈ m, x ∈ l) : okI m := fun x hx => h x (hs x hx)
theorem okI_app {l m : List Itm} (h : okI l) (h' : okI m) : okI (l ++ m) := fun x hx => (List.mem_append.1 hx).elim (h x) (h' x)
theorem okI_del {l : List Itm} (h : okI l) (k : ByteArray) : okI (delI l k) := by
  induction l with
  | nil => exact h
  | cons x r ih =>
    unfold delI
    split
    · exact fun y hy => h y (by simp [hy])
    · exact fun y hy => (List.mem_cons.1 hy).elim (fun e => h y (by simp [e])) (ih (fun z hz => h z (by simp [hz])) y)
theorem Below.undrew {B : Nat} {w w' : World} (h : Below B w.drew w') : Below B w w' := ⟨h.os, h.tape, h.output, h.size, h.block⟩
theorem chk_chkL (l : List Itm) : chkI l = chkL l := rfl

set_option maxHeartbeats 1600000 in
set_option maxRecDepth 100000 in
theorem swithout_any (v : Value) (xs : List Itm) (k : Nat) (w : World) (h : Items w v xs) (hk : k < xs.length) (hn : xs.length ≤ 1000000) :
    Calls Try.prog 103 #[v, .int .i64 k] w (FreshI (xs.take k ++ xs.drop (k + 1)) w) := by
  have h0 := h
  obtain ⟨ao, cap, rfl, hlc, hcm, hok, hcell⟩ := h
  obtain ⟨b, o, rfl, hb, _, _⟩ := hcell k hk
  clear hcell
  have hT := Lib.hid (h0.take (k := k) (by omega))
  have HL := Lib.hid (show (xs.take k).length = k by simp; omega)
  have HLD := Lib.hid (show (xs.drop (k + 1)).length = xs.length - (k + 1) by simp)
  obtain ⟨A, hA, hDI⟩ : ∃ A, (if cap = k + 1 then some ⟨b, o, none⟩ else some ⟨b, o + (k + 1) * 2, none⟩ : Option Addr) = A ∧ Hid (Items w (.slice A (xs.length - (k + 1)) (cap - (k + 1))) (xs.drop (k + 1))) := by
    refine ⟨_, rfl, ?_⟩
    unfold Hid
    by_cases hc : cap = k + 1
    · rw [if_pos hc]; subst hc; exact h0.dropAll (by omega)
    · rw [if_neg hc]; exact h0.drop (by omega)
  have HOK := Lib.hid (okI_sub (l := xs) (m := xs.take k ++ xs.drop (k + 1)) hok (fun x hx => (List.mem_append.1 hx).elim List.mem_of_mem_take List.mem_of_mem_drop))
  have HLA := Lib.hid (show (xs.take k ++ xs.drop (k + 1)).length = k + (xs.length - (k + 1)) by rw [List.length_append, HL.out, HLD.out])
  have hk1 : IntKind.i64.wrap ((k : Int) + 1) = (k : Int) + 1 := IntWalk.i64_in _ (by omega)
  have hkc : k ≤ cap := by omega
  have hk0 : 0 ≤ (k : Int) + 1 := by omega
  have hkt : ((k : Int) + 1).toNat = k + 1 := by omega
  have hkn : (k : Int) + 1 ≤ (xs.length : Int) := by omega
  have hkn' : k + 1 ≤ xs.length := by omega
  have hkc' : (k : Int) + 1 ≤ (cap : Int) := by omega
  clear hok hb h0
  go_enter Try.func103, Try.ntmps103
  go_wp2_with fail
  go_region_law (first
    | (go_simp; go_at_call 113; refine (copyItems_any _ (xs.take k) _ (Items.drew hT.out) (by rw [HL.out]; omega)).mono ?_; rintro e w1 ⟨v1, rfl, ho1, hb1⟩)
    | (refine step_append_items _ rfl (.tmp 8) (.tmp 12) rfl _ v1 _ _ (by simp [Act.eval]) ho1.1 (.slice A (xs.length - (k + 1)) (cap - (k + 1))) (xs.drop (k + 1)) (by simp [Act.eval]) (Items.mono hDI.out (Below.undrew hb1) (Nat.le_refl _)) (by rw [HL.out]; omega) (by rw [HLD.out]; omega) hb1.size ?_; intro v' w2 hown2 hgrow2))
  go_wp2
  go_ret
  refine ⟨_, rfl, ⟨?_, HOK.out⟩, ?_⟩
  · have e : cellsI (xs.take k ++ xs.drop (k + 1)) = cellsI (xs.take k) ++ cellsI (xs.drop (k + 1)) := by simp [cellsI]
    rw [List.length_append, e]
    exact hown2
  · exact (Below.undrew hb1).grown hgrow2 hb1.size (fun j hj => (ho1.1.lt j hj).1)

theorem sPlaceOf_any (v : Value) (xs : List Itm) (s : ByteArray) (w : World) (h : Items w v xs) :
    Calls Try.prog 56 #[v, .string s] w (RetQ (.int .i64 (plcN xs s)) w) := by
  go_enter Try.func56, Try.ntmps56
  cases hv : validI xs
  all_goals
    have HV := Lib.hid hv
    clear hv
    go_wp2_with fail
    refine (sVi_v _ h HV.out).mono ?_
    rintro e w1 ⟨rfl, hb1⟩
  · go_wp2
    go_ret
    exact ⟨ret_int (by unfold plcN; rw [HV.out]; rfl), hb1⟩
  · go_wp2_with fail
    refine (place_any _ _ _ _ (h.mono hb1 (Nat.le_refl _))).mono ?_
    rintro e w2 ⟨rfl, rfl⟩
    go_wp2
    go_ret
    exact ⟨ret_int (by unfold plcN; rw [HV.out, plc_place]; rfl), hb1⟩

theorem okG_of {xs : List Itm} {s : ByteArray} {a b : Bool} (HV : Hid (validI xs = a)) (HH : Hid (hasI xs s = b)) : okG xs s = (a && b) := by unfold okG; rw [HV.out, HH.out]
theorem getN_of {xs : List Itm} {s : ByteArray} {a b : Bool} (HV : Hid (validI xs = a)) (HH : Hid (hasI xs s = b)) : getN xs s = if (a && b) = true then cnt xs s else 0 := by unfold getN; rw [okG_of HV HH]

set_option maxHeartbeats 800000 in
theorem sGetItem_any (v : Value) (xs : List Itm) (s : ByteArray) (w : World) (h : Items w v xs) :
    Calls Try.prog 42 #[v, .string s] w (RetQ (.tuple #[.int .i64 (getN xs s), .bool (okG xs s)]) w) := by
  go_enter Try.func42, Try.ntmps42
  cases hh : hasI xs s
  · have HH := Lib.hid hh
    clear hh
    go_wp2_with fail
    refine (place_no _ h HH.out).mono ?_
    rintro e w1 ⟨rfl, rfl⟩
    cases hv : validI xs
    all_goals
      have HV := Lib.hid hv
      clear hv
      go_wp2_with fail
      refine (sVi_v _ h HV.out).mono ?_
      rintro e w2 ⟨rfl, hb2⟩
      go_wp2
      go_ret2
      exact ⟨ret_ib (by rw [getN_of HV HH]; rfl) (by rw [okG_of HV HH]; rfl), hb2⟩
  · obtain ⟨k, hk, h1, h2, _⟩ := placeI_del xs s 0 hh
    have HH := Lib.hid hh
    have H1 := Lib.hid (h1.trans (by simp) : placeI xs s 0 = (k : Int))
    have H2 := Lib.hid h2
    clear hh h1 h2
    go_wp2_with fail
    refine (place_at _ h H1.out).mono ?_
    rintro e w1 ⟨rfl, rfl⟩
    cases hv : validI xs
    all_goals
      have HV := Lib.hid hv
      clear hv
      go_wp2_with fail
      refine (sVi_v _ h HV.out).mono ?_
      rintro e w2 ⟨rfl, hb2⟩
    · go_wp2
      go_ret2
      exact ⟨ret_ib (by rw [getN_of HV HH]; rfl) (by rw [okG_of HV HH]; rfl), hb2⟩
    · obtain ⟨ao, cap, rfl, hlc, hcm, hok, hcell⟩ := h.mono hb2 (Nat.le_refl _)
      obtain ⟨b, o, rfl, hb, c1, c2⟩ := hcell k hk
      rw [H2.out] at c1 c2
      clear hcell hok h
      go_wp2
      go_ret2
      exact ⟨ret_ib (by rw [getN_of HV HH]; rfl) (by rw [okG_of HV HH]; rfl), hb2⟩

theorem sPutItem_any (v : Value) (xs : List Itm) (s : ByteArray) (n : Int) (w : World) (h : Items w v xs) (hs : s.size ≤ 9223372036854775807) (hi : -9223372036854775808 ≤ n ∧ n ≤ 9223372036854775807) :
    Calls Try.prog 45 #[v, .string s, .int .i64 n] w (NewI2 (putL xs s n) (okP xs s n) w) := by
  go_enter Try.func45, Try.ntmps45
  cases hv : validI xs
  all_goals
    have H := Lib.hid hv
    clear hv
    go_wp2_with fail
    refine (sVi_v _ h H.out).mono ?_
    rintro e w1 ⟨rfl, hb1⟩
  · go_wp2
    go_ret2
    refine ⟨_, ret_lb rfl (by unfold okP; rw [H.out]; rfl), ?_, hb1⟩
    unfold putL okP
    rw [H.out]
    exact OwnI_nil _ _ _
  · have hl := valid_len H.out
    go_wp2_with fail
    refine (put_any _ _ _ _ _ (h.mono hb1 (Nat.le_refl _)) (by omega) hs hi).mono ?_
    rintro e w2 ⟨v2, rfl, ho2, hb2⟩
    go_wp2_with fail
    refine (schecked_any _ ho2).mono ?_
    rintro e w3 ⟨v3, rfl, ho3, hb3⟩
    rw [chk_chkL, ← chk_put xs s n H.out] at ho3
    go_wp2
    go_ret2
    exact ⟨_, ret_lb rfl (by unfold okP; rw [H.out]; rfl), ho3.base hb1.size, hb1.trans ((hb2.trans (hb3.mono hb2.size)).mono hb1.size)⟩

theorem drp_no {xs : List Itm} {s : ByteArray} {a b : Bool} (HV : Hid (validI xs = a)) (HH : Hid (hasI xs s = b)) (h : (a && b) = false) (E : Nat) (w : World) (B : Nat) : OwnI E w B (.slice none 0 0) (drpL xs s) := by
  unfold drpL
  rw [okG_of HV HH, h]
  exact OwnI_nil _ _ _
theorem drp_yes {xs : List Itm} {s : ByteArray} (HV : Hid (validI xs = true)) (HH : Hid (hasI xs s = true)) : drpL xs s = delI xs s := by
  unfold drpL
  rw [okG_of HV HH]
  rfl

set_option maxHeartbeats 800000 in
theorem sDropItem_any (v : Value) (xs : List Itm) (s : ByteArray) (w : World) (h : Items w v xs) :
    Calls Try.prog 48 #[v, .string s] w (NewI2 (drpL xs s) (okG xs s) w) := by
  go_enter Try.func48, Try.ntmps48
  cases hh : hasI xs s
  · have HH := Lib.hid hh
    clear hh
    go_wp2_with fail
    refine (place_no _ h HH.out).mono ?_
    rintro e w1 ⟨rfl, rfl⟩
    cases hv : validI xs
    all_goals
      have HV := Lib.hid hv
      clear hv
      go_wp2_with fail
      refine (sVi_v _ h HV.out).mono ?_
      rintro e w2 ⟨rfl, hb2⟩
      go_wp2
      go_ret2
      exact ⟨_, ret_lb rfl (by rw [okG_of HV HH]; rfl), drp_no HV HH rfl _ _ _, hb2⟩
  · obtain ⟨k, hk, h1, h2, h3, _⟩ := placeI_del xs s 0 hh
    have HH := Lib.hid hh
    have H1 := Lib.hid (h1.trans (by simp) : placeI xs s 0 = (k : Int))
    have H3 := Lib.hid h3
    clear hh h1 h2 h3
    go_wp2_with fail
    refine (place_at _ h H1.out).mono ?_
    rintro e w1 ⟨rfl, rfl⟩
    cases hv : validI xs
    all_goals
      have HV := Lib.hid hv
      clear hv
      go_wp2_with fail
      refine (sVi_v _ h HV.out).mono ?_
      rintro e w2 ⟨rfl, hb2⟩
    · go_wp2
      go_ret2
      exact ⟨_, ret_lb rfl (by rw [okG_of HV HH]; rfl), drp_no HV HH rfl _ _ _, hb2⟩
    · have hl := valid_len HV.out
      go_wp2_with fail
      refine (swithout_any _ _ _ _ (h.mono hb2 (Nat.le_refl _)) hk (by omega)).mono ?_
      rintro e w3 ⟨v3, rfl, ho3, hb3⟩
      rw [← H3.out, ← drp_yes HV HH] at ho3
      go_wp2
      go_ret2
      exact ⟨_, ret_lb rfl (by rw [okG_of HV HH]; rfl), ho3.base hb2.size, hb2.trans (hb3.mono hb2.size)⟩
end Go.Proofs.Ytmjcijhbhdfhdaa
/-
  Items in order, reckoned: what the functions of chapter 2 answer.
-/
namespace Go.Proofs.Ytmjcijhbhdfhdaa

theorem plc_eq (l : List Itm) (k : ByteArray) : ∀ i : Nat, plcI l k i = placeI l k i := by
  induction l with
  | nil => intro i; rfl
  | cons x r ih =>
    intro i
    unfold plcI placeI
    rw [ih]
theorem plc_no {l : List Itm} {k : ByteArray} (h : hasI l k = false) : plcN l k = -1 := by
  unfold plcN
  split
  · rw [plc_eq, (placeI_has l k 0).1 h]
  · rfl
theorem plc_inv {l : List Itm} {k : ByteArray} (h : validI l = false) : plcN l k = -1 := by unfold plcN; rw [if_neg (by simp [h])]
theorem plc_yes {l : List Itm} {k : ByteArray} (hv : validI l = true) (h : hasI l k = true) : ∃ j, ∃ hj : j < l.length, plcN l k = (j : Int) ∧ l[j] = (k, cnt l k) ∧ delI l k = l.take j ++ l.drop (j + 1) ∧ (∀ t, renI l k t = l.set j (t, cnt l k)) ∧ ∀ n, putI l k n = l.set j (k, n) := by
  obtain ⟨j, hj, p1, p2⟩ := placeI_del l k 0 h
  exact ⟨j, hj, by unfold plcN; rw [if_pos hv, plc_eq, p1]; simp, p2⟩
theorem key_uniq {l : List Itm} (h : uniqI l = true) {i j : Nat} (hi : i < l.length) (hj : j < l.length) (e : l[i].1 = l[j].1) : i = j := by
  have hn : l.Pairwise (fun a b => a.1 ≠ b.1) := List.pairwise_map.1 (uniq_nodup.1 h)
  have hp := List.pairwise_iff_getElem.1 hn
  rcases Nat.lt_trichotomy i j with hij | hij | hij
  · exact absurd e (hp i j hi hj hij)
  · exact hij
  · exact absurd e.symm (hp j i hj hi hij)
theorem plc_at {l : List Itm} (hv : validI l = true) {i : Nat} (hi : i < l.length) : plcN l l[i].1 = (i : Int) := by
  obtain ⟨j, hj, p1, p2, _⟩ := plc_yes hv (hasI_mem.2 ⟨l[i], List.getElem_mem hi, rfl⟩)
  have e : j = i := key_uniq (valid_uniq hv) hj hi (by rw [p2])
  rw [p1, e]
theorem okG_parts {l : List Itm} {k : ByteArray} (h : okG l k = true) : validI l = true ∧ hasI l k = true := by
  unfold okG at h
  rwa [Bool.and_eq_true] at h
theorem okg_of {l : List Itm} {k : ByteArray} (hv : validI l = true) (h : hasI l k = true) : okG l k = true := by unfold okG; rw [hv, h]; rfl
theorem getn_of {l : List Itm} {k : ByteArray} (h : okG l k = true) : getN l k = cnt l k := by unfold getN; rw [if_pos h]
theorem getn_no {l : List Itm} {k : ByteArray} (h : okG l k = false) : getN l k = 0 := by unfold getN; rw [if_neg (by simp [h])]
/-! ### GetItem, PutItem -/
theorem get_algebra {l : List Itm} {k : ByteArray} (h : okG l k = true) : ∃ j, ∃ hj : j < l.length, plcN l k = (j : Int) ∧ l[j].1 = k ∧ l[j].2 = getN l k := by
  obtain ⟨hv, hk⟩ := okG_parts h
  obtain ⟨j, hj, p1, p2, _⟩ := plc_yes hv hk
  exact ⟨j, hj, p1, by rw [p2], by rw [p2, getn_of h]⟩
theorem okP_parts {l : List Itm} {k : ByteArray} {n : Int} (h : okP l k n = true) : validI l = true ∧ validI (putI l k n) = true ∧ putL l k n = putI l k n := by
  have h0 := h
  unfold okP at h
  rw [Bool.and_eq_true] at h
  exact ⟨h.1, h.2, by unfold putL; rw [if_pos h0]⟩
theorem okP_of {l : List Itm} {k : ByteArray} {n : Int} (hv : validI l = true) (h : validI (putI l k n) = true) : okP l k n = true ∧ putL l k n = putI l k n := by
  have e : okP l k n = true := by unfold okP; rw [hv, h]; rfl
  exact ⟨e, by unfold putL; rw [if_pos e]⟩
theorem putI_two (l : List Itm) (k : ByteArray) (a b : Int) : putI (putI l k a) k b = putI l k b := by
  induction l with
  | nil => simp [putI]
  | cons x r ih =>
    by_cases hx : x.1 = k
    · simp [putI, hx]
    · simp [putI, hx, ih]
theorem put_algebra {l : List Itm} {k : ByteArray} {n : Int} (h : okP l k n = true) :
    okG (putL l k n) k = true ∧ getN (putL l k n) k = n ∧ okP (putL l k n) k n = true ∧ putL (putL l k n) k n = putL l k n ∧ (putL l k n).length ≤ l.length + 1 := by
  obtain ⟨hv, hp, e⟩ := okP_parts h
  rw [e]
  have hh : hasI (putI l k n) k = true := by rw [hasI_putI]; simp
  have hg := okg_of hp hh
  have e2 : putI (putI l k n) k n = putI l k n := putI_two l k n n
  have ho := okP_of (l := putI l k n) (k := k) (n := n) hp (by rw [e2]; exact hp)
  refine ⟨hg, by rw [getn_of hg, cnt_putI_same], ho.1, by rw [ho.2, e2], ?_⟩
  rw [putI_length]
  split <;> omega
theorem put_item {l : List Itm} {k : ByteArray} {n : Int} (h : okP l k n = true) {i : Nat} (hi : i < l.length) :
    ∃ hi' : i < (putL l k n).length, (putL l k n)[i].1 = l[i].1 ∧ (l[i].1 = k ∨ (putL l k n)[i].2 = l[i].2) := by
  obtain ⟨hv, hp, e⟩ := okP_parts h
  rw [e]
  cases hk : hasI l k
  · rw [putI_new hk]
    refine ⟨by simp; omega, ?_, .inr ?_⟩
    · rw [List.getElem_append_left hi]
    · rw [List.getElem_append_left hi]
  · obtain ⟨j, hj, p1, p2, _, _, p3⟩ := plc_yes hv hk
    rw [p3]
    refine ⟨by simpa using hi, ?_, ?_⟩
    · rw [List.getElem_set]
      split
      · rename_i e; subst e; rw [p2]
      · rfl
    · rw [List.getElem_set]
      split
      · rename_i e; subst e; left; rw [p2]
      · right; rfl
/-! ### DropItem, MoveItem -/
theorem drp_of {l : List Itm} {k : ByteArray} (h : okG l k = true) : drpL l k = delI l k := by unfold drpL; rw [if_pos h]
theorem mov_of {l : List Itm} {k : ByteArray} (h : okG l k = true) (b : Bool) : movL l k b = movI l k b := by unfold movL; rw [if_pos h]
theorem valid_del {l : List Itm} {k : ByteArray} (h : validI l = true) : validI (delI l k) = true := by
  cases hk : hasI l k
  · have e : delI l k = l := by
      clear h
      induction l with
      | nil => rfl
      | cons x r ih =>
        simp only [hasI, Bool.or_eq_false_iff, decide_eq_false_iff_not] at hk
        unfold delI
        rw [if_neg hk.1, ih hk.2]
    rw [e]; exact h
  · have hu := valid_uniq h
    refine valid_sub (uniqI_delI k hu) h (fun s hs => ?_) (fun x hx => ?_)
    · rw [hasI_delI k s hu, Bool.and_eq_true] at hs
      exact hs.2
    · obtain ⟨j, hj, _, _, e, _⟩ := plc_yes h hk
      rw [e] at hx
      rcases List.mem_append.1 hx with hx | hx
      · exact valid_num h x (List.mem_of_mem_take hx)
      · exact valid_num h x (List.mem_of_mem_drop hx)
theorem has_del {l : List Itm} {k : ByteArray} (h : uniqI l = true) : hasI (delI l k) k = false := by rw [hasI_delI k k h]; simp
theorem mov_perm {l : List Itm} {k : ByteArray} (h : hasI l k = true) (b : Bool) : (movI l k b).Perm l := by
  obtain ⟨a, x, r, e, hx, ha⟩ := hasI_split h
  have e1 : delI l k = a ++ r := by rw [e]; exact delI_sp hx ha
  have e2 : cnt l k = x.2 := by rw [e]; exact cnt_sp hx ha
  have e3 : (k, x.2) = x := Prod.ext hx.symm rfl
  unfold movI
  rw [e1, e2, e3, e]
  cases b
  · exact List.perm_middle.symm
  · show (a ++ r ++ [x]).Perm _
    rw [List.append_assoc]
    exact List.Perm.append_left a (List.perm_append_singleton x r)
theorem drop_algebra {l : List Itm} {k : ByteArray} (h : okG l k = true) :
    plcN (drpL l k) k = -1 ∧ okP (drpL l k) k (cofN l k) = true ∧ putL (drpL l k) k (cofN l k) = movL l k true ∧ (drpL l k).length + 1 = l.length := by
  obtain ⟨hv, hk⟩ := okG_parts h
  have hu := valid_uniq hv
  have e0 : cofN l k = cnt l k := by unfold cofN; rw [if_pos hv, sumL_one hv]
  rw [drp_of h, e0, mov_of h]
  have e1 : putI (delI l k) k (cnt l k) = movI l k true := by rw [putI_new (has_del hu)]; rfl
  have hp : validI (putI (delI l k) k (cnt l k)) = true := by rw [e1, valid_perm (mov_perm hk true)]; exact hv
  have ho := okP_of (valid_del hv) hp
  refine ⟨plc_no (has_del hu), ho.1, by rw [ho.2, e1], ?_⟩
  have := delI_length (l := l) k
  rw [hk] at this
  simpa using this
theorem smB_perm {a b : List Itm} (ha : validI a = true) (h : a.Perm b) : sitB a b = true := by
  have hb : validI b = true := by rw [← valid_perm h]; exact ha
  unfold sitB okB sameI
  rw [ha, hb]
  simp only [Bool.true_and, Bool.and_eq_true, decide_eq_true_eq, List.all_eq_true]
  refine ⟨h.length_eq, fun x hx => ?_⟩
  have hm := h.mem_iff.1 hx
  exact ⟨hasI_mem.2 ⟨x, hm, rfl⟩, cnt_at_mem (valid_uniq hb) hm⟩
theorem move_algebra {l : List Itm} {k : ByteArray} (h : okG l k = true) (b : Bool) :
    okG (movL l k b) k = true ∧ sitB (movL l k b) l = true ∧ drpL (movL l k b) k = drpL l k ∧ (movL l k b).length = l.length := by
  obtain ⟨hv, hk⟩ := okG_parts h
  have hu := valid_uniq hv
  have hp := mov_perm hk b
  have hm : validI (movI l k b) = true := by rw [valid_perm hp]; exact hv
  rw [mov_of h]
  have hh : hasI (movI l k b) k = true := by
    obtain ⟨x, hx, e⟩ := hasI_mem.1 hk
    exact hasI_mem.2 ⟨x, hp.mem_iff.2 hx, e⟩
  refine ⟨okg_of hm hh, smB_perm hm hp, ?_, hp.length_eq⟩
  rw [drp_of (okg_of hm hh), drp_of h]
  unfold movI
  cases b
  · have e : delI ((k, cnt l k) :: delI l k) k = if k = k then delI l k else (k, cnt l k) :: delI (delI l k) k := rfl
    show delI ((k, cnt l k) :: delI l k) k = delI l k
    rw [e, if_pos rfl]
  · show delI (delI l k ++ [(k, cnt l k)]) k = delI l k
    have := delI_sp (a := delI l k) (x := (k, cnt l k)) (r := []) (k := k) rfl (has_del hu)
    rw [this, List.append_nil]
theorem move_at {l : List Itm} {k : ByteArray} (h : okG l k = true) (b : Bool) : ∃ hj : (if b then (movL l k b).length - 1 else 0) < (movL l k b).length, (movL l k b)[if b then (movL l k b).length - 1 else 0].1 = k := by
  rw [mov_of h]
  unfold movI
  cases b
  · exact ⟨by simp, rfl⟩
  · refine ⟨by simp, ?_⟩
    simp
end Go.Proofs.Ytmjcijhbhdfhdaa
/-
  The model's functions over items in order: moved, popped, renamed, turned, laid over.
-/
namespace Go.Proofs.Ytmjcijhbhdfhdaa
open Go.RowKit

theorem Items.at {w : World} {v : Value} {xs : List Itm} (h : Items w v xs) {k : Nat} (hk : k < xs.length) : ∃ b o cap, v = .slice (some ⟨b, o, none⟩) xs.length cap ∧ xs.length ≤ cap ∧ cap ≤ 9223372036854775807 ∧ b < w.heap.size ∧ w.cell? ⟨b, o + k * 2, none⟩ = some (.string xs[k].1) ∧ w.cell? ⟨b, o + k * 2 + 1, none⟩ = some (.int .i64 xs[k].2) := by
  obtain ⟨ao, cap, rfl, hl, hc, _, hcell⟩ := h
  obtain ⟨b, o, rfl, hb, h1, h2⟩ := hcell k hk
  exact ⟨b, o, cap, rfl, hl, hc, hb, h1, h2⟩

/-- The two cells of an item stand. -/
def Two (w0 : World) (b p : Nat) (x : Itm) (w : World) : Prop := (w.cell? ⟨b, p, none⟩ = some (.string x.1) ∧ w.cell? ⟨b, p + 1, none⟩ = some (.int .i64 x.2)) ∧ Below w0.heap.size w0 w
theorem Two.go {w0 w1 w2 : World} {b p : Nat} {x : Itm} (h : Two w0 b p x w1) (hb : b < w0.heap.size) (h2 : Below w1.heap.size w1 w2) : Two w0 b p x w2 := by
  obtain ⟨⟨h1, h3⟩, h4⟩ := h
  have hb1 : b < w1.heap.size := Nat.lt_of_lt_of_le hb h4.size
  exact ⟨⟨(h2.cell (p := ⟨b, p, none⟩) hb1).trans h1, (h2.cell (p := ⟨b, p + 1, none⟩) hb1).trans h3⟩, h4.trans (h2.mono h4.size)⟩

theorem Two.alloc {w0 w1 : World} {b p : Nat} {x : Itm} (h : Two w0 b p x w1) (hb : b < w0.heap.size) (o : Go.Obj) : Two w0 b p x (w1.alloc o) := h.go hb ((Below.refl _ _).alloc (Nat.le_refl _) _)
theorem Two.grown {w0 w1 w2 : World} {b p : Nat} {x : Itm} {row : Option Nat} (h : Two w0 b p x w1) (hb : b < w0.heap.size) (hg : w1.grownBy w2 row) (hr : ∀ j, row = some j → w0.heap.size ≤ j) : Two w0 b p x w2 := by
  obtain ⟨⟨h1, h3⟩, h4⟩ := h
  have h5 : Below w0.heap.size w0 w2 := h4.grown hg h4.size hr
  have e : ∀ o, w2.cell? ⟨b, o, none⟩ = w1.cell? ⟨b, o, none⟩ := fun o => (h5.cell (p := ⟨b, o, none⟩) hb).trans (h4.cell (p := ⟨b, o, none⟩) hb).symm
  exact ⟨⟨(e p).trans h1, (e (p + 1)).trans h3⟩, h5⟩
theorem own_app {w w2 : World} {B E : Nat} {v : Value} {xs ys : List Itm} (h : w2.ownsRow B E 2 v (xs.length + ys.length) (cellsI xs ++ cellsI ys)) (hB : w.heap.size ≤ B) (hok : okI (xs ++ ys)) : OwnI E w2 w.heap.size v (xs ++ ys) := by
  refine ⟨?_, hok⟩
  rw [List.length_append, cellsI_append]
  exact ownsRow_base h hB
theorem own_one (w : World) (y : Itm) (E : TypeId) {B : Nat} (hB : B ≤ w.heap.size) : (w.alloc (.cells #[.string y.1, .int .i64 y.2] E)).ownsRow B E 2 (.slice (some ⟨w.heap.size, 0, none⟩) 1 1) 1 (cellsI [y]) :=
  ownsRow_base (World.ownsRow_lit (base := w.heap.size) (e := E) (size := 2) w #[.string y.1, .int .i64 y.2] 1 (Nat.le_refl _) (by unfold maxLen; omega) rfl) hB
theorem below_of {P : Prop} {B : Nat} {w w' : World} (h : P ∧ Below B w w') : Below B w w' := h.2

set_option maxHeartbeats 1600000 in
set_option maxRecDepth 100000 in
theorem smoved_last (v : Value) (xs : List Itm) (k : Nat) (w : World) (h : Items w v xs) (hk : k < xs.length) (hn : xs.length ≤ 100000) :
    Calls Try.prog 106 #[v, .int .i64 k, .bool true] w (FreshI (xs.take k ++ xs.drop (k + 1) ++ [xs[k]]) w) := by
  have hok := h.ok
  have hx := hok _ (List.getElem_mem hk)
  have HI := Lib.hid h
  have HLA := Lib.hid (show (xs.take k ++ xs.drop (k + 1)).length ≤ 1000000 by simp; omega)
  have HOK := Lib.hid (okI_app (okI_app (okI_sub hok (m := xs.take k) (fun x hx => List.mem_of_mem_take hx)) (okI_sub hok (m := xs.drop (k + 1)) (fun x hx => List.mem_of_mem_drop hx))) (okI_sub hok (m := [xs[k]]) (fun x hx => by rw [List.mem_singleton.1 hx]; exact List.getElem_mem hk)))
  obtain ⟨b, o, cap, rfl, hlc, hcm, hb, c1, c2⟩ := h.at hk
  have HB := Lib.hid hb
  clear hok h hb
  obtain ⟨y, hy⟩ : ∃ y, xs[k] = y := ⟨_, rfl⟩
  rw [hy] at c1 c2 hx HOK ⊢
  have hyb : (-9223372036854775808 ≤ y.2 ∧ y.2 ≤ 9223372036854775807) := hx.2
  have hys := hx.1
  clear hx hy
  go_enter Try.func106, Try.ntmps106
  go_wp2_with fail
  go_region_held3 (fun w' : World => (w'.cell? ⟨b, o + k * 2, none⟩ = some (.string y.1) ∧ w'.cell? ⟨b, o + k * 2 + 1, none⟩ = some (.int .i64 y.2)) ∧ Below w.heap.size w w')
    (first | exact ⟨⟨c1, c2⟩, (Below.refl _ _).drew⟩ | assumption | exact hS2 | exact Two.alloc (by assumption) HB.out _ | exact hS3)
    (first
      | (go_at_call 103; refine (swithout_any _ xs k _ (Items.mono HI.out (below_of (by assumption)) (Nat.le_refl _)) hk (by omega)).mono ?_; rintro e w1 ⟨v1, rfl, ho1, hb1⟩; have hS2 := Two.go (by assumption) HB.out hb1)
      | (refine step_append_items _ rfl (.tmp 10) (.tmp 15) rfl _ v1 _ _ (by simp [Act.eval]) (ho1.1.alloc _) (.slice (some ⟨w1.heap.size, 0, none⟩) 1 1) [y] (by simp [Act.eval]) (Items_one _ _ _ _ hys hyb) HLA.out (by simp) (size_alloc_le hb1.size _) ?_; intro v' w2 hown2 hgrow2; have hS3 := Two.grown (Two.alloc hS2 HB.out _) HB.out hgrow2 (fun j hj => (ho1.1.lt j hj).1))
      | (refine step_append_items _ rfl (.tmp 10) (.tmp 15) rfl _ v1 _ _ (by simp [Act.eval]) ho1.1 (.slice (some ⟨w.heap.size, 0, none⟩) 1 1) [y] (by simp [Act.eval]) (Items.mono (Items_one w.drew _ _ _ hys hyb) hb1 (Nat.le_refl _)) HLA.out (by simp) hb1.size ?_; intro v' w2 hown2 hgrow2; have hS3 := Two.grown hS2 HB.out hgrow2 (fun j hj => Nat.le_trans (size_alloc_le (Nat.le_refl _) _) (ho1.1.lt j hj).1)))
  all_goals go_wp2
  all_goals go_ret
  · exact ⟨_, rfl, own_app hown2 (Nat.le_refl _) HOK.out, hS3.2⟩
  · exact ⟨_, rfl, own_app hown2 (size_alloc_le (Nat.le_refl _) _) HOK.out, hS3.2⟩

set_option maxHeartbeats 1600000 in
set_option maxRecDepth 100000 in
theorem smoved_first (v : Value) (xs : List Itm) (k : Nat) (w : World) (h : Items w v xs) (hk : k < xs.length) (hn : xs.length ≤ 100000) :
    Calls Try.prog 106 #[v, .int .i64 k, .bool false] w (FreshI ([xs[k]] ++ (xs.take k ++ xs.drop (k + 1))) w) := by
  have hok := h.ok
  have hx := hok _ (List.getElem_mem hk)
  have HI := Lib.hid h
  have HLA := Lib.hid (show (xs.take k ++ xs.drop (k + 1)).length ≤ 1000000 by simp; omega)
  have HOK := Lib.hid (okI_app (okI_sub hok (m := [xs[k]]) (fun x hx => by rw [List.mem_singleton.1 hx]; exact List.getElem_mem hk)) (okI_app (okI_sub hok (m := xs.take k) (fun x hx => List.mem_of_mem_take hx)) (okI_sub hok (m := xs.drop (k + 1)) (fun x hx => List.mem_of_mem_drop hx))))
  obtain ⟨b, o, cap, rfl, hlc, hcm, hb, c1, c2⟩ := h.at hk
  have HB := Lib.hid hb
  clear hok h hb
  obtain ⟨y, hy⟩ : ∃ y, xs[k] = y := ⟨_, rfl⟩
  rw [hy] at c1 c2 hx HOK ⊢
  have hyb : (-9223372036854775808 ≤ y.2 ∧ y.2 ≤ 9223372036854775807) := hx.2
  have hys := hx.1
  clear hx hy
  go_enter Try.func106, Try.ntmps106
  go_wp2_with fail
  go_region_held3? (fun w' : World => (w'.cell? ⟨b, o + k * 2, none⟩ = some (.string y.1) ∧ w'.cell? ⟨b, o + k * 2 + 1, none⟩ = some (.int .i64 y.2)) ∧ Below w.heap.size w w')
    (first | exact ⟨⟨c1, c2⟩, (Below.refl _ _).drew⟩ | assumption | exact hS2 | exact Two.alloc (by assumption) HB.out _ | exact hS3)
    (first
      | (go_at_call 103; refine (swithout_any _ xs k _ (Items.mono HI.out (below_of (by assumption)) (Nat.le_refl _)) hk (by omega)).mono ?_; rintro e w1 ⟨v1, rfl, ho1, hb1⟩; have hS2 := Two.go (by assumption) HB.out hb1)
      | (refine step_append_items _ rfl (.tmp 21) (.tmp 24) rfl w.heap.size (.slice (some ⟨w1.heap.size, 0, none⟩) 1 1) 1 (cellsI [y]) (by simp [Act.eval]) (own_one _ y 30 hS2.2.size) v1 _ (by simp [Act.eval]) (Items.mono ho1.items ((Below.refl _ _).alloc (Nat.le_refl _) _) (Nat.le_refl _)) (by omega) HLA.out (size_alloc_le hS2.2.size _) ?_; intro v' w2 hown2 hgrow2; have hS3 := Two.grown (Two.alloc hS2 HB.out _) HB.out hgrow2 (fun j hj => by have := hS2.2.size; simp [Value.ownBlock] at hj; omega))
      | (refine step_append_items _ rfl (.tmp 21) (.tmp 24) rfl w.heap.size (.slice (some ⟨w.heap.size, 0, none⟩) 1 1) 1 (cellsI [y]) (by simp [Act.eval]) (ownsRow_below (own_one w.drew y 30 (Nat.le_refl _)) hb1 (Nat.le_refl _)) v1 _ (by simp [Act.eval]) ho1.items (by omega) HLA.out hS2.2.size ?_; intro v' w2 hown2 hgrow2; have hS3 := Two.grown hS2 HB.out hgrow2 (fun j hj => by simp [Value.ownBlock] at hj; omega)))
  all_goals go_wp2
  all_goals go_ret
  all_goals exact ⟨_, rfl, own_app (xs := [y]) hown2 (Nat.le_refl _) HOK.out, hS3.2⟩

theorem movI_last {xs : List Itm} {s : ByteArray} {k : Nat} {hk : k < xs.length} (h2 : xs[k] = (s, cnt xs s)) (h3 : delI xs s = xs.take k ++ xs.drop (k + 1)) : movI xs s true = xs.take k ++ xs.drop (k + 1) ++ [xs[k]] := by
  unfold movI
  rw [if_pos rfl, h2, h3]
theorem movI_first {xs : List Itm} {s : ByteArray} {k : Nat} {hk : k < xs.length} (h2 : xs[k] = (s, cnt xs s)) (h3 : delI xs s = xs.take k ++ xs.drop (k + 1)) : movI xs s false = [xs[k]] ++ (xs.take k ++ xs.drop (k + 1)) := by
  unfold movI
  rw [h2, h3]
  rfl
theorem smoved_any (v : Value) (xs : List Itm) (s : ByteArray) (k : Nat) (last : Bool) (w : World) (h : Items w v xs) (hk : k < xs.length) (h2 : xs[k] = (s, cnt xs s)) (h3 : delI xs s = xs.take k ++ xs.drop (k + 1)) (hn : xs.length ≤ 100000) :
    Calls Try.prog 106 #[v, .int .i64 k, .bool last] w (FreshI (movI xs s last) w) := by
  cases last
  · rw [movI_first h2 h3]; exact smoved_first v xs k w h hk hn
  · rw [movI_last h2 h3]; exact smoved_last v xs k w h hk hn

theorem mov_no {xs : List Itm} {s : ByteArray} {a b last : Bool} (HV : Hid (validI xs = a)) (HH : Hid (hasI xs s = b)) (h : (a && b) = false) (E : Nat) (w : World) (B : Nat) : OwnI E w B (.slice none 0 0) (movL xs s last) := by
  unfold movL
  rw [okG_of HV HH, h]
  exact OwnI_nil _ _ _
theorem mov_yes {xs : List Itm} {s : ByteArray} {last : Bool} (HV : Hid (validI xs = true)) (HH : Hid (hasI xs s = true)) : movL xs s last = movI xs s last := by
  unfold movL
  rw [okG_of HV HH]
  rfl

set_option maxHeartbeats 800000 in
theorem sMoveItem_any (v : Value) (xs : List Itm) (s : ByteArray) (last : Bool) (w : World) (h : Items w v xs) :
    Calls Try.prog 51 #[v, .string s, .bool last] w (NewI2 (movL xs s last) (okG xs s) w) := by
  go_enter Try.func51, Try.ntmps51
  cases hh : hasI xs s
  · have HH := Lib.hid hh
    clear hh
    go_wp2_with fail
    refine (place_no _ h HH.out).mono ?_
    rintro e w1 ⟨rfl, rfl⟩
    cases hv : validI xs
    all_goals
      have HV := Lib.hid hv
      clear hv
      go_wp2_with fail
      refine (sVi_v _ h HV.out).mono ?_
      rintro e w2 ⟨rfl, hb2⟩
      go_wp2
      go_ret2
      exact ⟨_, ret_lb rfl (by rw [okG_of HV HH]; rfl), mov_no HV HH rfl _ _ _, hb2⟩
  · obtain ⟨k, hk, h1, h2, h3, _⟩ := placeI_del xs s 0 hh
    have HH := Lib.hid hh
    have H1 := Lib.hid (h1.trans (by simp) : placeI xs s 0 = (k : Int))
    have H2 := Lib.hid h2
    have H3 := Lib.hid h3
    clear hh h1 h2 h3
    go_wp2_with fail
    refine (place_at _ h H1.out).mono ?_
    rintro e w1 ⟨rfl, rfl⟩
    cases hv : validI xs
    all_goals
      have HV := Lib.hid hv
      clear hv
      go_wp2_with fail
      refine (sVi_v _ h HV.out).mono ?_
      rintro e w2 ⟨rfl, hb2⟩
    · go_wp2
      go_ret2
      exact ⟨_, ret_lb rfl (by rw [okG_of HV HH]; rfl), mov_no HV HH rfl _ _ _, hb2⟩
    · have hl := valid_len HV.out
      go_wp2_with fail
      refine (smoved_any _ _ s _ last _ (h.mono hb2 (Nat.le_refl _)) hk H2.out H3.out (by omega)).mono ?_
      rintro e w3 ⟨v3, rfl, ho3, hb3⟩
      rw [← mov_yes HV HH] at ho3
      go_wp2
      go_ret2
      exact ⟨_, ret_lb rfl (by rw [okG_of HV HH]; rfl), ho3.base hb2.size, hb2.trans (hb3.mono hb2.size)⟩
end Go.Proofs.Ytmjcijhbhdfhdaa
