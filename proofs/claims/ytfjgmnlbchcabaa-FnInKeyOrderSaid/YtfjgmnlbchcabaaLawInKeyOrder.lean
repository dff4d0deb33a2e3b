/-
  FnInKeyOrder: true, for every code.
-/
import Derived.Test.YtfjgmnlbchcabaaQ4
import Derived.Test.YtfjgmnlbchcabaaQ10
import Derived.Test.YtfjgmnlbchcabaaQ12
import Derived.Test.YtfjgmnlbchcabaaQ21
import Derived.Test.YtfjgmnlbchcabaaQ23
import Derived.Test.YtfjgmnlbchcabaaQ24
import Derived.Test.YtfjgmnlbchcabaaQ25
namespace Go.Proofs.Ytfjgmnlbchcabaa
open Go.RowKit
open Go.ChangeShapes Go.WideShapes Go.ChangeAt Go.Deep

theorem inkf_has (xs : List Itm) (s : ByteArray) : ∀ (ks : List ByteArray) (o : List Itm), hasI (ks.foldl (inkStep xs) o) s = (hasI o s || (hasI xs s && memT ks s)) := by
  intro ks
  induction ks with
  | nil => intro o; simp [memT]
  | cons t r ih =>
    intro o
    show hasI (r.foldl (inkStep xs) (inkStep xs o t)) s = _
    rw [ih]
    have em : memT (t :: r) s = (decide (t = s) || memT r s) := rfl
    rw [em]
    unfold inkStep
    by_cases hts : t = s
    · subst hts
      cases hx : hasI xs t <;> cases ho : hasI o t <;> simp [hasI_append, hasI, ho]
    · cases hc : (hasI xs t && !hasI o t)
      · rw [if_neg (by simp)]; simp [hts]
      · rw [if_pos rfl, hasI_append]
        simp [hasI, hts]
theorem ink_has (xs : List Itm) (ks : List ByteArray) (s : ByteArray) : hasI (inkI xs ks) s = (hasI xs s && memT ks s) := by
  unfold inkI
  rw [inkf_has]
  rfl
theorem inkf_prefix (xs : List Itm) : ∀ (ks : List ByteArray) (o : List Itm), ∃ r, ks.foldl (inkStep xs) o = o ++ r := by
  intro ks
  induction ks with
  | nil => intro o; exact ⟨[], by simp⟩
  | cons t q ih =>
    intro o
    obtain ⟨r, hr⟩ := ih (inkStep xs o t)
    show ∃ r, q.foldl (inkStep xs) (inkStep xs o t) = o ++ r
    rw [hr]
    unfold inkStep
    split
    · exact ⟨_, List.append_assoc _ _ _⟩
    · exact ⟨r, rfl⟩
theorem ink_prefix (xs : List Itm) (ks : List ByteArray) (k : Nat) : ∃ r, inkI xs ks = inkI xs (ks.take k) ++ r := by
  unfold inkI
  obtain ⟨r, hr⟩ := inkf_prefix xs (ks.drop k) ((ks.take k).foldl (inkStep xs) [])
  refine ⟨r, ?_⟩
  rw [← hr, ← List.foldl_append, List.take_append_drop]
theorem inkf_good {xs : List Itm} : ∀ (ks : List ByteArray) (o : List Itm), uniqI o = true → (∀ x ∈ o, hasI xs x.1 = true ∧ cnt xs x.1 = x.2) → uniqI (ks.foldl (inkStep xs) o) = true ∧ ∀ x ∈ ks.foldl (inkStep xs) o, hasI xs x.1 = true ∧ cnt xs x.1 = x.2 := by
  intro ks
  induction ks with
  | nil => intro o h1 h2; exact ⟨h1, h2⟩
  | cons t q ih =>
    intro o h1 h2
    refine ih (inkStep xs o t) ?_ ?_
    · unfold inkStep
      split
      · rename_i h
        rw [Bool.and_eq_true, Bool.not_eq_true'] at h
        rw [← putI_new h.2]
        exact uniqI_putI _ _ h1
      · exact h1
    · unfold inkStep
      split
      · rename_i h
        rw [Bool.and_eq_true, Bool.not_eq_true'] at h
        intro x hx
        rcases List.mem_append.1 hx with hx | hx
        · exact h2 x hx
        · rw [List.mem_singleton.1 hx]; exact ⟨h.1, rfl⟩
      · exact h2
theorem ink_perm {xs : List Itm} (hv : validI xs = true) (ks : List ByteArray) : (inkL xs ks).Perm xs := by
  have hu := valid_uniq hv
  obtain ⟨g1, g2⟩ := inkf_good (xs := xs) ks [] rfl (fun x hx => by cases hx)
  have eI : inkI xs ks = ks.foldl (inkStep xs) [] := rfl
  rw [← eI] at g1 g2
  have e : inkL xs ks = inkI xs ks ++ restI xs (inkI xs ks) := by unfold inkL; rw [if_pos hv]
  rw [e]
  have hr : ∀ x ∈ restI xs (inkI xs ks), x ∈ xs ∧ hasI (inkI xs ks) x.1 = false := fun x hx => by
    have := List.mem_filter.1 hx
    exact ⟨this.1, by simpa using this.2⟩
  have hur : uniqI (restI xs (inkI xs ks)) = true := uniq_filter hu
  have hn : (inkI xs ks ++ restI xs (inkI xs ks)).Nodup := by
    rw [List.nodup_append]
    refine ⟨nodup_items g1, nodup_items hur, fun x hx y hy e2 => ?_⟩
    subst e2
    have h1 := (hr x hy).2
    rw [hasI_mem.2 ⟨x, hx, rfl⟩] at h1
    cases h1
  refine (List.perm_ext_iff_of_nodup hn (nodup_items hu)).2 fun x => ?_
  rw [List.mem_append]
  constructor
  · rintro (h | h)
    · exact (mem_of_cnt hu x).2 (g2 x h)
    · exact (hr x h).1
  · intro h
    cases hh : hasI (inkI xs ks) x.1
    · exact .inr (List.mem_filter.2 ⟨h, by simp [hh]⟩)
    · left
      rw [mem_of_cnt g1]
      obtain ⟨y, hy, ey⟩ := hasI_mem.1 hh
      refine ⟨hh, ?_⟩
      have h1 := (g2 y hy).2
      rw [ey] at h1
      have h2 := cnt_at_mem g1 hy
      rw [ey] at h2
      rw [h2, ← h1, cnt_at_mem hu h]
theorem inkf_own {xs : List Itm} : ∀ (l o : List Itm), uniqI (o ++ l) = true → (∀ x ∈ l, hasI xs x.1 = true ∧ cnt xs x.1 = x.2) → (keysL l).foldl (inkStep xs) o = o ++ l := by
  intro l
  induction l with
  | nil => intro o _ _; simp [keysL]
  | cons x r ih =>
    intro o h1 h2
    have hx := h2 x (by simp)
    have hno := (hasI_of_uniq h1).1
    have e : inkStep xs o x.1 = o ++ [x] := by
      unfold inkStep
      rw [hx.1, hno, hx.2]
      rfl
    show (keysL r).foldl (inkStep xs) (inkStep xs o x.1) = _
    rw [e, ih (o ++ [x]) (by rw [List.append_assoc]; exact h1) (fun y hy => h2 y (List.mem_cons_of_mem _ hy)), List.append_assoc]
    rfl
theorem ink_own {xs g : List Itm} (hv : validI xs = true) (hg : validI g = true) (hp : g.Perm xs) : inkL xs (keysL g) = g := by
  have hu := valid_uniq hv
  have e1 : inkI xs (keysL g) = g := by
    unfold inkI
    rw [inkf_own g [] (valid_uniq hg) (fun x hx => (mem_of_cnt hu x).1 (hp.mem_iff.1 hx))]
    rfl
  unfold inkL
  rw [if_pos hv, e1]
  have e2 : restI xs g = [] := by
    unfold restI
    rw [List.filter_eq_nil_iff]
    intro x hx
    have := hasI_mem.2 ⟨x, hp.mem_iff.2 hx, rfl⟩
    simp [this]
  rw [e2, List.append_nil]
theorem ink_nil {xs : List Itm} (hv : validI xs = true) : inkL xs [] = xs := by
  unfold inkL inkI
  rw [if_pos hv]
  show [] ++ restI xs [] = xs
  unfold restI
  rw [List.nil_append]
  exact List.filter_eq_self.2 fun x _ => rfl
/-- Where the next key comes to lie. -/
theorem ink_at {xs : List Itm} {ks : List ByteArray} (hv : validI xs = true) {k : Nat} (hk : k < ks.length) (h1 : hasI xs ks[k] = true) (h2 : memT (ks.take k) ks[k] = false) :
    (inkI xs (ks.take (k + 1))).length = (inkI xs (ks.take k)).length + 1 ∧ ∃ hj : (inkI xs (ks.take k)).length < (inkL xs ks).length, (inkL xs ks)[(inkI xs (ks.take k)).length].1 = ks[k] := by
  have hy := ink_yes hk (by rw [h1, ink_has, h1, h2]; rfl)
  obtain ⟨r, hr⟩ := ink_prefix xs ks (k + 1)
  have e : inkL xs ks = inkI xs (ks.take k) ++ ((ks[k], cnt xs ks[k]) :: (r ++ restI xs (inkI xs ks))) := by
    unfold inkL
    rw [if_pos hv]
    conv => lhs; arg 1; rw [hr, hy]
    simp
  refine ⟨by rw [hy]; simp, ?_⟩
  simp only [e]
  exact ⟨by simp, by simp⟩
theorem ink_skip {xs : List Itm} {ks : List ByteArray} {k : Nat} (hk : k < ks.length) (h : hasI xs ks[k] = false ∨ memT (ks.take k) ks[k] = true) : inkI xs (ks.take (k + 1)) = inkI xs (ks.take k) := by
  refine ink_no hk ?_
  rw [ink_has]
  rcases h with h | h
  · rw [h]; rfl
  · rw [h]; cases hasI xs ks[k] <;> rfl

set_option maxHeartbeats 3200000 in
set_option maxRecDepth 100000 in
theorem FnInKeyOrder_walk (v : Value) (bs : List Int) (w : World) (h : Bytes w v bs) :
    Calls Try.prog 9 #[v] w fun e w' => e = .returned (.bool true) ∧ Below w.heap.size w w' := by
  have h0 := h
  obtain ⟨ao, cap, rfl, hl, hc, hok, hcell⟩ := h0
  clear hcell hok
  go_enter Try.func9, Try.ntmps9
  by_cases hbig : (1048576 : Int) < (bs.length : Int)
  · go_wp2
    go_ret
    exact ⟨rfl, Below.refl _ _⟩
  go_wp2_with fail
  refine (DrawInKeyOrder_any _ bs w h).mono ?_
  rintro e w1 ⟨va, xs, vk, ks, rfl, hlen, hxa, hxk, hb1⟩
  have H1 := Things.nil w1
  have hks : Hid (ks.length ≤ 5) := hlen.2
  obtain ⟨G, hG⟩ : ∃ G, Hid (G = inkL xs ks) := ⟨_, Lib.hid rfl⟩
  have cI := Lib.hid (fun (v0 v1 : Value) (w : World) (h0 : Items w v0 xs) (h1 : Texts w v1 ks) => castI (InKeyOrder_any v0 v1 xs ks w h0 h1) hG.out.symm)
  have cS := Lib.hid (fun (v0 v1 : Value) (w : World) (h0 : Items w v0 xs) (h1 : Texts w v1 ks) => castI (sInKeyOrder_any v0 v1 xs ks w h0 h1) hG.out.symm)
  go_wp2_with fail
  refine (cI.out _ _ _ (H1.arg hxa) (H1.argT hxk)).mono ?_
  rintro e w2 ⟨vo, rfl, ho, hb⟩
  have H2 := H1.newI ho hb
  clear ho hb H1
  go_wp2_with fail
  refine (cS.out _ _ _ (H2.arg hxa) (H2.argT hxk)).mono ?_
  rintro e w3 ⟨vw, rfl, ho, hb⟩
  have H3 := H2.newI ho hb
  clear ho hb H2
  go_wp2_with fail
  refine (equalI_T H3 (H3.items 1 rfl) (H3.items 0 rfl)).mono ?_
  rintro e w4 ⟨rfl, H4⟩
  clear H3
  obtain ⟨V, hV⟩ : ∃ V, Hid (V = validI xs) := ⟨_, Lib.hid rfl⟩
  have cV := Lib.hid (fun (v0 : Value) (w : World) (h0 : Items w v0 xs) => castB (ValidItems_any v0 xs w h0) hV.out.symm)
  go_wp2_with fail
  refine (cV.out _ _ (H4.arg hxa)).mono ?_
  rintro e w5 ⟨rfl, hb⟩
  have H5 := H4.quiet hb
  clear hb H4
  cases V
  · skip
    go_wp2_with fail
    refine (cS.out _ _ _ (H5.arg hxa) (H5.argT hxk)).mono ?_
    rintro e w6 ⟨vs, rfl, ho, hb⟩
    have H6 := H5.newI ho hb
    clear ho hb H5
    go_wp2_with fail
    refine (equalI_T H6 (H6.items 2 rfl) (H6.items 0 rfl)).mono ?_
    rintro e w7 ⟨rfl, H7⟩
    clear H6
    go_wp2
    go_ret
    exact ⟨rfl, hb1.trans (H7.below.mono hb1.size)⟩
  · have hv := hV.out.symm
    have hp := ink_perm hv ks
    rw [← hG.out] at hp
    have hg : validI G = true := by rw [valid_perm hp]; exact hv
    have HA : Hid (∀ (k : Nat) (hk : k < ks.length), hasI xs ks[k] = true → memT (ks.take k) ks[k] = false → (inkI xs (ks.take (k + 1))).length = (inkI xs (ks.take k)).length + 1 ∧ ∃ hj : (inkI xs (ks.take k)).length < G.length, G[(inkI xs (ks.take k)).length].1 = ks[k]) := fun k hk h1 h2 => by rw [hG.out]; exact ink_at hv hk h1 h2
    have HV := Lib.hid hv
    have c1 := Lib.hid (fun (v0 v1 : Value) (w : World) (h0 : Items w v0 G) (h1 : Items w v1 xs) => castB (SameItems_any v0 v1 G xs w h0 h1) (sm_of hg hp))
    have hGl : G.length ≤ 1000000 := by have := valid_len hg; omega
    obtain ⟨Y, hY⟩ : ∃ Y, Hid (Y = keysL G) := ⟨_, Lib.hid rfl⟩
    have c2 := Lib.hid (fun (v0 : Value) (w : World) (h0 : Items w v0 G) => castT (lkeys_any v0 G w h0 hGl) hY.out.symm)
    have c3 := Lib.hid (fun (v0 v1 : Value) (w : World) (h0 : Items w v0 xs) (h1 : Texts w v1 Y) => castI (InKeyOrder_any v0 v1 xs Y w h0 h1) (show inkL xs Y = G by rw [hY.out]; exact ink_own hv hg hp))
    have c4 := Lib.hid (fun (v0 v1 : Value) (w : World) (h0 : Items w v0 xs) (h1 : Texts w v1 []) => castI (InKeyOrder_any v0 v1 xs [] w h0 h1) (ink_nil hv))
    clear hv hp hg hG hY hV cI cS cV hGl hlen
    have HKS := Lib.hid (H5.argT hxk)
    have HXS := Lib.hid (H5.arg hxa)
    obtain ⟨ao1, cap1, rfl, hlc1, hcm1, hok1, hcell1⟩ := H5.items 1 rfl
    obtain ⟨ao2, cap2, rfl, hlc2, hcm2, hok2, hcell2⟩ := H5.argT hxk
    go_wp2
    go_loopw [6, 7] (fun c i wr => ∃ k : Nat, i = .int .i64 k ∧ k ≤ ks.length ∧ c = .int .i64 ((inkI xs (ks.take k)).length : Nat) ∧ Below w5.heap.size w5 wr) (fun _ i _ => ks.length - (intOf i).toNat)
    case atStart => exact ⟨0, rfl, Nat.zero_le _, rfl, Below.refl _ _⟩
    case round =>
      obtain ⟨k, rfl, hk, rfl, hbl⟩ := hrel
      by_cases hlt : k < ks.length
      · obtain ⟨b1, o1, rfl, hbk1, k1⟩ := hcell2 k hlt
        have d1 := fresh_cell ((hbl.cell (p := ⟨b1, _, none⟩) hbk1).trans k1)
        have hlt2 : (k : Int) < (ks.length : Int) := by omega
        have hk0 : (0 : Int) ≤ (k : Int) := by omega
        have hkc : (k : Int) ≤ (cap2 : Int) := by omega
        have HX := Lib.hid (HXS.out.mono hbl (Nat.le_refl _))
        have HT := Lib.hid (fun p : Fresh wr => ((HKS.out.mono (hbl.trans (p.is.mono hbl.size)) (Nat.le_refl _)).takeA hk : Texts p.at' (.slice (some ⟨b1, o1, none⟩) k cap2) (ks.take k)))
        cases hh : hasI xs ks[k]
        · have cP := Lib.hid (fun (v0 : Value) (w : World) (h0 : Items w v0 xs) => castN (PlaceOf_any v0 xs ks[k] w h0) (plc_no hh))
          have hsk := Lib.hid (ink_skip (xs := xs) hlt (.inl hh))
          clear hh k1
          go_wp2_with fail
          refine region_fresh (by kernel_rfl) (by kernel_rfl) ?_
          repeat (with_reducible refine wpQuiet_step ?_; intro K hK; go_simp; first | (refine hK _ ?_; clear hK K) | (apply Exists.intro; refine ⟨fun _ => ?_, hK _ ?_⟩; ((go_at_call 29; with_reducible exact fresh_Q (cP.out _ _ (HX.out.mono (Fresh.is _) (Nat.le_refl _))))); clear hK K))
          with_reducible refine wpQuiet_nil ?_
          intro _ hw'
          obtain ⟨⟨wq, hq⟩, hw''⟩ := hw'
          subst hw''
          have hblq := hbl.trans (hq.mono hbl.size)
          go_wp2
          go_roundw
          case rel => exact ⟨k + 1, by go_num, by omega, by rw [hsk.out], hblq⟩
          case measure => simp [intOf]; omega
        · obtain ⟨j, _, p1, _⟩ := plc_yes HV.out hh
          have cP := Lib.hid (fun (v0 : Value) (w : World) (h0 : Items w v0 xs) => castN (PlaceOf_any v0 xs ks[k] w h0) p1)
          cases hm : memT (ks.take k) ks[k]
          · obtain ⟨e1, hj, e2⟩ := HA.out k hlt hh hm
            have cH := Lib.hid (fun (v0 : Value) (w : World) (h0 : Texts w v0 (ks.take k)) => castB (hasText_any v0 (ks.take k) ks[k] w h0) hm)
            have E1 := Lib.hid e1
            clear hh hm p1 e1
            go_wp2_with fail
            refine region_fresh (by kernel_rfl) (by kernel_rfl) ?_
            repeat (with_reducible refine wpQuiet_step ?_; intro K hK; go_simp; first | (refine hK _ ?_; clear hK K) | (apply Exists.intro; refine ⟨fun _ => ?_, hK _ ?_⟩; (first | (go_at_call 29; with_reducible exact fresh_Q (cP.out _ _ (HX.out.mono (Fresh.is _) (Nat.le_refl _)))) | (go_at_call 42; with_reducible exact fresh_Q (cH.out _ _ (HT.out _)))); clear hK K))
            with_reducible refine wpQuiet_nil ?_
            intro _ hw'
            obtain ⟨⟨wq, hq⟩, hw''⟩ := hw'
            subst hw''
            have hblq := hbl.trans (hq.mono hbl.size)
            obtain ⟨N, hN⟩ : ∃ N, Hid (N = (inkI xs (ks.take k)).length) := ⟨_, Lib.hid rfl⟩
            rw [← hN.out] at E1
            simp only [← hN.out] at hj e2 ⊢
            obtain ⟨b2, o2, rfl, hbk2, k2, _⟩ := hcell1 N hj
            have c1_ := (hblq.cell (p := ⟨b1, _, none⟩) hbk1).trans k1
            have c2_ := (hblq.cell (p := ⟨b2, _, none⟩) hbk2).trans k2
            rw [e2] at c2_
            have hN2 : (N : Int) < (G.length : Int) := by omega
            have hN0 : (0 : Int) ≤ (N : Int) := by omega
            have hse := beq_self_eq_true ks[k].toList
            clear k1 k2 e2 d1 HT HX hq cP cH
            go_wp2_with fail
            go_quiet (fail)
            go_wp2
            go_roundw
            case rel => exact ⟨k + 1, by go_num, by omega, by rw [E1.out]; go_num, below_drewN hblq _⟩
            case measure => simp [intOf]; omega
          · have cH := Lib.hid (fun (v0 : Value) (w : World) (h0 : Texts w v0 (ks.take k)) => castB (hasText_any v0 (ks.take k) ks[k] w h0) hm)
            have hsk := Lib.hid (ink_skip (xs := xs) hlt (.inr hm))
            clear hh hm p1 k1
            go_wp2_with fail
            refine region_fresh (by kernel_rfl) (by kernel_rfl) ?_
            repeat (with_reducible refine wpQuiet_step ?_; intro K hK; go_simp; first | (refine hK _ ?_; clear hK K) | (apply Exists.intro; refine ⟨fun _ => ?_, hK _ ?_⟩; (first | (go_at_call 29; with_reducible exact fresh_Q (cP.out _ _ (HX.out.mono (Fresh.is _) (Nat.le_refl _)))) | (go_at_call 42; with_reducible exact fresh_Q (cH.out _ _ (HT.out _)))); clear hK K))
            with_reducible refine wpQuiet_nil ?_
            intro _ hw'
            obtain ⟨⟨wq, hq⟩, hw''⟩ := hw'
            subst hw''
            have hblq := hbl.trans (hq.mono hbl.size)
            go_wp2
            go_roundw
            case rel => exact ⟨k + 1, by go_num, by omega, by rw [hsk.out], hblq⟩
            case measure => simp [intOf]; omega
      · obtain rfl : k = ks.length := by omega
        have H6 := H5.quiet hbl
        clear H5
        go_wp2_with fail
        refine (c1.out _ _ _ (H6.items 1 rfl) (H6.arg hxa)).mono ?_
        rintro e w7 ⟨rfl, hb⟩
        have H7 := H6.quiet hb
        clear hb H6
        go_wp2_with fail
        refine (c2.out _ _ (H7.items 1 rfl)).mono ?_
        rintro e w8 ⟨v2, rfl, ho, hb⟩
        have H8 := H7.newT ho hb
        clear ho hb H7
        go_wp2_with fail
        refine (c3.out _ _ _ (H8.arg hxa) (H8.texts 0 rfl)).mono ?_
        rintro e w9 ⟨v3, rfl, ho, hb⟩
        have H9 := H8.newI ho hb
        clear ho hb H8
        go_wp2_with fail
        refine (equalI_T H9 (H9.items 0 rfl) (H9.items 3 rfl)).mono ?_
        rintro e w10 ⟨rfl, H10⟩
        clear H9
        go_wp2_with fail
        refine (c4.out _ _ _ (H10.arg hxa) Texts_nil).mono ?_
        rintro e w11 ⟨v4, rfl, ho, hb⟩
        have H11 := H10.newI ho hb
        clear ho hb H10
        go_wp2_with fail
        refine (equalI_T H11 (H11.items 0 rfl) (H11.arg hxa)).mono ?_
        rintro e w12 ⟨rfl, H12⟩
        clear H11
        go_wp2
        go_ret
        exact ⟨rfl, hb1.trans (H12.below.mono hb1.size)⟩

set_option maxRecDepth 100000 in
theorem FnInKeyOrder_lifted (os : Os) (started : os.Started) (H : Type) (enc : TypeId × Value → H) :
    ReturnsInHanded {} Try.checked os 9 .any (Rows.fnInKeyOrderSpec.pre6 enc Try.prog Try.f9 Rows.fnInKeyOrderRow.domain false) (Rows.fnInKeyOrderSpec.post enc Try.prog Try.f9 false true false false) := by
  refine returnsInHanded_of_change (C := Try.checked) own started (by kernel_rfl) Try.func9
    (ChangeSpec.witness6 (enc := enc) (C := Try.checked) false ⟨#[], #[.slice none 0 0], []⟩ 8 (by kernel_rfl) (by kernel_rfl) (by kernel_rfl) (by kernel_rfl)) ?_
  intro W base args ds gs before hval0 hW _ _
  have hval : ∀ (j : Nat) t v, Try.f9.params[j]? = some t → args[j]? = some v → Value.okWide Try.prog W .any base t v := hval0
  have hW' := hW
  obtain ⟨p, q, hA0, hV, rfl, _, _⟩ := hW
  have hA : DataW.TrodAll enc Try.prog W 0 (fun _ => true) true Try.f9.params.toList args.toList ds p := hA0
  rw [Try.params9] at hA hval
  obtain ⟨v0, vs0, d0, ds0, p0, q0, hargs, rfl, rfl, h0, r0⟩ := trodAll_cons hA
  obtain ⟨rfl, rfl, rfl⟩ := trodAll_nil r0
  obtain rfl : args = #[v0] := by cases args; simp_all
  obtain ⟨rfl, rfl⟩ := trodVars_none hV
  obtain ⟨xs0, hI0⟩ := open_bytes (hval 0 _ v0 rfl rfl) h0
  refine (FnInKeyOrder_walk v0 xs0 W hI0).mono fun e W' ⟨he, hb⟩ => ⟨_, he, ?_⟩
  exact law_end rfl (by rw [Try.params9]; decide +kernel) rfl hW' rfl rfl rfl hb

theorem FnInKeyOrder_facts : joinedFacts Try.prog 9 Try.f9 Rows.fnInKeyOrderSpec Rows.fnInKeyOrderRow = true :=
  facts_of (by kernel_rfl) q2 q3 (by kernel_rfl) (by kernel_rfl) (by kernel_rfl) q7 (by kernel_rfl) q9 (by kernel_rfl) (by kernel_rfl) (by kernel_rfl) (by kernel_rfl) (by kernel_rfl) (by kernel_rfl) (by kernel_rfl) (by kernel_rfl) (by kernel_rfl) (by kernel_rfl) (by kernel_rfl) (by kernel_rfl) (by kernel_rfl)
    (by rw [q22]; kernel_rfl) (by kernel_rfl) q23 head_enter (by kernel_rfl) head_lifts head_make (by kernel_rfl) (by kernel_rfl) (by kernel_rfl) (by kernel_rfl) (by kernel_rfl)

theorem FnInKeyOrder_holds : Rows.FnInKeyOrderSaid :=
  OpenClaim.holds_of_wide 9 Try.f9 rfl rfl rfl rfl rfl rfl rfl ⟨rfl, rfl, rfl, rfl, rfl⟩ rfl rfl rfl rfl rfl (by kernel_rfl) Try.func9 FnInKeyOrder_facts
    (of_decide_eq_true (by kernel_rfl)) (by unfold Func.isWrapper; first | (rw [if_pos (by decide +kernel)]; kernel_rfl) | (rw [if_neg (by decide +kernel)]; exact ⟨rfl, rfl⟩))
    (fun os started H enc _ => FnInKeyOrder_lifted os started H enc)
end Go.Proofs.Ytfjgmnlbchcabaa
