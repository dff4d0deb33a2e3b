/-
  FnSortKeys: true, for every code.
-/
import Derived.Laws.Cover1
import Derived.Test.YtfjgmnlbchcabaaP4
import Derived.Test.YtfjgmnlbchcabaaP11
import Derived.Test.YtfjgmnlbchcabaaP17
import Derived.Test.YtfjgmnlbchcabaaP23
import Derived.Test.YtfjgmnlbchcabaaP24
namespace Go.Proofs.Ytfjgmnlbchcabaa
open Go.RowKit
open Go.ChangeShapes Go.WideShapes Go.ChangeAt Go.Deep

theorem sk_of {l : List Itm} (h : validI l = true) : validI (skL l) = true ∧ (skL l).Perm l := ⟨by rw [valid_perm (sk_perm h)]; exact h, sk_perm h⟩
theorem sk_rev {l : List Itm} (h : validI l = true) : skL l.reverse = skL l := by
  have hr : validI l.reverse = true := by rw [valid_perm (List.reverse_perm l)]; exact h
  have h1 := (sm_perm hr h).2 (List.reverse_perm l)
  rw [sm_yes (okAB_iff.2 ⟨hr, h⟩), decide_eq_true_eq] at h1
  exact h1
theorem sk_sorted {l : List Itm} (h : validI l = true) : (skL l).Pairwise fun a b => keyLt a.1 b.1 = true := by
  have hu := valid_uniq (sk_of h).1
  have hp := uniq_pair hu
  have hs : (skL l).Pairwise fun a b => geL a b = true := by
    rw [← sk_same]
    unfold skD
    rw [if_pos h, sortD_keys (valid_uniq h)]
    exact (sort_same (lt := ltK) (ge := geL) (fun x y => rfl) (fun a b c h1 h2 => by
      unfold geL ltK at *
      simp only [Bool.not_eq_true'] at *
      rw [← Bool.not_eq_true]
      intro h3
      cases h4 : keyLt b.1 c.1
      · have := key_total h4 h2
        rw [← this] at h3
        rw [h3] at h1
        cases h1
      · have := key_trans h4 h3
        rw [this] at h1
        cases h1) (fun a b => by
      unfold geL ltK
      simp only [Bool.not_eq_true']
      cases h : keyLt b.1 a.1
      · exact .inl rfl
      · exact .inr (key_asymm h)) l).2
  refine (hs.and hp).imp fun {a b} hab => ?_
  have h1 : keyLt b.1 a.1 = false := by
    have := hab.1
    unfold geL ltK at this
    simpa using this
  cases h2 : keyLt a.1 b.1
  · exact absurd (key_total h2 h1) hab.2
  · rfl

set_option maxHeartbeats 3200000 in
set_option maxRecDepth 100000 in
theorem FnSortKeys_walk (v : Value) (bs : List Int) (w : World) (h : Bytes w v bs) :
    Calls Try.prog 8 #[v] w fun e w' => e = .returned (.bool true) ∧ Below w.heap.size w w' := by
  have h0 := h
  obtain ⟨ao, cap, rfl, hl, hc, hok, hcell⟩ := h0
  clear hcell hok
  go_enter Try.func8, Try.ntmps8
  by_cases hbig : (1048576 : Int) < (bs.length : Int)
  · go_wp2
    go_ret
    exact ⟨rfl, Below.refl _ _⟩
  go_wp2_with fail
  refine (DrawSortKeys_any _ bs w h).mono ?_
  rintro e w1 ⟨va, xs, rfl, hlen, hxa, hb1⟩
  have H1 := Things.nil w1
  obtain ⟨G, hG⟩ : ∃ G, Hid (G = skL xs) := ⟨_, Lib.hid rfl⟩
  have cI := Lib.hid (fun (v0 : Value) (w : World) (h0 : Items w v0 xs) => castL (SortKeys_any v0 xs w h0) hG.out.symm)
  have cS := Lib.hid (fun (v0 : Value) (w : World) (h0 : Items w v0 xs) => castL (sSortKeys_any v0 xs w h0) ((sk_same xs).trans hG.out.symm))
  go_wp2_with fail
  refine (cI.out _ _ (H1.arg hxa)).mono ?_
  rintro e w2 ⟨vo, rfl, ho, hb⟩
  have H2 := H1.newI ho hb
  clear ho hb H1
  go_wp2_with fail
  refine (cS.out _ _ (H2.arg hxa)).mono ?_
  rintro e w3 ⟨vw, rfl, ho, hb⟩
  have H3 := H2.newI ho hb
  clear ho hb H2
  go_wp2_with fail
  refine (equalI_T H3 (H3.items 1 rfl) (H3.items 0 rfl)).mono ?_
  rintro e w4 ⟨rfl, H4⟩
  clear H3
  obtain ⟨V, hV⟩ : ∃ V, Hid (V = validI xs) := ⟨_, Lib.hid rfl⟩
  have cV := Lib.hid (fun (v0 : Value) (w : World) (h0 : Items w v0 xs) => castB (ValidItems_any v0 xs w h0) hV.out.symm)
  go_wp2_with fail
  refine (cV.out _ _ (H4.arg hxa)).mono ?_
  rintro e w5 ⟨rfl, hb⟩
  have H5 := H4.quiet hb
  clear hb H4
  cases V
  · skip
    go_wp2_with fail
    refine (cS.out _ _ (H5.arg hxa)).mono ?_
    rintro e w6 ⟨vs, rfl, ho, hb⟩
    have H6 := H5.newI ho hb
    clear ho hb H5
    go_wp2_with fail
    refine (equalI_T H6 (H6.items 2 rfl) (H6.items 0 rfl)).mono ?_
    rintro e w7 ⟨rfl, H7⟩
    clear H6
    go_wp2
    go_ret
    exact ⟨rfl, hb1.trans (H7.below.mono hb1.size)⟩
  · have hv := hV.out.symm
    have hs := Lib.hid (sk_sorted hv)
    rw [← hG.out] at hs
    obtain ⟨R, hR⟩ : ∃ R, Hid (R = turL xs) := ⟨_, Lib.hid rfl⟩
    have c1 := Lib.hid (fun (v0 v1 : Value) (w : World) (h0 : Items w v0 G) (h1 : Items w v1 xs) => castB (SameItems_any v0 v1 G xs w h0 h1) (show smB G xs = true by rw [hG.out]; exact sm_of (sk_of hv).1 (sk_of hv).2))
    have c2 := Lib.hid (fun (v0 : Value) (w : World) (h0 : Items w v0 xs) => castI (TurnItems_any v0 xs w h0) hR.out.symm)
    have c3 := Lib.hid (fun (v0 : Value) (w : World) (h0 : Items w v0 R) => castL (SortKeys_any v0 R w h0) (show skL R = G by rw [hR.out, hG.out]; unfold turL; rw [if_pos hv]; exact sk_rev hv))
    clear hG hR hv hV cI cS cV
    obtain ⟨ao1, cap1, rfl, hlc1, hcm1, hok1, hcell1⟩ := H5.items 1 rfl
    go_wp2
    go_loopw [5] (fun i wr => ∃ k : Nat, i = .int .i64 k ∧ 1 ≤ k ∧ Below w5.heap.size w5 wr) (fun i _ => G.length - (intOf i).toNat)
    case atStart => exact ⟨1, rfl, Nat.le_refl _, Below.refl _ _⟩
    case round =>
      obtain ⟨k, rfl, hk, hbl⟩ := hrel
      by_cases hlt : k < G.length
      · obtain ⟨j, hj⟩ : ∃ j : Nat, k = j + 1 := ⟨k - 1, by omega⟩
        have hjl : j < G.length := by omega
        have hlt2 : (k : Int) < (G.length : Int) := by omega
        have hlt3 : (j : Int) < (G.length : Int) := by omega
        have hk0 : (0 : Int) ≤ (k : Int) := by omega
        have hj0 : (0 : Int) ≤ (j : Int) := by omega
        have hwr1 : IntKind.i64.wrap ((k : Int) - 1) = (j : Int) := by rw [IntWalk.i64_in _ (by omega)]; omega
        obtain ⟨b1, o1, rfl, hbk1, k1, _⟩ := hcell1 k hlt
        obtain ⟨b2, o2, e, hbk2, k3, _⟩ := hcell1 j hjl
        simp only [Option.some.injEq, Addr.mk.injEq, and_true] at e
        obtain ⟨rfl, rfl⟩ := e
        have d1 := (hbl.cell (p := ⟨b1, _, none⟩) hbk1).trans k1
        have d2 := (hbl.cell (p := ⟨b1, _, none⟩) hbk1).trans k3
        have hkl : Op.bytesLess G[j].1.toList G[k].1.toList = true := List.pairwise_iff_getElem.1 hs.out j k hjl hlt (by omega)
        clear k1 k3 hj hbk2
        go_wp2_with fail
        go_quiet (fail)
        go_wp2
        go_roundw
        case rel => exact ⟨k + 1, by go_num, by omega, below_drewN hbl _⟩
        case measure => simp [intOf]; omega
      · have hge : G.length ≤ k := by omega
        have H6 := H5.quiet hbl
        clear H5
        go_wp2_with fail
        refine (c1.out _ _ _ (H6.items 1 rfl) (H6.arg hxa)).mono ?_
        rintro e w7 ⟨rfl, hb⟩
        have H7 := H6.quiet hb
        clear hb H6
        go_wp2_with fail
        refine (c2.out _ _ (H7.arg hxa)).mono ?_
        rintro e w8 ⟨v2, rfl, ho, hb⟩
        have H8 := H7.newI ho hb
        clear ho hb H7
        go_wp2_with fail
        refine (c3.out _ _ (H8.items 0 rfl)).mono ?_
        rintro e w9 ⟨v3, rfl, ho, hb⟩
        have H9 := H8.newI ho hb
        clear ho hb H8
        go_wp2_with fail
        refine (equalI_T H9 (H9.items 0 rfl) (H9.items 3 rfl)).mono ?_
        rintro e w10 ⟨rfl, H10⟩
        clear H9
        go_wp2
        go_ret
        exact ⟨rfl, hb1.trans (H10.below.mono hb1.size)⟩

set_option maxRecDepth 100000 in
theorem FnSortKeys_lifted (os : Os) (started : os.Started) (H : Type) (enc : TypeId × Value → H) :
    ReturnsInHanded {} Try.checked os 8 .any (Rows.fnSortKeysSpec.pre6 enc Try.prog Try.f8 Rows.fnSortKeysRow.domain false) (Rows.fnSortKeysSpec.post enc Try.prog Try.f8 false true false false) := by
  refine returnsInHanded_of_change (C := Try.checked) own started (by kernel_rfl) Try.func8
    (ChangeSpec.witness6 (enc := enc) (C := Try.checked) false ⟨#[], #[.slice none 0 0], []⟩ 8 (by kernel_rfl) (by kernel_rfl) (by kernel_rfl) (by kernel_rfl)) ?_
  intro W base args ds gs before hval0 hW _ _
  have hval : ∀ (j : Nat) t v, Try.f8.params[j]? = some t → args[j]? = some v → Value.okWide Try.prog W .any base t v := hval0
  have hW' := hW
  obtain ⟨p, q, hA0, hV, rfl, _, _⟩ := hW
  have hA : DataW.TrodAll enc Try.prog W 0 (fun _ => true) true Try.f8.params.toList args.toList ds p := hA0
  rw [Try.params8] at hA hval
  obtain ⟨v0, vs0, d0, ds0, p0, q0, hargs, rfl, rfl, h0, r0⟩ := trodAll_cons hA
  obtain ⟨rfl, rfl, rfl⟩ := trodAll_nil r0
  obtain rfl : args = #[v0] := by cases args; simp_all
  obtain ⟨rfl, rfl⟩ := trodVars_none hV
  obtain ⟨xs0, hI0⟩ := open_bytes (hval 0 _ v0 rfl rfl) h0
  refine (FnSortKeys_walk v0 xs0 W hI0).mono fun e W' ⟨he, hb⟩ => ⟨_, he, ?_⟩
  exact law_end rfl (by rw [Try.params8]; decide +kernel) rfl hW' rfl rfl rfl hb

theorem FnSortKeys_facts : joinedFacts Try.prog 8 Try.f8 Rows.fnSortKeysSpec Rows.fnSortKeysRow = true :=
  facts_of (by kernel_rfl) q2 q3 (by kernel_rfl) (by kernel_rfl) (by kernel_rfl) q7 (by kernel_rfl) q9 (by kernel_rfl) (by kernel_rfl) (by kernel_rfl) (by kernel_rfl) (by kernel_rfl) (by kernel_rfl) (by kernel_rfl) (by kernel_rfl) (by kernel_rfl) (by kernel_rfl) (by kernel_rfl) (by kernel_rfl) (by kernel_rfl)
    (by rw [q22]; kernel_rfl) (by kernel_rfl) q23 head_enter (by kernel_rfl) head_lifts head_make (by kernel_rfl) (by kernel_rfl) (by kernel_rfl) (by kernel_rfl) (by kernel_rfl)

theorem FnSortKeys_holds : Rows.FnSortKeysSaid :=
  OpenClaim.holds_of_wide 8 Try.f8 rfl rfl rfl rfl rfl rfl rfl ⟨rfl, rfl, rfl, rfl, rfl⟩ rfl rfl rfl rfl rfl (by kernel_rfl) Try.func8 FnSortKeys_facts
    (of_decide_eq_true (by kernel_rfl)) (by unfold Func.isWrapper; first | (rw [if_pos (by decide +kernel)]; kernel_rfl) | (rw [if_neg (by decide +kernel)]; exact ⟨rfl, rfl⟩))
    (fun os started H enc _ => FnSortKeys_lifted os started H enc)
end Go.Proofs.Ytfjgmnlbchcabaa
