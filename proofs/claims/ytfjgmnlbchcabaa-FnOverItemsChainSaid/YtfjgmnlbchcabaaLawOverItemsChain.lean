/-
  FnOverItemsChain: true, for every code.
-/
import Derived.Test.YtfjgmnlbchcabaaP11
import Derived.Test.YtfjgmnlbchcabaaP23
import Derived.Test.YtfjgmnlbchcabaaP24
import Derived.Test.YtfjgmnlbchcabaaP25
namespace Go.Proofs.Ytfjgmnlbchcabaa
open Go.RowKit
open Go.ChangeShapes Go.WideShapes Go.ChangeAt Go.Deep

def cAC : List Itm := [(⟨#[97]⟩, 7), (⟨#[99]⟩, 8)]
theorem cAC_valid : validI cAC = true := by decide

set_option maxHeartbeats 3200000 in
set_option maxRecDepth 100000 in
theorem FnOverItemsChain_walk (v : Value) (bs : List Int) (w : World) (h : Bytes w v bs) :
    Calls Try.prog 4 #[v] w fun e w' => e = .returned (.bool true) ∧ Below w.heap.size w w' := by
  have h0 := h
  obtain ⟨ao, cap, rfl, hl, hc, hok, hcell⟩ := h0
  clear hcell hok
  go_enter Try.func4, Try.ntmps4
  by_cases hbig : (1048576 : Int) < (bs.length : Int)
  · go_wp2
    go_ret
    exact ⟨rfl, Below.refl _ _⟩
  go_wp2_with fail
  refine (DrawOverItems_any _ bs w h).mono ?_
  rintro e w1 ⟨va, xs, vb, ys, rfl, hlen, hxa, hxb, hb1⟩
  have H1 := Things.nil w1
  obtain ⟨G, hG⟩ : ∃ G, Hid (G = overL xs ys) := ⟨_, Lib.hid rfl⟩
  obtain ⟨K, hK⟩ : ∃ K, Hid (K = okO xs ys) := ⟨_, Lib.hid rfl⟩
  have cI := Lib.hid (fun (v0 v1 : Value) (w : World) (h0 : Items w v0 xs) (h1 : Items w v1 ys) => castI2 (OverItems_any v0 v1 xs ys w h0 h1) hG.out.symm hK.out.symm)
  have cS := Lib.hid (fun (v0 v1 : Value) (w : World) (h0 : Items w v0 xs) (h1 : Items w v1 ys) => castI2 (sOverItems_any v0 v1 xs ys w h0 h1) hG.out.symm hK.out.symm)
  go_wp2_with fail
  refine (cI.out _ _ _ (H1.arg hxa) (H1.arg hxb)).mono ?_
  rintro e w2 ⟨vo, rfl, ho, hb⟩
  have H2 := H1.newI ho hb
  clear ho hb H1
  go_wp2_with fail
  refine (cS.out _ _ _ (H2.arg hxa) (H2.arg hxb)).mono ?_
  rintro e w3 ⟨vw, rfl, ho, hb⟩
  have H3 := H2.newI ho hb
  clear ho hb H2
  clear cI cS
  go_wp2_with fail
  refine (equalI_T H3 (H3.items 1 rfl) (H3.items 0 rfl)).mono ?_
  rintro e w4 ⟨rfl, H4⟩
  clear H3
  cases K
  · skip
    go_wp2_with fail
    refine (equalI_T H4 (H4.items 1 rfl) (H4.items 0 rfl)).mono ?_
    rintro e w5 ⟨rfl, H5⟩
    clear H4
    go_wp2
    go_ret
    exact ⟨rfl, hb1.trans (H5.below.mono hb1.size)⟩
  · have hk := hK.out.symm
    obtain ⟨hv, hu, hg, hge⟩ := over_parts hk
    rw [← hG.out] at hge
    obtain ⟨X, hX⟩ : ∃ X, Hid (X = overL G cAC) := ⟨_, Lib.hid rfl⟩
    obtain ⟨P, hP⟩ : ∃ P, Hid (P = okO G cAC) := ⟨_, Lib.hid rfl⟩
    obtain ⟨Y, hY⟩ : ∃ Y, Hid (Y = overL ys cAC) := ⟨_, Lib.hid rfl⟩
    obtain ⟨Q, hQ⟩ : ∃ Q, Hid (Q = okO ys cAC) := ⟨_, Lib.hid rfl⟩
    obtain ⟨Z, hZ⟩ : ∃ Z, Hid (Z = overL xs Y) := ⟨_, Lib.hid rfl⟩
    obtain ⟨R, hR⟩ : ∃ R, Hid (R = okO xs Y) := ⟨_, Lib.hid rfl⟩
    have c1 := Lib.hid (fun (v0 v1 : Value) (w : World) (h0 : Items w v0 G) (h1 : Items w v1 cAC) => castI2 (OverItems_any v0 v1 G cAC w h0 h1) hX.out.symm hP.out.symm)
    have c2 := Lib.hid (fun (v0 v1 : Value) (w : World) (h0 : Items w v0 ys) (h1 : Items w v1 cAC) => castI2 (OverItems_any v0 v1 ys cAC w h0 h1) hY.out.symm hQ.out.symm)
    have c3 := Lib.hid (fun (v0 v1 : Value) (w : World) (h0 : Items w v0 xs) (h1 : Items w v1 Y) => castI2 (OverItems_any v0 v1 xs Y w h0 h1) hZ.out.symm hR.out.symm)
    have c4 := Lib.hid (fun (v0 v1 : Value) (w : World) (h0 : Items w v0 xs) (h1 : Items w v1 xs) => castI2 (OverItems_any v0 v1 xs xs w h0 h1) (show overL xs xs = xs by rw [(over_of hv hv (by rw [over_self (valid_uniq hv)]; exact hv)).2, over_self (valid_uniq hv)]) (over_of hv hv (by rw [over_self (valid_uniq hv)]; exact hv)).1)
    have HM : Hid (P = true → Q = true → R = true ∧ X = Z) := fun h1 h2 => by
      rw [hP.out] at h1
      rw [hQ.out] at h2
      obtain ⟨_, _, q1, q2⟩ := over_parts h1
      obtain ⟨_, _, q3, q4⟩ := over_parts h2
      have e : overI G cAC = overI xs (overI ys cAC) := by rw [hge, over_assoc (valid_uniq hv) (valid_uniq hu) (valid_uniq cAC_valid)]
      rw [hR.out, hZ.out, hX.out, hY.out, q2, q4]
      have q5 := over_of hv q3 (by rw [← e]; exact q1)
      exact ⟨q5.1, by rw [q5.2, e]⟩
    clear hv hu hg hge hk hG hK hX hP hY hQ hZ hR
    have H5 := H4.lit cAC #[.string ⟨#[97]⟩, .int .i64 7, .string ⟨#[99]⟩, .int .i64 8] 2 rfl rfl (by decide) (ok_valid cAC_valid)
    clear H4
    go_wp2_with fail
    refine (c1.out _ _ _ (H5.items 2 rfl) (H5.items 0 rfl)).mono ?_
    rintro e w6 ⟨v1, rfl, ho, hb⟩
    have H6 := H5.newI ho hb
    clear ho hb H5
    go_wp2_with fail
    refine (c2.out _ _ _ (H6.arg hxb) (H6.items 1 rfl)).mono ?_
    rintro e w7 ⟨v2, rfl, ho, hb⟩
    have H7 := H6.newI ho hb
    clear ho hb H6
    go_wp2_with fail
    refine (c3.out _ _ _ (H7.arg hxa) (H7.items 0 rfl)).mono ?_
    rintro e w8 ⟨v3, rfl, ho, hb⟩
    have H8 := H7.newI ho hb
    clear ho hb H7
    go_wp2_with fail
    refine (c4.out _ _ _ (H8.arg hxa) (H8.arg hxa)).mono ?_
    rintro e w9 ⟨v4, rfl, ho, hb⟩
    have H9 := H8.newI ho hb
    clear ho hb H8
    go_wp2_with fail
    refine (equalI_T H9 (H9.items 0 rfl) (H9.arg hxa)).mono ?_
    rintro e w10 ⟨rfl, H10⟩
    clear H9
    cases P
    · skip
      go_wp2
      go_ret
      exact ⟨rfl, hb1.trans (H10.below.mono hb1.size)⟩
    · skip
      cases Q
      · skip
        go_wp2
        go_ret
        exact ⟨rfl, hb1.trans (H10.below.mono hb1.size)⟩
      · obtain ⟨h1, h2⟩ := HM.out (by first | rfl | trivial) (by first | rfl | trivial)
        subst h1
        subst h2
        clear HM
        go_wp2_with fail
        refine (equalI_T H10 (H10.items 3 rfl) (H10.items 1 rfl)).mono ?_
        rintro e w11 ⟨rfl, H11⟩
        clear H10
        go_wp2
        go_ret
        exact ⟨rfl, hb1.trans (H11.below.mono hb1.size)⟩

set_option maxRecDepth 100000 in
theorem FnOverItemsChain_lifted (os : Os) (started : os.Started) (H : Type) (enc : TypeId × Value → H) :
    ReturnsInHanded {} Try.checked os 4 .any (Rows.fnOverItemsChainSpec.pre6 enc Try.prog Try.f4 Rows.fnOverItemsChainRow.domain false) (Rows.fnOverItemsChainSpec.post enc Try.prog Try.f4 false true false false) := by
  refine returnsInHanded_of_change (C := Try.checked) own started (by kernel_rfl) Try.func4
    (ChangeSpec.witness6 (enc := enc) (C := Try.checked) false ⟨#[], #[.slice none 0 0], []⟩ 8 (by kernel_rfl) (by kernel_rfl) (by kernel_rfl) (by kernel_rfl)) ?_
  intro W base args ds gs before hval0 hW _ _
  have hval : ∀ (j : Nat) t v, Try.f4.params[j]? = some t → args[j]? = some v → Value.okWide Try.prog W .any base t v := hval0
  have hW' := hW
  obtain ⟨p, q, hA0, hV, rfl, _, _⟩ := hW
  have hA : DataW.TrodAll enc Try.prog W 0 (fun _ => true) true Try.f4.params.toList args.toList ds p := hA0
  rw [Try.params4] at hA hval
  obtain ⟨v0, vs0, d0, ds0, p0, q0, hargs, rfl, rfl, h0, r0⟩ := trodAll_cons hA
  obtain ⟨rfl, rfl, rfl⟩ := trodAll_nil r0
  obtain rfl : args = #[v0] := by cases args; simp_all
  obtain ⟨rfl, rfl⟩ := trodVars_none hV
  obtain ⟨xs0, hI0⟩ := open_bytes (hval 0 _ v0 rfl rfl) h0
  refine (FnOverItemsChain_walk v0 xs0 W hI0).mono fun e W' ⟨he, hb⟩ => ⟨_, he, ?_⟩
  exact law_end rfl (by rw [Try.params4]; decide +kernel) rfl hW' rfl rfl rfl hb

theorem FnOverItemsChain_facts : joinedFacts Try.prog 4 Try.f4 Rows.fnOverItemsChainSpec Rows.fnOverItemsChainRow = true :=
  facts_of (by kernel_rfl) q2 q3 (by kernel_rfl) (by kernel_rfl) (by kernel_rfl) q7 (by kernel_rfl) q9 (by kernel_rfl) (by kernel_rfl) (by kernel_rfl) (by kernel_rfl) (by kernel_rfl) (by kernel_rfl) (by kernel_rfl) (by kernel_rfl) (by kernel_rfl) (by kernel_rfl) (by kernel_rfl) (by kernel_rfl) (by kernel_rfl)
    (by rw [q22]; kernel_rfl) (by kernel_rfl) q23 head_enter (by kernel_rfl) head_lifts head_make (by kernel_rfl) (by kernel_rfl) (by kernel_rfl) (by kernel_rfl) (by kernel_rfl)

theorem FnOverItemsChain_holds : Rows.FnOverItemsChainSaid :=
  OpenClaim.holds_of_wide 4 Try.f4 rfl rfl rfl rfl rfl rfl rfl ⟨rfl, rfl, rfl, rfl, rfl⟩ rfl rfl rfl rfl rfl (by kernel_rfl) Try.func4 FnOverItemsChain_facts
    (of_decide_eq_true (by kernel_rfl)) (by unfold Func.isWrapper; first | (rw [if_pos (by decide +kernel)]; kernel_rfl) | (rw [if_neg (by decide +kernel)]; exact ⟨rfl, rfl⟩))
    (fun os started H enc _ => FnOverItemsChain_lifted os started H enc)
end Go.Proofs.Ytfjgmnlbchcabaa
