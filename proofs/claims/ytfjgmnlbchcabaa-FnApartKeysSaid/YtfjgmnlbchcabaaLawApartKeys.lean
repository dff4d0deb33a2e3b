/-
  FnApartKeys: true, for every code.
-/
import Derived.Test.YtfjgmnlbchcabaaP4
import Derived.Test.YtfjgmnlbchcabaaP11
import Derived.Test.YtfjgmnlbchcabaaP12
import Derived.Test.YtfjgmnlbchcabaaP21
import Derived.Test.YtfjgmnlbchcabaaP23
import Derived.Test.YtfjgmnlbchcabaaP24
import Derived.Test.YtfjgmnlbchcabaaP25
namespace Go.Proofs.Ytfjgmnlbchcabaa
open Go.RowKit
open Go.ChangeShapes Go.WideShapes Go.ChangeAt Go.Deep

set_option maxHeartbeats 3200000 in
set_option maxRecDepth 100000 in
theorem FnApartKeys_walk (v : Value) (bs : List Int) (w : World) (h : Bytes w v bs) :
    Calls Try.prog 14 #[v] w fun e w' => e = .returned (.bool true) ∧ Below w.heap.size w w' := by
  have h0 := h
  obtain ⟨ao, cap, rfl, hl, hc, hok, hcell⟩ := h0
  clear hcell hok
  go_enter Try.func14, Try.ntmps14
  by_cases hbig : (1048576 : Int) < (bs.length : Int)
  · go_wp2
    go_ret
    exact ⟨rfl, Below.refl _ _⟩
  go_wp2_with fail
  refine (DrawApartKeys_any _ bs w h).mono ?_
  rintro e w1 ⟨va, xs, vb, ys, rfl, hlen, hxa, hxb, hb1⟩
  have H1 := Things.nil w1
  obtain ⟨G, hG⟩ : ∃ G, Hid (G = apB xs ys) := ⟨_, Lib.hid rfl⟩
  have cI := Lib.hid (fun (v0 v1 : Value) (w : World) (h0 : Items w v0 xs) (h1 : Items w v1 ys) => castB (ApartKeys_any v0 v1 xs ys w h0 h1) hG.out.symm)
  have cS := Lib.hid (fun (v0 v1 : Value) (w : World) (h0 : Items w v0 xs) (h1 : Items w v1 ys) => castB (sApartKeys_any v0 v1 xs ys w h0 h1) hG.out.symm)
  go_wp2_with fail
  refine (cI.out _ _ _ (H1.arg hxa) (H1.arg hxb)).mono ?_
  rintro e w2 ⟨rfl, hb⟩
  have H2 := H1.quiet hb
  clear hb H1
  go_wp2_with fail
  refine (cS.out _ _ _ (H2.arg hxa) (H2.arg hxb)).mono ?_
  rintro e w3 ⟨rfl, hb⟩
  have H3 := H2.quiet hb
  clear hb H2
  obtain ⟨V, hV⟩ : ∃ V, Hid (V = validI xs) := ⟨_, Lib.hid rfl⟩
  obtain ⟨U, hU⟩ : ∃ U, Hid (U = validI ys) := ⟨_, Lib.hid rfl⟩
  have cV := Lib.hid (fun (v0 : Value) (w : World) (h0 : Items w v0 xs) => castB (ValidItems_any v0 xs w h0) hV.out.symm)
  have cU := Lib.hid (fun (v0 : Value) (w : World) (h0 : Items w v0 ys) => castB (ValidItems_any v0 ys w h0) hU.out.symm)
  go_wp2_with fail
  refine (cV.out _ _ (H3.arg hxa)).mono ?_
  rintro e w4 ⟨rfl, hb⟩
  have H4 := H3.quiet hb
  clear hb H3
  cases V
  · skip
    go_wp2_with fail
    refine (cS.out _ _ _ (H4.arg hxa) (H4.arg hxb)).mono ?_
    rintro e w5 ⟨rfl, hb⟩
    have H5 := H4.quiet hb
    clear hb H4
    go_wp2
    go_ret
    exact ⟨rfl, hb1.trans (H5.below.mono hb1.size)⟩
  · have hv := hV.out.symm
    go_wp2_with fail
    refine (cU.out _ _ (H4.arg hxb)).mono ?_
    rintro e w5 ⟨rfl, hb⟩
    have H5 := H4.quiet hb
    clear hb H4
    cases U
    · skip
      go_wp2_with fail
      refine (cS.out _ _ _ (H5.arg hxa) (H5.arg hxb)).mono ?_
      rintro e w6 ⟨rfl, hb⟩
      have H6 := H5.quiet hb
      clear hb H5
      go_wp2
      go_ret
      exact ⟨rfl, hb1.trans (H6.below.mono hb1.size)⟩
    · have hu := hU.out.symm
      obtain ⟨a1, a2, a3⟩ := apart_keys hv hu
      obtain ⟨X, hX⟩ : ∃ X, Hid (X = overL xs ys) := ⟨_, Lib.hid rfl⟩
      obtain ⟨Y, hY⟩ : ∃ Y, Hid (Y = overL ys xs) := ⟨_, Lib.hid rfl⟩
      obtain ⟨K, hK⟩ : ∃ K, Hid (K = okO xs ys) := ⟨_, Lib.hid rfl⟩
      have c1 := Lib.hid (fun (v0 v1 : Value) (w : World) (h0 : Items w v0 xs) (h1 : Items w v1 ys) => castI2 (OverItems_any v0 v1 xs ys w h0 h1) hX.out.symm hK.out.symm)
      have c2 := Lib.hid (fun (v0 v1 : Value) (w : World) (h0 : Items w v0 ys) (h1 : Items w v1 xs) => castI2 (OverItems_any v0 v1 ys xs w h0 h1) hY.out.symm (show okO ys xs = K by rw [hK.out]; exact a2.symm))
      have HM : Hid (G = true → K = true → smB X Y = true ∧ X.length = xs.length + ys.length) := fun h1 h2 => by
        rw [hX.out, hY.out]
        exact a3 (by rw [← hG.out]; exact h1) (by rw [← hK.out]; exact h2)
      have c3 := Lib.hid (fun (v0 v1 : Value) (w : World) (h0 : Items w v0 X) (h1 : Items w v1 Y) => castB (SameItems_any v0 v1 X Y w h0 h1) rfl)
      have c4 := Lib.hid (fun (v0 v1 : Value) (w : World) (h0 : Items w v0 ys) (h1 : Items w v1 xs) => castB (ApartKeys_any v0 v1 ys xs w h0 h1) (show apB ys xs = G by rw [hG.out]; exact a1))
      clear hv hu a1 a2 a3 hG hX hY hK hV hU cI cS cV cU
      go_wp2_with fail
      refine (c1.out _ _ _ (H5.arg hxa) (H5.arg hxb)).mono ?_
      rintro e w6 ⟨v1, rfl, ho, hb⟩
      have H6 := H5.newI ho hb
      clear ho hb H5
      go_wp2_with fail
      refine (c2.out _ _ _ (H6.arg hxb) (H6.arg hxa)).mono ?_
      rintro e w7 ⟨v2, rfl, ho, hb⟩
      have H7 := H6.newI ho hb
      clear ho hb H6
      cases G
      · skip
        go_wp2_with fail
        refine (c4.out _ _ _ (H7.arg hxb) (H7.arg hxa)).mono ?_
        rintro e w8 ⟨rfl, hb⟩
        have H8 := H7.quiet hb
        clear hb H7
        go_wp2
        go_ret
        exact ⟨rfl, hb1.trans (H8.below.mono hb1.size)⟩
      · skip
        cases K
        · skip
          go_wp2_with fail
          refine (c4.out _ _ _ (H7.arg hxb) (H7.arg hxa)).mono ?_
          rintro e w8 ⟨rfl, hb⟩
          have H8 := H7.quiet hb
          clear hb H7
          go_wp2
          go_ret
          exact ⟨rfl, hb1.trans (H8.below.mono hb1.size)⟩
        · obtain ⟨h1, h2⟩ := HM.out (by first | rfl | trivial) (by first | rfl | trivial)
          have c5 := Lib.hid (fun (v0 v1 : Value) (w : World) (h0 : Items w v0 X) (hh : Items w v1 Y) => castB (c3.out v0 v1 w h0 hh) h1)
          clear c3 HM
          go_wp2_with fail
          refine (c5.out _ _ _ (H7.items 1 rfl) (H7.items 0 rfl)).mono ?_
          rintro e w8 ⟨rfl, hb⟩
          have H8 := H7.quiet hb
          clear hb H7
          obtain ⟨ao1, cap1, rfl, hlc1, hcm1⟩ := Items.shape (H8.items 1 rfl)
          have hxa0 := hxa
          obtain ⟨ao2, cap2, rfl, _, _, _, _⟩ := hxa0
          have hxb0 := hxb
          obtain ⟨ao3, cap3, rfl, _, _, _, _⟩ := hxb0
          have hwr : IntKind.i64.wrap ((xs.length : Int) + (ys.length : Int)) = (X.length : Int) := by rw [IntWalk.i64_in _ (by omega)]; omega
          clear h2
          go_wp2_with fail
          refine (c4.out _ _ _ (H8.arg hxb) (H8.arg hxa)).mono ?_
          rintro e w9 ⟨rfl, hb⟩
          have H9 := H8.quiet hb
          clear hb H8
          go_wp2
          go_ret
          exact ⟨rfl, hb1.trans (H9.below.mono hb1.size)⟩

set_option maxRecDepth 100000 in
theorem FnApartKeys_lifted (os : Os) (started : os.Started) (H : Type) (enc : TypeId × Value → H) :
    ReturnsInHanded {} Try.checked os 14 .any (Rows.fnApartKeysSpec.pre6 enc Try.prog Try.f14 Rows.fnApartKeysRow.domain false) (Rows.fnApartKeysSpec.post enc Try.prog Try.f14 false true false false) := by
  refine returnsInHanded_of_change (C := Try.checked) own started (by kernel_rfl) Try.func14
    (ChangeSpec.witness6 (enc := enc) (C := Try.checked) false ⟨#[], #[.slice none 0 0], []⟩ 8 (by kernel_rfl) (by kernel_rfl) (by kernel_rfl) (by kernel_rfl)) ?_
  intro W base args ds gs before hval0 hW _ _
  have hval : ∀ (j : Nat) t v, Try.f14.params[j]? = some t → args[j]? = some v → Value.okWide Try.prog W .any base t v := hval0
  have hW' := hW
  obtain ⟨p, q, hA0, hV, rfl, _, _⟩ := hW
  have hA : DataW.TrodAll enc Try.prog W 0 (fun _ => true) true Try.f14.params.toList args.toList ds p := hA0
  rw [Try.params14] at hA hval
  obtain ⟨v0, vs0, d0, ds0, p0, q0, hargs, rfl, rfl, h0, r0⟩ := trodAll_cons hA
  obtain ⟨rfl, rfl, rfl⟩ := trodAll_nil r0
  obtain rfl : args = #[v0] := by cases args; simp_all
  obtain ⟨rfl, rfl⟩ := trodVars_none hV
  obtain ⟨xs0, hI0⟩ := open_bytes (hval 0 _ v0 rfl rfl) h0
  refine (FnApartKeys_walk v0 xs0 W hI0).mono fun e W' ⟨he, hb⟩ => ⟨_, he, ?_⟩
  exact law_end rfl (by rw [Try.params14]; decide +kernel) rfl hW' rfl rfl rfl hb

theorem FnApartKeys_facts : joinedFacts Try.prog 14 Try.f14 Rows.fnApartKeysSpec Rows.fnApartKeysRow = true :=
  facts_of (by kernel_rfl) q2 q3 (by kernel_rfl) (by kernel_rfl) (by kernel_rfl) q7 (by kernel_rfl) q9 (by kernel_rfl) (by kernel_rfl) (by kernel_rfl) (by kernel_rfl) (by kernel_rfl) (by kernel_rfl) (by kernel_rfl) (by kernel_rfl) (by kernel_rfl) (by kernel_rfl) (by kernel_rfl) (by kernel_rfl) (by kernel_rfl)
    (by rw [q22]; kernel_rfl) (by kernel_rfl) q23 head_enter (by kernel_rfl) head_lifts head_make (by kernel_rfl) (by kernel_rfl) (by kernel_rfl) (by kernel_rfl) (by kernel_rfl)

theorem FnApartKeys_holds : Rows.FnApartKeysSaid :=
  OpenClaim.holds_of_wide 14 Try.f14 rfl rfl rfl rfl rfl rfl rfl ⟨rfl, rfl, rfl, rfl, rfl⟩ rfl rfl rfl rfl rfl (by kernel_rfl) Try.func14 FnApartKeys_facts
    (of_decide_eq_true (by kernel_rfl)) (by unfold Func.isWrapper; first | (rw [if_pos (by decide +kernel)]; kernel_rfl) | (rw [if_neg (by decide +kernel)]; exact ⟨rfl, rfl⟩))
    (fun os started H enc _ => FnApartKeys_lifted os started H enc)
end Go.Proofs.Ytfjgmnlbchcabaa
