/-
  FnJoinKeys: true, for every code.
-/
import Derived.Deep.RegionHeld3
import Derived.Test.YtfjgmnlbchcabaaP4
import Derived.Test.YtfjgmnlbchcabaaP11
import Derived.Test.YtfjgmnlbchcabaaP21
import Derived.Test.YtfjgmnlbchcabaaP23
import Derived.Test.YtfjgmnlbchcabaaP24
namespace Go.Proofs.Ytfjgmnlbchcabaa
open Go.RowKit
open Go.ChangeShapes Go.WideShapes Go.ChangeAt Go.Deep

set_option maxHeartbeats 8000000 in
set_option maxRecDepth 100000 in
theorem FnJoinKeys_walk (v : Value) (bs : List Int) (w : World) (h : Bytes w v bs) :
    Calls Try.prog 11 #[v] w fun e w' => e = .returned (.bool true) ∧ Below w.heap.size w w' := by
  have h0 := h
  obtain ⟨ao, cap, rfl, hl, hc, hok, hcell⟩ := h0
  clear hcell hok
  go_enter Try.func11, Try.ntmps11
  by_cases hbig : (1048576 : Int) < (bs.length : Int)
  · go_wp2
    go_ret
    exact ⟨rfl, Below.refl _ _⟩
  go_wp2_with fail
  refine (DrawJoinKeys_any _ bs w h).mono ?_
  rintro e w1 ⟨va, xs, vb, ys, rfl, hlen, hxa, hxb, hb1⟩
  have H1 := Things.nil w1
  obtain ⟨G, hG⟩ : ∃ G, Hid (G = jkL xs ys) := ⟨_, Lib.hid rfl⟩
  have cI := Lib.hid (fun (v0 v1 : Value) (w : World) (h0 : Items w v0 xs) (h1 : Items w v1 ys) => castT (JoinKeys_any v0 v1 xs ys w h0 h1) hG.out.symm)
  have cS := Lib.hid (fun (v0 v1 : Value) (w : World) (h0 : Items w v0 xs) (h1 : Items w v1 ys) => castT (sJoinKeys_any v0 v1 xs ys w h0 h1) hG.out.symm)
  go_wp2_with fail
  refine (cI.out _ _ _ (H1.arg hxa) (H1.arg hxb)).mono ?_
  rintro e w2 ⟨vo, rfl, ho, hb⟩
  have H2 := H1.newT ho hb
  clear ho hb H1
  go_wp2_with fail
  refine (cS.out _ _ _ (H2.arg hxa) (H2.arg hxb)).mono ?_
  rintro e w3 ⟨vw, rfl, ho, hb⟩
  have H3 := H2.newT ho hb
  clear ho hb H2
  go_wp2_with fail
  refine (equalT_T H3 (H3.texts 1 rfl) (H3.texts 0 rfl)).mono ?_
  rintro e w4 ⟨rfl, H4⟩
  clear H3
  obtain ⟨V, hV⟩ : ∃ V, Hid (V = validI xs) := ⟨_, Lib.hid rfl⟩
  obtain ⟨U, hU⟩ : ∃ U, Hid (U = validI ys) := ⟨_, Lib.hid rfl⟩
  have cV := Lib.hid (fun (v0 : Value) (w : World) (h0 : Items w v0 xs) => castB (ValidItems_any v0 xs w h0) hV.out.symm)
  have cU := Lib.hid (fun (v0 : Value) (w : World) (h0 : Items w v0 ys) => castB (ValidItems_any v0 ys w h0) hU.out.symm)
  go_wp2_with fail
  refine (cV.out _ _ (H4.arg hxa)).mono ?_
  rintro e w5 ⟨rfl, hb⟩
  have H5 := H4.quiet hb
  clear hb H4
  cases V
  · skip
    go_wp2_with fail
    refine (cS.out _ _ _ (H5.arg hxa) (H5.arg hxb)).mono ?_
    rintro e w6 ⟨vs, rfl, ho, hb⟩
    have H6 := H5.newT ho hb
    clear ho hb H5
    go_wp2_with fail
    refine (equalT_T H6 (H6.texts 2 rfl) (H6.texts 0 rfl)).mono ?_
    rintro e w7 ⟨rfl, H7⟩
    clear H6
    go_wp2
    go_ret
    exact ⟨rfl, hb1.trans (H7.below.mono hb1.size)⟩
  · have hv := hV.out.symm
    go_wp2_with fail
    refine (cU.out _ _ (H5.arg hxb)).mono ?_
    rintro e w6 ⟨rfl, hb⟩
    have H6 := H5.quiet hb
    clear hb H5
    cases U
    · skip
      go_wp2_with fail
      refine (cS.out _ _ _ (H6.arg hxa) (H6.arg hxb)).mono ?_
      rintro e w7 ⟨vs, rfl, ho, hb⟩
      have H7 := H6.newT ho hb
      clear ho hb H6
      go_wp2_with fail
      refine (equalT_T H7 (H7.texts 2 rfl) (H7.texts 0 rfl)).mono ?_
      rintro e w8 ⟨rfl, H8⟩
      clear H7
      go_wp2
      go_ret
      exact ⟨rfl, hb1.trans (H8.below.mono hb1.size)⟩
    · have hu := hU.out.symm
      obtain ⟨a1, a2, a3, a4⟩ := join_keys hv hu
      obtain ⟨A, hA⟩ : ∃ A, Hid (A = keysL xs) := ⟨_, Lib.hid rfl⟩
      obtain ⟨B, hB⟩ : ∃ B, Hid (B = lkL ys xs) := ⟨_, Lib.hid rfl⟩
      have hxl : xs.length ≤ 1000000 := by omega
      have c1 := Lib.hid (fun (v0 : Value) (w : World) (h0 : Items w v0 xs) => castT (lkeys_any v0 xs w h0 hxl) hA.out.symm)
      have c2 := Lib.hid (fun (v0 v1 : Value) (w : World) (h0 : Items w v0 ys) (h1 : Items w v1 xs) => castT (LessKeys_any v0 v1 ys xs w h0 h1) hB.out.symm)
      have c3 := Lib.hid (fun (v0 : Value) (w : World) (h0 : Texts w v0 G) => castB (apart_any v0 G w h0) (show decide G.Nodup = true by rw [hG.out]; exact decide_eq_true a3))
      have hGl : xs.length ≤ G.length := by rw [hG.out]; exact a4
      have e1 : G.take xs.length = A := by rw [hG.out, hA.out]; exact a1
      have e2 : G.drop xs.length = B := by rw [hG.out, hB.out]; exact a2
      clear hv hu a1 a2 a3 a4 hG hA hB hV hU cI cS cV cU
      obtain ⟨ao1, cap1, rfl, hlc1, hcm1⟩ := Texts.shape (H6.texts 1 rfl)
      have hxa0 := hxa
      obtain ⟨ao2, cap2, rfl, hlc2, hcm2⟩ := Items.shape hxa0
      have i1 : (xs.length : Int) ≤ (G.length : Int) := by omega
      have i2 : (0 : Int) ≤ (xs.length : Int) := by omega
      have i3 : (xs.length : Int) ≤ (cap1 : Int) := by omega
      have HD := Things.quiet H6 (Below.refl _ _).drew
      by_cases hck : cap1 = xs.length
      · subst hck
        obtain rfl : B = [] := by rw [← e2]; exact List.drop_eq_nil_of_le (by omega)
        clear e2
        go_wp2_with fail
        go_region_held3 (fun _ : World => True)
          (first | trivial | assumption)
          (first
            | (go_at_call 21; (with_reducible refine (c1.out _ _ (HD.arg hxa)).mono ?_); rintro e w8 ⟨v8, rfl, ho, hb⟩; have H8 := HD.newT ho hb; clear ho hb c1)
            | (go_at_call 20; (with_reducible refine (equalT_T H8 (e1 ▸ (H8.texts 2 rfl).takeA hGl) (H8.texts 0 rfl)).mono ?_); rintro e w9 ⟨rfl, H9⟩; clear H8)
            | (go_at_call 50; (with_reducible refine (c2.out _ _ _ (H9.arg hxb) (H9.arg hxa)).mono ?_); rintro e w10 ⟨v10, rfl, ho, hb⟩; have H10 := H9.newT ho hb; clear ho hb c2 H9)
            | (go_at_call 20; (refine (equalT_T H10 (Texts_none (by omega)) (H10.texts 0 rfl)).mono ?_); rintro e w11 ⟨rfl, H11⟩; clear H10)
            | (go_at_call 46; (with_reducible refine (c3.out _ _ (H11.texts 3 rfl)).mono ?_); rintro e w12 ⟨rfl, hb⟩; have H12 := H11.quiet hb; clear hb))
        go_wp2
        go_ret
        exact ⟨rfl, hb1.trans (H12.below.mono hb1.size)⟩
      · skip
        go_wp2_with fail
        go_region_held3 (fun _ : World => True)
          (first | trivial | assumption)
          (first
            | (go_at_call 21; (with_reducible refine (c1.out _ _ (HD.arg hxa)).mono ?_); rintro e w8 ⟨v8, rfl, ho, hb⟩; have H8 := HD.newT ho hb; clear ho hb c1)
            | (go_at_call 20; (with_reducible refine (equalT_T H8 (e1 ▸ (H8.texts 2 rfl).takeA hGl) (H8.texts 0 rfl)).mono ?_); rintro e w9 ⟨rfl, H9⟩; clear H8)
            | (go_at_call 50; (with_reducible refine (c2.out _ _ _ (H9.arg hxb) (H9.arg hxa)).mono ?_); rintro e w10 ⟨v10, rfl, ho, hb⟩; have H10 := H9.newT ho hb; clear ho hb c2 H9)
            | (go_at_call 20; (refine (equalT_T H10 (e2 ▸ (H10.texts 3 rfl).dropA hGl (fun _ => rfl)) (H10.texts 0 rfl)).mono ?_); rintro e w11 ⟨rfl, H11⟩; clear H10)
            | (go_at_call 46; (with_reducible refine (c3.out _ _ (H11.texts 3 rfl)).mono ?_); rintro e w12 ⟨rfl, hb⟩; have H12 := H11.quiet hb; clear hb))
        go_wp2
        go_ret
        exact ⟨rfl, hb1.trans (H12.below.mono hb1.size)⟩

set_option maxRecDepth 100000 in
theorem FnJoinKeys_lifted (os : Os) (started : os.Started) (H : Type) (enc : TypeId × Value → H) :
    ReturnsInHanded {} Try.checked os 11 .any (Rows.fnJoinKeysSpec.pre6 enc Try.prog Try.f11 Rows.fnJoinKeysRow.domain false) (Rows.fnJoinKeysSpec.post enc Try.prog Try.f11 false true false false) := by
  refine returnsInHanded_of_change (C := Try.checked) own started (by kernel_rfl) Try.func11
    (ChangeSpec.witness6 (enc := enc) (C := Try.checked) false ⟨#[], #[.slice none 0 0], []⟩ 8 (by kernel_rfl) (by kernel_rfl) (by kernel_rfl) (by kernel_rfl)) ?_
  intro W base args ds gs before hval0 hW _ _
  have hval : ∀ (j : Nat) t v, Try.f11.params[j]? = some t → args[j]? = some v → Value.okWide Try.prog W .any base t v := hval0
  have hW' := hW
  obtain ⟨p, q, hA0, hV, rfl, _, _⟩ := hW
  have hA : DataW.TrodAll enc Try.prog W 0 (fun _ => true) true Try.f11.params.toList args.toList ds p := hA0
  rw [Try.params11] at hA hval
  obtain ⟨v0, vs0, d0, ds0, p0, q0, hargs, rfl, rfl, h0, r0⟩ := trodAll_cons hA
  obtain ⟨rfl, rfl, rfl⟩ := trodAll_nil r0
  obtain rfl : args = #[v0] := by cases args; simp_all
  obtain ⟨rfl, rfl⟩ := trodVars_none hV
  obtain ⟨xs0, hI0⟩ := open_bytes (hval 0 _ v0 rfl rfl) h0
  refine (FnJoinKeys_walk v0 xs0 W hI0).mono fun e W' ⟨he, hb⟩ => ⟨_, he, ?_⟩
  exact law_end rfl (by rw [Try.params11]; decide +kernel) rfl hW' rfl rfl rfl hb

theorem FnJoinKeys_facts : joinedFacts Try.prog 11 Try.f11 Rows.fnJoinKeysSpec Rows.fnJoinKeysRow = true :=
  facts_of (by kernel_rfl) q2 q3 (by kernel_rfl) (by kernel_rfl) (by kernel_rfl) q7 (by kernel_rfl) q9 (by kernel_rfl) (by kernel_rfl) (by kernel_rfl) (by kernel_rfl) (by kernel_rfl) (by kernel_rfl) (by kernel_rfl) (by kernel_rfl) (by kernel_rfl) (by kernel_rfl) (by kernel_rfl) (by kernel_rfl) (by kernel_rfl)
    (by rw [q22]; kernel_rfl) (by kernel_rfl) q23 head_enter (by kernel_rfl) head_lifts head_make (by kernel_rfl) (by kernel_rfl) (by kernel_rfl) (by kernel_rfl) (by kernel_rfl)

theorem FnJoinKeys_holds : Rows.FnJoinKeysSaid :=
  OpenClaim.holds_of_wide 11 Try.f11 rfl rfl rfl rfl rfl rfl rfl ⟨rfl, rfl, rfl, rfl, rfl⟩ rfl rfl rfl rfl rfl (by kernel_rfl) Try.func11 FnJoinKeys_facts
    (of_decide_eq_true (by kernel_rfl)) (by unfold Func.isWrapper; first | (rw [if_pos (by decide +kernel)]; kernel_rfl) | (rw [if_neg (by decide +kernel)]; exact ⟨rfl, rfl⟩))
    (fun os started H enc _ => FnJoinKeys_lifted os started H enc)
end Go.Proofs.Ytfjgmnlbchcabaa
