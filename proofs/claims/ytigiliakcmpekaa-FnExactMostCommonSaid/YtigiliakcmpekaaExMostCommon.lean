/-
  FnExactMostCommon: true, for every argument.
-/
import Derived.Test.YtigiliakcmpekaaOpen
import Derived.Deep.RegionHeld3
import Derived.Test.YtigiliakcmpekaaMcm
import Derived.Test.YtigiliakcmpekaaThingT
namespace Go.Proofs.Ytigiliakcmpekaa
open Go.ChangeShapes Go.WideShapes Go.ChangeAt Go.RowKit Go.Deep
open Go.ChangeMaps (open_string)

set_option maxHeartbeats 4000000 in
set_option maxRecDepth 100000 in
theorem FnExactMostCommon_gen (va : Value) (a : List Itm) (b : Int) (w : World) (ha : Items w va a) (_hb : -9223372036854775808 ≤ b ∧ b ≤ 9223372036854775807) (G0 : List Itm) (hG : G0.length ≤ 10000000) 
    (hs : ∀ va' w', Items w' va' a → Calls Try.prog 97 #[va', .int .i64 b] w' (NewL (fun v => v) G0 w'))
    (hi : ∀ va' w', Items w' va' a → Calls Try.prog 98 #[va', .int .i64 b] w' (NewL (fun v => v) G0 w')) :
    Calls Try.prog 24 #[va, .int .i64 b] w fun e w' => e = .returned (.bool true) ∧ Below w.heap.size w w' := by
  have H := Things.nil w
  go_enter Try.func24, Try.ntmps24
  go_wp2_with fail
  refine (sz_T H ha (by omega) (by omega)).mono ?_
  rintro e w1 ⟨ra, rfl, hua, hla, H1⟩
  clear H
  by_cases hra : ra < 0
  · go_wp2
    go_ret
    exact ⟨rfl, H1.below⟩
  have hna := hla hra
  clear hla
  go_wp2_with fail
  refine (to_T H1 ha hna).mono ?_
  rintro e w2 ⟨sa, rfl, H2⟩
  clear H1
  go_wp2_with fail
  refine (hs _ _ (H2.items 0 rfl)).mono ?_
  rintro e w3 ⟨w0, rfl, ho, hbl⟩
  have H3 := H2.newI ho hbl
  clear ho hbl H2
  go_wp2_with fail
  refine (to_T H3 ha hna).mono ?_
  rintro e w4 ⟨xa, rfl, H4⟩
  clear H3
  go_wp2_with fail
  refine (hi _ _ (H4.items 0 rfl)).mono ?_
  rintro e w5 ⟨g0, rfl, ho, hbl⟩
  have H5 := H4.newI ho hbl
  clear ho hbl H4
  go_wp2_with fail
  refine (eqIr_T H5 (H5.items 0 rfl) (H5.items 2 rfl)).mono ?_
  rintro e w6 ⟨rfl, H6⟩
  clear H5
  go_wp2_with fail
  refine (to_T H6 ha hna).mono ?_
  rintro e w7 ⟨ya, rfl, H7⟩
  clear H6
  go_wp2_with fail
  refine (eqIr_T H7 (H7.items 2 rfl) (H7.items 0 rfl)).mono ?_
  rintro e w8 ⟨rfl, H8⟩
  clear H7
  go_wp2_with fail
  refine (mark_T H8 2 1 rfl (by omega) (by omega)).mono ?_
  rintro e w9 ⟨ka, rfl, hpa, hka, H9⟩
  clear H8
  have hka' : ka ≤ 5000000 := by have := hka.out; omega
  have hka'' : 0 < ka := by have := hka.out; omega
  go_wp2_with fail
  refine (eqIr_T H9 (H9.items 1 rfl) (H9.items 3 rfl)).mono ?_
  rintro e w10 ⟨rfl, H10⟩
  clear H9
  go_wp2_with fail
  refine (mark_T H10 1 1 rfl (by omega) (by omega)).mono ?_
  rintro e w11 ⟨m, rfl, hpm, hm, H11⟩
  clear H10
  go_wp2_with fail
  refine (held_T H11 1 rfl (by omega) (by omega) hm).mono ?_
  rintro e w12 ⟨rfl, H12⟩
  clear H11
  go_wp2_with fail
  refine (to_T H12 ha hna).mono ?_
  rintro e w13 ⟨za, rfl, H13⟩
  clear H12
  go_wp2_with fail
  refine (hi _ _ (H13.items 0 rfl)).mono ?_
  rintro e w14 ⟨h0, rfl, ho, hbl⟩
  have H14 := H13.newI ho hbl
  clear ho hbl H13
  go_wp2_with fail
  refine (eqIr_T H14 (H14.items 0 rfl) (H14.items 5 rfl)).mono ?_
  rintro e w15 ⟨rfl, H15⟩
  clear H14
  go_wp2_with fail
  refine (held_T H15 3 rfl (by omega) (by omega) hm).mono ?_
  rintro e w16 ⟨rfl, H16⟩
  clear H15
  go_wp2
  go_ret
  exact ⟨rfl, H16.below⟩

theorem FnExactMostCommon_walk (va : Value) (a : List Itm) (b : Int) (w : World) (ha : Items w va a) (hb : -9223372036854775808 ≤ b ∧ b ≤ 9223372036854775807) :
    Calls Try.prog 24 #[va, .int .i64 b] w fun e w' => e = .returned (.bool true) ∧ Below w.heap.size w w' :=
  FnExactMostCommon_gen va a b w ha hb _ (mc_le a b) (fun va' w' h => sMostCommon_any va' a b w' h hb) (fun va' w' h => MostCommon_any va' a b w' h hb)

set_option maxRecDepth 100000 in
theorem FnExactMostCommon_lifted (os : Os) (started : os.Started) (H : Type) (enc : TypeId × Value → H) :
    ReturnsInHanded {} Try.checked os 24 .any (Rows.fnExactMostCommonSpec.pre6 enc Try.prog Try.f24 Rows.fnExactMostCommonRow.domain false) (Rows.fnExactMostCommonSpec.post enc Try.prog Try.f24 false true false false) := by
  refine returnsInHanded_of_change (C := Try.checked) own started (by kernel_rfl) Try.func24
    (ChangeSpec.witness6 (enc := enc) (C := Try.checked) false ⟨#[], #[.slice none 0 0, .int .i64 0], []⟩ 8 (by kernel_rfl) (by kernel_rfl) (by kernel_rfl) (by kernel_rfl)) ?_
  intro W base args ds gs before hval0 hW _ _
  have hval : ∀ (j : Nat) t v, Try.f24.params[j]? = some t → args[j]? = some v → Value.okWide Try.prog W .any base t v := hval0
  have hW' := hW
  obtain ⟨p, q, hA0, hV, rfl, _, _⟩ := hW
  have hA : DataW.TrodAll enc Try.prog W 0 (fun _ => true) true Try.f24.params.toList args.toList ds p := hA0
  rw [Try.params24] at hA hval
  obtain ⟨v0, vs0, d0, ds0, p0, q0, hargs, rfl, rfl, h0, r0⟩ := trodAll_cons hA
  obtain ⟨v1, vs1, d1, ds1, p1, q1, rfl, rfl, rfl, h1, r1⟩ := trodAll_cons r0
  obtain ⟨rfl, rfl, rfl⟩ := trodAll_nil r1
  obtain rfl : args = #[v0, v1] := by cases args; simp_all
  obtain ⟨rfl, rfl⟩ := trodVars_none hV
  obtain ⟨xs0, hI0⟩ := open_items (hval 0 _ v0 rfl rfl) h0
  obtain ⟨n1, rfl, _, _, hI1⟩ := open_int Try.underlying3 (hval 1 _ v1 rfl rfl) h1
  refine (FnExactMostCommon_walk v0 xs0 n1 W hI0 (wf_i64_bd hI1)).mono fun e W' ⟨he, hb⟩ => ⟨_, he, ?_⟩
  exact law_end rfl (by rw [Try.params24]; decide +kernel) rfl hW' rfl rfl rfl hb

theorem FnExactMostCommon_facts : joinedFacts Try.prog 24 Try.f24 Rows.fnExactMostCommonSpec Rows.fnExactMostCommonRow = true :=
  facts_of (by kernel_rfl) q2 q3 (by kernel_rfl) (by kernel_rfl) (by kernel_rfl) q7 (by kernel_rfl) q9 (by kernel_rfl) (by kernel_rfl) (by kernel_rfl) (by kernel_rfl) (by kernel_rfl) (by kernel_rfl) (by kernel_rfl) (by kernel_rfl) (by kernel_rfl) (by kernel_rfl) (by kernel_rfl) (by kernel_rfl) (by kernel_rfl)
    (by rw [q22]; kernel_rfl) (by kernel_rfl) q23 head_enter (by kernel_rfl) head_lifts head_make (by kernel_rfl) (by kernel_rfl) (by kernel_rfl) (by kernel_rfl) (by kernel_rfl)

theorem FnExactMostCommon_holds : Rows.FnExactMostCommonSaid :=
  OpenClaim.holds_of_wide 24 Try.f24 rfl rfl rfl rfl rfl rfl rfl ⟨rfl, rfl, rfl, rfl, rfl⟩ rfl rfl rfl rfl rfl (by kernel_rfl) Try.func24 FnExactMostCommon_facts
    (of_decide_eq_true (by kernel_rfl)) (by unfold Func.isWrapper; first | (rw [if_pos (by decide +kernel)]; kernel_rfl) | (rw [if_neg (by decide +kernel)]; exact ⟨rfl, rfl⟩))
    (fun os started H enc _ => FnExactMostCommon_lifted os started H enc)
end Go.Proofs.Ytigiliakcmpekaa
