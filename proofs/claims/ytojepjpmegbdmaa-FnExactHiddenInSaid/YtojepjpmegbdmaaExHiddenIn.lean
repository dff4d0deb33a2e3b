/-
  FnExactHiddenIn: true, for every argument.
-/
import Derived.Test.YtojepjpmegbdmaaOpen
import Derived.Deep.RegionHeld3
import Derived.Test.YtojepjpmegbdmaaHid2
import Derived.Test.YtojepjpmegbdmaaThingT
import Derived.Test.YtojepjpmegbdmaaOpenM
namespace Go.Proofs.Ytojepjpmegbdmaa
open Go.ChangeShapes Go.WideShapes Go.ChangeAt Go.RowKit Go.Deep
open Go.ChangeMaps (open_string)

set_option maxHeartbeats 4000000 in
set_option maxRecDepth 100000 in
theorem FnExactHiddenIn_gen (va : Value) (a : List (List Itm)) (b : Int) (w : World) (ha : Maps w va a) (_hb : -9223372036854775808 ≤ b ∧ b ≤ 9223372036854775807) (G0 : List ByteArray) (hG : G0.length ≤ 10000000) 
    (hs : ∀ va' w', Maps w' va' a → Calls Try.prog 66 #[.agg #[va'], .int .i64 b] w' (NewT (fun v => v) G0 w'))
    (hi : ∀ va' w', Maps w' va' a → Calls Try.prog 67 #[.agg #[va'], .int .i64 b] w' (NewT (fun v => v) G0 w')) :
    Calls Try.prog 17 #[.agg #[va], .int .i64 b] w fun e w' => e = .returned (.bool true) ∧ Below w.heap.size w w' := by
  have H := Things.nil w
  go_enter Try.func17, Try.ntmps17
  have HB0 := H.boxed 24 [va]
  clear H
  have qpa0 := HB0.box1 0 rfl
  go_wp2_with fail
  refine (szM_T HB0 ha (by omega) (by omega)).mono ?_
  rintro e w1 ⟨ra, rfl, hua, hla, H1⟩
  clear HB0
  clear qpa0
  have qpa0 := H1.box1 0 rfl
  by_cases hra : ra < 0
  · go_wp2
    go_ret
    exact ⟨rfl, H1.below⟩
  have hna := hla hra
  clear hla
  go_wp2_with fail
  refine (toM_T H1 ha hna.1 hna.2).mono ?_
  rintro e w2 ⟨sa, rfl, H2⟩
  clear H1
  clear qpa0
  have qpa0 := H2.box1 1 rfl
  go_wp2_with fail
  refine (hs _ _ (H2.mapsO 0 rfl)).mono ?_
  rintro e w3 ⟨w0, rfl, ho, hbl⟩
  have H3 := H2.newT ho hbl
  clear ho hbl H2
  clear qpa0
  have qpa0 := H3.box1 2 rfl
  go_wp2_with fail
  refine (toM_T H3 ha hna.1 hna.2).mono ?_
  rintro e w4 ⟨xa, rfl, H4⟩
  clear H3
  clear qpa0
  have qpa0 := H4.box1 3 rfl
  obtain ⟨xap, xac, rfl, _, _⟩ := (H4.mapsO 0 rfl).slice
  have HB4 := H4.boxed 29 [.slice xap a.length xac]
  clear H4
  clear qpa0
  have qpa0 := HB4.box1 4 rfl
  have qbxa0 := HB4.box1 0 rfl
  go_wp2_with fail
  refine (hi _ _ (HB4.mapsO 1 rfl)).mono ?_
  rintro e w5 ⟨g0, rfl, ho, hbl⟩
  have H5 := HB4.newT ho hbl
  clear ho hbl HB4
  clear qpa0 qbxa0
  have qpa0 := H5.box1 5 rfl
  have qbxa0 := H5.box1 1 rfl
  go_wp2_with fail
  refine (eqT_T H5 (H5.texts 0 rfl) (H5.texts 3 rfl)).mono ?_
  rintro e w6 ⟨rfl, H6⟩
  clear H5
  clear qpa0 qbxa0
  have qpa0 := H6.box1 5 rfl
  have qbxa0 := H6.box1 1 rfl
  go_wp2_with fail
  have HD6 := H6.quiet (Below.refl _ _).drew
  go_region_held3 (fun w' : World => (w'.cell? ⟨w4.heap.size, 0, none⟩ = some (.slice xap a.length xac)) ∧ (w'.cell? ⟨w.heap.size, 0, none⟩ = some (va)))
    (first | exact ⟨H6.box1 1 rfl, H6.box1 5 rfl⟩ | assumption | exact hS7 | exact hS8)
    (first
      | (go_at_call 27; refine (toM_T HD6 ha hna.1 hna.2).mono ?_; rintro e w7 ⟨ya, rfl, H7⟩; have hS7 := And.intro (H7.box1 2 rfl) (H7.box1 6 rfl))
      | (go_at_call 29; refine (eqM_T H7 (H7.mapsO 3 rfl) (H7.mapsO 0 rfl)).mono ?_; rintro e w8 ⟨rfl, H8⟩; have hS8 := And.intro (H8.box1 2 rfl) (H8.box1 6 rfl)))
  clear H6 HD6 H7 hS7 hS8
  clear qpa0 qbxa0
  have qpa0 := H8.box1 6 rfl
  have qbxa0 := H8.box1 2 rfl
  go_wp2_with fail
  refine (markM_T H8 3 1 rfl (by omega) (by omega)).mono ?_
  rintro e w9 ⟨ka, rfl, hpa, hka, H9⟩
  clear H8
  clear qpa0 qbxa0
  have qpa0 := H9.box1 6 rfl
  have qbxa0 := H9.box1 2 rfl
  have hka' : ka ≤ 5000000 := by have := hka.out; omega
  have hka'' : 0 < ka := by have := hka.out; omega
  go_wp2_with fail
  refine (eqT_T H9 (H9.texts 1 rfl) (H9.texts 4 rfl)).mono ?_
  rintro e w10 ⟨rfl, H10⟩
  clear H9
  clear qpa0 qbxa0
  have qpa0 := H10.box1 6 rfl
  have qbxa0 := H10.box1 2 rfl
  go_wp2_with fail
  refine (markT_T H10 1 1 rfl (by omega) (by omega)).mono ?_
  rintro e w11 ⟨m, rfl, hpm, hm, H11⟩
  clear H10
  clear qpa0 qbxa0
  have qpa0 := H11.box1 6 rfl
  have qbxa0 := H11.box1 2 rfl
  go_wp2_with fail
  refine (heldT_T H11 1 rfl (by omega) (by omega) hm).mono ?_
  rintro e w12 ⟨rfl, H12⟩
  clear H11
  clear qpa0 qbxa0
  have qpa0 := H12.box1 6 rfl
  have qbxa0 := H12.box1 2 rfl
  go_wp2_with fail
  refine (toM_T H12 ha hna.1 hna.2).mono ?_
  rintro e w13 ⟨za, rfl, H13⟩
  clear H12
  clear qpa0 qbxa0
  have qpa0 := H13.box1 7 rfl
  have qbxa0 := H13.box1 3 rfl
  go_wp2_with fail
  refine (hi _ _ (H13.mapsO 0 rfl)).mono ?_
  rintro e w14 ⟨h0, rfl, ho, hbl⟩
  have H14 := H13.newT ho hbl
  clear ho hbl H13
  clear qpa0 qbxa0
  have qpa0 := H14.box1 8 rfl
  have qbxa0 := H14.box1 4 rfl
  go_wp2_with fail
  refine (eqT_T H14 (H14.texts 0 rfl) (H14.texts 6 rfl)).mono ?_
  rintro e w15 ⟨rfl, H15⟩
  clear H14
  clear qpa0 qbxa0
  have qpa0 := H15.box1 8 rfl
  have qbxa0 := H15.box1 4 rfl
  go_wp2_with fail
  refine (heldT_T H15 3 rfl (by omega) (by omega) hm).mono ?_
  rintro e w16 ⟨rfl, H16⟩
  clear H15
  clear qpa0 qbxa0
  have qpa0 := H16.box1 8 rfl
  have qbxa0 := H16.box1 4 rfl
  go_wp2
  go_ret
  exact ⟨rfl, H16.below⟩

theorem FnExactHiddenIn_walk (va : Value) (a : List (List Itm)) (b : Int) (w : World) (ha : Maps w va a) (hb : -9223372036854775808 ≤ b ∧ b ≤ 9223372036854775807) :
    Calls Try.prog 17 #[.agg #[va], .int .i64 b] w fun e w' => e = .returned (.bool true) ∧ Below w.heap.size w w' :=
  FnExactHiddenIn_gen va a b w ha hb _ (hi_le a b) (fun va' w' h => sHiddenIn_any va' a b w' h hb) (fun va' w' h => HiddenIn_any va' a b w' h hb)

set_option maxRecDepth 100000 in
theorem FnExactHiddenIn_lifted (os : Os) (started : os.Started) (H : Type) (enc : TypeId × Value → H) :
    ReturnsInHanded {} Try.checked os 17 .any (Rows.fnExactHiddenInSpec.pre6 enc Try.prog Try.f17 Rows.fnExactHiddenInRow.domain false) (Rows.fnExactHiddenInSpec.post enc Try.prog Try.f17 false true false false) := by
  refine returnsInHanded_of_change (C := Try.checked) own started (by kernel_rfl) Try.func17
    (ChangeSpec.witness6 (enc := enc) (C := Try.checked) false ⟨#[], #[.agg #[.slice none 0 0], .int .i64 0], []⟩ 8 (by kernel_rfl) (by kernel_rfl) (by kernel_rfl) (by kernel_rfl)) ?_
  intro W base args ds gs before hval0 hW _ _
  have hval : ∀ (j : Nat) t v, Try.f17.params[j]? = some t → args[j]? = some v → Value.okWide Try.prog W .any base t v := hval0
  have hW' := hW
  obtain ⟨p, q, hA0, hV, rfl, _, _⟩ := hW
  have hA : DataW.TrodAll enc Try.prog W 0 (fun _ => true) true Try.f17.params.toList args.toList ds p := hA0
  rw [Try.params17] at hA hval
  obtain ⟨v0, vs0, d0, ds0, p0, q0, hargs, rfl, rfl, h0, r0⟩ := trodAll_cons hA
  obtain ⟨v1, vs1, d1, ds1, p1, q1, rfl, rfl, rfl, h1, r1⟩ := trodAll_cons r0
  obtain ⟨rfl, rfl, rfl⟩ := trodAll_nil r1
  obtain rfl : args = #[v0, v1] := by cases args; simp_all
  obtain ⟨rfl, rfl⟩ := trodVars_none hV
  obtain ⟨u0, xs0, rfl, hI0⟩ := open_chain (hval 0 _ v0 rfl rfl) h0
  obtain ⟨n1, rfl, _, _, hI1⟩ := open_int Try.underlying3 (hval 1 _ v1 rfl rfl) h1
  refine (FnExactHiddenIn_walk u0 xs0 n1 W hI0 (wf_i64_bd hI1)).mono fun e W' ⟨he, hb⟩ => ⟨_, he, ?_⟩
  exact law_end rfl (by rw [Try.params17]; decide +kernel) rfl hW' rfl rfl rfl hb

theorem FnExactHiddenIn_facts : joinedFacts Try.prog 17 Try.f17 Rows.fnExactHiddenInSpec Rows.fnExactHiddenInRow = true :=
  facts_of (by kernel_rfl) q2 q3 (by kernel_rfl) (by kernel_rfl) (by kernel_rfl) q7 (by kernel_rfl) q9 (by kernel_rfl) (by kernel_rfl) (by kernel_rfl) (by kernel_rfl) (by kernel_rfl) (by kernel_rfl) (by kernel_rfl) (by kernel_rfl) (by kernel_rfl) (by kernel_rfl) (by kernel_rfl) (by kernel_rfl) (by kernel_rfl)
    (by rw [q22]; kernel_rfl) (by kernel_rfl) q23 head_enter (by kernel_rfl) head_lifts head_make (by kernel_rfl) (by kernel_rfl) (by kernel_rfl) (by kernel_rfl) (by kernel_rfl)

theorem FnExactHiddenIn_holds : Rows.FnExactHiddenInSaid :=
  OpenClaim.holds_of_wide 17 Try.f17 rfl rfl rfl rfl rfl rfl rfl ⟨rfl, rfl, rfl, rfl, rfl⟩ rfl rfl rfl rfl rfl (by kernel_rfl) Try.func17 FnExactHiddenIn_facts
    (of_decide_eq_true (by kernel_rfl)) (by unfold Func.isWrapper; first | (rw [if_pos (by decide +kernel)]; kernel_rfl) | (rw [if_neg (by decide +kernel)]; exact ⟨rfl, rfl⟩))
    (fun os started H enc _ => FnExactHiddenIn_lifted os started H enc)
end Go.Proofs.Ytojepjpmegbdmaa
