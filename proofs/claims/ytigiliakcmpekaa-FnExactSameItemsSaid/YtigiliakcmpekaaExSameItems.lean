/-
  FnExactSameItems: true, for every argument.
-/
import Derived.Test.YtigiliakcmpekaaOpen
import Derived.Deep.RegionHeld3
import Derived.Test.YtigiliakcmpekaaSit
import Derived.Test.YtigiliakcmpekaaThingT
namespace Go.Proofs.Ytigiliakcmpekaa
open Go.ChangeShapes Go.WideShapes Go.ChangeAt Go.RowKit Go.Deep
open Go.ChangeMaps (open_string)

set_option maxHeartbeats 4000000 in
set_option maxRecDepth 100000 in
theorem FnExactSameItems_gen (va : Value) (a : List Itm) (vb : Value) (b : List Itm) (w : World) (ha : Items w va a) (hb : Items w vb b) (K0 : Bool) 
    (hs : ∀ va' vb' w', Items w' va' a → Items w' vb' b → Calls Try.prog 95 #[va', vb'] w' (RetQ (.bool K0) w'))
    (hi : ∀ va' vb' w', Items w' va' a → Items w' vb' b → Calls Try.prog 96 #[va', vb'] w' (RetQ (.bool K0) w')) :
    Calls Try.prog 23 #[va, vb] w fun e w' => e = .returned (.bool true) ∧ Below w.heap.size w w' := by
  have H := Things.nil w
  go_enter Try.func23, Try.ntmps23
  go_wp2_with fail
  refine (sz_T H ha (by omega) (by omega)).mono ?_
  rintro e w1 ⟨ra, rfl, hua, hla, H1⟩
  clear H
  by_cases hra : ra < 0
  · go_wp2
    go_ret
    exact ⟨rfl, H1.below⟩
  have hna := hla hra
  clear hla
  go_wp2_with fail
  refine (sz_T H1 hb (by omega) hua).mono ?_
  rintro e w2 ⟨rb, rfl, hub, hlb, H2⟩
  clear H1
  by_cases hrb : rb < 0
  · go_wp2
    go_ret
    exact ⟨rfl, H2.below⟩
  have hnb := hlb hrb
  clear hlb
  go_wp2_with fail
  refine (to_T H2 ha hna).mono ?_
  rintro e w3 ⟨sa, rfl, H3⟩
  clear H2
  go_wp2_with fail
  refine (to_T H3 hb hnb).mono ?_
  rintro e w4 ⟨sb, rfl, H4⟩
  clear H3
  go_wp2_with fail
  refine (hs _ _ _ (H4.items 1 rfl) (H4.items 0 rfl)).mono ?_
  rintro e w5 ⟨rfl, hbl⟩
  have H5 := H4.quiet hbl
  clear hbl H4
  go_wp2_with fail
  refine (to_T H5 ha hna).mono ?_
  rintro e w6 ⟨xa, rfl, H6⟩
  clear H5
  go_wp2_with fail
  refine (to_T H6 hb hnb).mono ?_
  rintro e w7 ⟨xb, rfl, H7⟩
  clear H6
  go_wp2_with fail
  refine (hi _ _ _ (H7.items 1 rfl) (H7.items 0 rfl)).mono ?_
  rintro e w8 ⟨rfl, hbl⟩
  have H8 := H7.quiet hbl
  clear hbl H7
  go_wp2_with fail
  refine (to_T H8 ha hna).mono ?_
  rintro e w9 ⟨ya, rfl, H9⟩
  clear H8
  go_wp2_with fail
  refine (eqIr_T H9 (H9.items 2 rfl) (H9.items 0 rfl)).mono ?_
  rintro e w10 ⟨rfl, H10⟩
  clear H9
  go_wp2_with fail
  refine (to_T H10 hb hnb).mono ?_
  rintro e w11 ⟨yb, rfl, H11⟩
  clear H10
  go_wp2_with fail
  refine (eqIr_T H11 (H11.items 2 rfl) (H11.items 0 rfl)).mono ?_
  rintro e w12 ⟨rfl, H12⟩
  clear H11
  go_wp2
  go_ret
  exact ⟨rfl, H12.below⟩

theorem FnExactSameItems_walk (va : Value) (a : List Itm) (vb : Value) (b : List Itm) (w : World) (ha : Items w va a) (hb : Items w vb b) :
    Calls Try.prog 23 #[va, vb] w fun e w' => e = .returned (.bool true) ∧ Below w.heap.size w w' :=
  FnExactSameItems_gen va a vb b w ha hb _ (fun va' vb' w' h h' => sSameItems_any va' vb' a b w' h h') (fun va' vb' w' h h' => SameItems_any va' vb' a b w' h h')

set_option maxRecDepth 100000 in
theorem FnExactSameItems_lifted (os : Os) (started : os.Started) (H : Type) (enc : TypeId × Value → H) :
    ReturnsInHanded {} Try.checked os 23 .any (Rows.fnExactSameItemsSpec.pre6 enc Try.prog Try.f23 Rows.fnExactSameItemsRow.domain false) (Rows.fnExactSameItemsSpec.post enc Try.prog Try.f23 false true false false) := by
  refine returnsInHanded_of_change (C := Try.checked) own started (by kernel_rfl) Try.func23
    (ChangeSpec.witness6 (enc := enc) (C := Try.checked) false ⟨#[], #[.slice none 0 0, .slice none 0 0], []⟩ 8 (by kernel_rfl) (by kernel_rfl) (by kernel_rfl) (by kernel_rfl)) ?_
  intro W base args ds gs before hval0 hW _ _
  have hval : ∀ (j : Nat) t v, Try.f23.params[j]? = some t → args[j]? = some v → Value.okWide Try.prog W .any base t v := hval0
  have hW' := hW
  obtain ⟨p, q, hA0, hV, rfl, _, _⟩ := hW
  have hA : DataW.TrodAll enc Try.prog W 0 (fun _ => true) true Try.f23.params.toList args.toList ds p := hA0
  rw [Try.params23] at hA hval
  obtain ⟨v0, vs0, d0, ds0, p0, q0, hargs, rfl, rfl, h0, r0⟩ := trodAll_cons hA
  obtain ⟨v1, vs1, d1, ds1, p1, q1, rfl, rfl, rfl, h1, r1⟩ := trodAll_cons r0
  obtain ⟨rfl, rfl, rfl⟩ := trodAll_nil r1
  obtain rfl : args = #[v0, v1] := by cases args; simp_all
  obtain ⟨rfl, rfl⟩ := trodVars_none hV
  obtain ⟨xs0, hI0⟩ := open_items (hval 0 _ v0 rfl rfl) h0
  obtain ⟨xs1, hI1⟩ := open_items (hval 1 _ v1 rfl rfl) h1
  refine (FnExactSameItems_walk v0 xs0 v1 xs1 W hI0 hI1).mono fun e W' ⟨he, hb⟩ => ⟨_, he, ?_⟩
  exact law_end rfl (by rw [Try.params23]; decide +kernel) rfl hW' rfl rfl rfl hb

theorem FnExactSameItems_facts : joinedFacts Try.prog 23 Try.f23 Rows.fnExactSameItemsSpec Rows.fnExactSameItemsRow = true :=
  facts_of (by kernel_rfl) q2 q3 (by kernel_rfl) (by kernel_rfl) (by kernel_rfl) q7 (by kernel_rfl) q9 (by kernel_rfl) (by kernel_rfl) (by kernel_rfl) (by kernel_rfl) (by kernel_rfl) (by kernel_rfl) (by kernel_rfl) (by kernel_rfl) (by kernel_rfl) (by kernel_rfl) (by kernel_rfl) (by kernel_rfl) (by kernel_rfl)
    (by rw [q22]; kernel_rfl) (by kernel_rfl) q23 head_enter (by kernel_rfl) head_lifts head_make (by kernel_rfl) (by kernel_rfl) (by kernel_rfl) (by kernel_rfl) (by kernel_rfl)

theorem FnExactSameItems_holds : Rows.FnExactSameItemsSaid :=
  OpenClaim.holds_of_wide 23 Try.f23 rfl rfl rfl rfl rfl rfl rfl ⟨rfl, rfl, rfl, rfl, rfl⟩ rfl rfl rfl rfl rfl (by kernel_rfl) Try.func23 FnExactSameItems_facts
    (of_decide_eq_true (by kernel_rfl)) (by unfold Func.isWrapper; first | (rw [if_pos (by decide +kernel)]; kernel_rfl) | (rw [if_neg (by decide +kernel)]; exact ⟨rfl, rfl⟩))
    (fun os started H enc _ => FnExactSameItems_lifted os started H enc)
end Go.Proofs.Ytigiliakcmpekaa
