/-
  FnExactJoinKeys: true, for every argument.
-/
import Derived.Test.YtigiliakcmpekaaOpen
import Derived.Deep.RegionHeld3
import Derived.Test.YtigiliakcmpekaaJkP
import Derived.Test.YtigiliakcmpekaaThingT
namespace Go.Proofs.Ytigiliakcmpekaa
open Go.ChangeShapes Go.WideShapes Go.ChangeAt Go.RowKit Go.Deep
open Go.ChangeMaps (open_string)

set_option maxHeartbeats 4000000 in
set_option maxRecDepth 100000 in
theorem FnExactJoinKeys_gen (va : Value) (a : List Itm) (vb : Value) (b : List Itm) (w : World) (ha : Items w va a) (hb : Items w vb b) (G0 : List ByteArray) (hG : G0.length ≤ 10000000) 
    (hs : ∀ va' vb' w', Items w' va' a → Items w' vb' b → Calls Try.prog 58 #[va', vb'] w' (NewT (fun v => v) G0 w'))
    (hi : ∀ va' vb' w', Items w' va' a → Items w' vb' b → Calls Try.prog 59 #[va', vb'] w' (NewT (fun v => v) G0 w')) :
    Calls Try.prog 9 #[va, vb] w fun e w' => e = .returned (.bool true) ∧ Below w.heap.size w w' := by
  have H := Things.nil w
  go_enter Try.func9, Try.ntmps9
  go_wp2_with fail
  refine (sz_T H ha (by omega) (by omega)).mono ?_
  rintro e w1 ⟨ra, rfl, hua, hla, H1⟩
  clear H
  by_cases hra : ra < 0
  · go_wp2
    go_ret
    exact ⟨rfl, H1.below⟩
  have hna := hla hra
  clear hla
  go_wp2_with fail
  refine (sz_T H1 hb (by omega) hua).mono ?_
  rintro e w2 ⟨rb, rfl, hub, hlb, H2⟩
  clear H1
  by_cases hrb : rb < 0
  · go_wp2
    go_ret
    exact ⟨rfl, H2.below⟩
  have hnb := hlb hrb
  clear hlb
  go_wp2_with fail
  refine (to_T H2 ha hna).mono ?_
  rintro e w3 ⟨sa, rfl, H3⟩
  clear H2
  go_wp2_with fail
  refine (to_T H3 hb hnb).mono ?_
  rintro e w4 ⟨sb, rfl, H4⟩
  clear H3
  go_wp2_with fail
  refine (hs _ _ _ (H4.items 1 rfl) (H4.items 0 rfl)).mono ?_
  rintro e w5 ⟨w0, rfl, ho, hbl⟩
  have H5 := H4.newT ho hbl
  clear ho hbl H4
  go_wp2_with fail
  refine (to_T H5 ha hna).mono ?_
  rintro e w6 ⟨xa, rfl, H6⟩
  clear H5
  go_wp2_with fail
  refine (to_T H6 hb hnb).mono ?_
  rintro e w7 ⟨xb, rfl, H7⟩
  clear H6
  go_wp2_with fail
  refine (hi _ _ _ (H7.items 1 rfl) (H7.items 0 rfl)).mono ?_
  rintro e w8 ⟨g0, rfl, ho, hbl⟩
  have H8 := H7.newT ho hbl
  clear ho hbl H7
  go_wp2_with fail
  refine (eqT_T H8 (H8.texts 0 rfl) (H8.texts 3 rfl)).mono ?_
  rintro e w9 ⟨rfl, H9⟩
  clear H8
  go_wp2_with fail
  refine (to_T H9 ha hna).mono ?_
  rintro e w10 ⟨ya, rfl, H10⟩
  clear H9
  go_wp2_with fail
  refine (eqIr_T H10 (H10.items 3 rfl) (H10.items 0 rfl)).mono ?_
  rintro e w11 ⟨rfl, H11⟩
  clear H10
  go_wp2_with fail
  refine (to_T H11 hb hnb).mono ?_
  rintro e w12 ⟨yb, rfl, H12⟩
  clear H11
  go_wp2_with fail
  refine (eqIr_T H12 (H12.items 3 rfl) (H12.items 0 rfl)).mono ?_
  rintro e w13 ⟨rfl, H13⟩
  clear H12
  go_wp2_with fail
  refine (mark_T H13 4 1 rfl (by omega) (by omega)).mono ?_
  rintro e w14 ⟨ka, rfl, hpa, hka, H14⟩
  clear H13
  have hka' : ka ≤ 5000000 := by have := hka.out; omega
  have hka'' : 0 < ka := by have := hka.out; omega
  clear hpa
  go_wp2_with fail
  refine (mark_T H14 3 ka rfl (by omega) (by omega)).mono ?_
  rintro e w15 ⟨kb, rfl, hpb, hkb, H15⟩
  clear H14
  have hkb' : kb ≤ 10000000 := by have := hkb.out; omega
  have hkb'' : 0 < kb := by have := hkb.out; omega
  go_wp2_with fail
  refine (eqT_T H15 (H15.texts 2 rfl) (H15.texts 5 rfl)).mono ?_
  rintro e w16 ⟨rfl, H16⟩
  clear H15
  go_wp2_with fail
  refine (markT_T H16 2 1 rfl (by omega) (by omega)).mono ?_
  rintro e w17 ⟨m, rfl, hpm, hm, H17⟩
  clear H16
  go_wp2_with fail
  refine (heldT_T H17 2 rfl (by omega) (by omega) hm).mono ?_
  rintro e w18 ⟨rfl, H18⟩
  clear H17
  go_wp2_with fail
  refine (to_T H18 ha hna).mono ?_
  rintro e w19 ⟨za, rfl, H19⟩
  clear H18
  go_wp2_with fail
  refine (to_T H19 hb hnb).mono ?_
  rintro e w20 ⟨zb, rfl, H20⟩
  clear H19
  go_wp2_with fail
  refine (hi _ _ _ (H20.items 1 rfl) (H20.items 0 rfl)).mono ?_
  rintro e w21 ⟨h0, rfl, ho, hbl⟩
  have H21 := H20.newT ho hbl
  clear ho hbl H20
  go_wp2_with fail
  refine (eqT_T H21 (H21.texts 0 rfl) (H21.texts 8 rfl)).mono ?_
  rintro e w22 ⟨rfl, H22⟩
  clear H21
  go_wp2_with fail
  refine (heldT_T H22 5 rfl (by omega) (by omega) hm).mono ?_
  rintro e w23 ⟨rfl, H23⟩
  clear H22
  go_wp2
  go_ret
  exact ⟨rfl, H23.below⟩

theorem FnExactJoinKeys_walk (va : Value) (a : List Itm) (vb : Value) (b : List Itm) (w : World) (ha : Items w va a) (hb : Items w vb b) :
    Calls Try.prog 9 #[va, vb] w fun e w' => e = .returned (.bool true) ∧ Below w.heap.size w w' :=
  FnExactJoinKeys_gen va a vb b w ha hb _ (jk_le a b) (fun va' vb' w' h h' => sJoinKeys_any va' vb' a b w' h h') (fun va' vb' w' h h' => JoinKeys_any va' vb' a b w' h h')

set_option maxRecDepth 100000 in
theorem FnExactJoinKeys_lifted (os : Os) (started : os.Started) (H : Type) (enc : TypeId × Value → H) :
    ReturnsInHanded {} Try.checked os 9 .any (Rows.fnExactJoinKeysSpec.pre6 enc Try.prog Try.f9 Rows.fnExactJoinKeysRow.domain false) (Rows.fnExactJoinKeysSpec.post enc Try.prog Try.f9 false true false false) := by
  refine returnsInHanded_of_change (C := Try.checked) own started (by kernel_rfl) Try.func9
    (ChangeSpec.witness6 (enc := enc) (C := Try.checked) false ⟨#[], #[.slice none 0 0, .slice none 0 0], []⟩ 8 (by kernel_rfl) (by kernel_rfl) (by kernel_rfl) (by kernel_rfl)) ?_
  intro W base args ds gs before hval0 hW _ _
  have hval : ∀ (j : Nat) t v, Try.f9.params[j]? = some t → args[j]? = some v → Value.okWide Try.prog W .any base t v := hval0
  have hW' := hW
  obtain ⟨p, q, hA0, hV, rfl, _, _⟩ := hW
  have hA : DataW.TrodAll enc Try.prog W 0 (fun _ => true) true Try.f9.params.toList args.toList ds p := hA0
  rw [Try.params9] at hA hval
  obtain ⟨v0, vs0, d0, ds0, p0, q0, hargs, rfl, rfl, h0, r0⟩ := trodAll_cons hA
  obtain ⟨v1, vs1, d1, ds1, p1, q1, rfl, rfl, rfl, h1, r1⟩ := trodAll_cons r0
  obtain ⟨rfl, rfl, rfl⟩ := trodAll_nil r1
  obtain rfl : args = #[v0, v1] := by cases args; simp_all
  obtain ⟨rfl, rfl⟩ := trodVars_none hV
  obtain ⟨xs0, hI0⟩ := open_items (hval 0 _ v0 rfl rfl) h0
  obtain ⟨xs1, hI1⟩ := open_items (hval 1 _ v1 rfl rfl) h1
  refine (FnExactJoinKeys_walk v0 xs0 v1 xs1 W hI0 hI1).mono fun e W' ⟨he, hb⟩ => ⟨_, he, ?_⟩
  exact law_end rfl (by rw [Try.params9]; decide +kernel) rfl hW' rfl rfl rfl hb

theorem FnExactJoinKeys_facts : joinedFacts Try.prog 9 Try.f9 Rows.fnExactJoinKeysSpec Rows.fnExactJoinKeysRow = true :=
  facts_of (by kernel_rfl) q2 q3 (by kernel_rfl) (by kernel_rfl) (by kernel_rfl) q7 (by kernel_rfl) q9 (by kernel_rfl) (by kernel_rfl) (by kernel_rfl) (by kernel_rfl) (by kernel_rfl) (by kernel_rfl) (by kernel_rfl) (by kernel_rfl) (by kernel_rfl) (by kernel_rfl) (by kernel_rfl) (by kernel_rfl) (by kernel_rfl)
    (by rw [q22]; kernel_rfl) (by kernel_rfl) q23 head_enter (by kernel_rfl) head_lifts head_make (by kernel_rfl) (by kernel_rfl) (by kernel_rfl) (by kernel_rfl) (by kernel_rfl)

theorem FnExactJoinKeys_holds : Rows.FnExactJoinKeysSaid :=
  OpenClaim.holds_of_wide 9 Try.f9 rfl rfl rfl rfl rfl rfl rfl ⟨rfl, rfl, rfl, rfl, rfl⟩ rfl rfl rfl rfl rfl (by kernel_rfl) Try.func9 FnExactJoinKeys_facts
    (of_decide_eq_true (by kernel_rfl)) (by unfold Func.isWrapper; first | (rw [if_pos (by decide +kernel)]; kernel_rfl) | (rw [if_neg (by decide +kernel)]; exact ⟨rfl, rfl⟩))
    (fun os started H enc _ => FnExactJoinKeys_lifted os started H enc)
end Go.Proofs.Ytigiliakcmpekaa
