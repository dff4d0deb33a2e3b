/-
  FnExactPopItem: true, for every argument.
-/
import Derived.Test.YtfinniedlbkhcaaOpen
import Derived.Test.YtfinniedlbkhcaaObjs
import Derived.Test.YtfinniedlbkhcaaNew
import Derived.Test.YtfinniedlbkhcaaBox
import Derived.Test.YtfinniedlbkhcaaPop
namespace Go.Proofs.Ytfinniedlbkhcaa
open Go.ChangeShapes Go.WideShapes Go.ChangeAt Go.RowKit Go.Deep
open Go.ChangeMaps (open_string)

set_option maxHeartbeats 4000000 in
set_option maxRecDepth 100000 in
theorem FnExactPopItem_gen (va : Value) (a : List Itm) (b : Bool) (w : World) (ha : Items w va a) (G0 : List Itm) (K1 : Itm) (K2 : Bool) (hG : G0.length ≤ 10000000) 
    (hs : ∀ va' w', Items w' va' a → Calls Try.prog 38 #[va', .bool b] w' (NewL (fun v => .tuple #[v, .agg #[.string K1.1, .int .i64 K1.2], .bool K2]) G0 w'))
    (hi : ∀ va' w', Items w' va' a → Calls Try.prog 39 #[va', .bool b] w' (NewL (fun v => .tuple #[v, .agg #[.string K1.1, .int .i64 K1.2], .bool K2]) G0 w')) :
    Calls Try.prog 8 #[va, .bool b] w fun e w' => e = .returned (.bool true) ∧ Below w.heap.size w w' := by
  have H := Objs.nil w
  go_enter Try.func8, Try.ntmps8
  go_wp2_with fail
  refine (sz_obj H ha (by omega) (by omega)).mono ?_
  rintro e w1 ⟨ra, rfl, hua, hla, H1⟩
  clear H
  by_cases hra : ra < 0
  · go_wp2
    go_ret
    exact ⟨rfl, H1.below⟩
  have hna := (hla hra).1
  clear hla
  go_wp2_with fail
  refine (to_obj H1 ha hna).mono ?_
  rintro e w2 ⟨sa, rfl, H2⟩
  clear H1
  go_wp2_with fail
  refine (hs _ _ (H2.items 0 rfl)).mono ?_
  rintro e w3 ⟨w0, rfl, ho, hbl⟩
  have H3 := H2.newI ho hbl
  clear ho hbl H2
  have HB3 := H3.boxed 40 [.string K1.1, .int .i64 K1.2]
  clear H3
  obtain ⟨qxw00, qxw01⟩ := HB3.box2 0 rfl
  go_wp2_with fail
  refine (to_obj HB3 ha hna).mono ?_
  rintro e w4 ⟨xa, rfl, H4⟩
  clear HB3
  clear qxw00 qxw01
  obtain ⟨qxw00, qxw01⟩ := H4.box2 1 rfl
  go_wp2_with fail
  refine (hi _ _ (H4.items 0 rfl)).mono ?_
  rintro e w5 ⟨g0, rfl, ho, hbl⟩
  have H5 := H4.newI ho hbl
  clear ho hbl H4
  clear qxw00 qxw01
  obtain ⟨qxw00, qxw01⟩ := H5.box2 2 rfl
  have HB5 := H5.boxed 40 [.string K1.1, .int .i64 K1.2]
  clear H5
  clear qxw00 qxw01
  obtain ⟨qxw00, qxw01⟩ := HB5.box2 3 rfl
  obtain ⟨qxg00, qxg01⟩ := HB5.box2 0 rfl
  go_wp2_with fail
  refine (eq_obj HB5 1 4 rfl rfl).mono ?_
  rintro e w6 ⟨rfl, H6⟩
  clear HB5
  clear qxw00 qxw01 qxg00 qxg01
  obtain ⟨qxw00, qxw01⟩ := H6.box2 3 rfl
  obtain ⟨qxg00, qxg01⟩ := H6.box2 0 rfl
  go_wp2_with fail
  refine (eqX_obj H6 K1).mono ?_
  rintro e w7 ⟨rfl, H7⟩
  clear H6
  clear qxw00 qxw01 qxg00 qxg01
  obtain ⟨qxw00, qxw01⟩ := H7.box2 3 rfl
  obtain ⟨qxg00, qxg01⟩ := H7.box2 0 rfl
  go_wp2_with fail
  refine (to_obj H7 ha hna).mono ?_
  rintro e w8 ⟨ya, rfl, H8⟩
  clear H7
  clear qxw00 qxw01 qxg00 qxg01
  obtain ⟨qxw00, qxw01⟩ := H8.box2 4 rfl
  obtain ⟨qxg00, qxg01⟩ := H8.box2 1 rfl
  go_wp2_with fail
  refine (eq_obj H8 3 0 rfl rfl).mono ?_
  rintro e w9 ⟨rfl, H9⟩
  clear H8
  clear qxw00 qxw01 qxg00 qxg01
  obtain ⟨qxw00, qxw01⟩ := H9.box2 4 rfl
  obtain ⟨qxg00, qxg01⟩ := H9.box2 1 rfl
  go_wp2_with fail
  refine (mark_obj H9 3 1 rfl (by omega) (by omega)).mono ?_
  rintro e w10 ⟨ka, rfl, hpa, hka, H10⟩
  clear H9
  clear qxw00 qxw01 qxg00 qxg01
  obtain ⟨qxw00, qxw01⟩ := H10.box2 4 rfl
  obtain ⟨qxg00, qxg01⟩ := H10.box2 1 rfl
  have hka' : ka ≤ 5000000 := by have := hka.out; omega
  have hka'' : 0 < ka := by have := hka.out; omega
  go_wp2_with fail
  refine (eq_obj H10 2 5 rfl rfl).mono ?_
  rintro e w11 ⟨rfl, H11⟩
  clear H10
  clear qxw00 qxw01 qxg00 qxg01
  obtain ⟨qxw00, qxw01⟩ := H11.box2 4 rfl
  obtain ⟨qxg00, qxg01⟩ := H11.box2 1 rfl
  go_wp2_with fail
  refine (eqX_obj H11 K1).mono ?_
  rintro e w12 ⟨rfl, H12⟩
  clear H11
  clear qxw00 qxw01 qxg00 qxg01
  obtain ⟨qxw00, qxw01⟩ := H12.box2 4 rfl
  obtain ⟨qxg00, qxg01⟩ := H12.box2 1 rfl
  go_wp2_with fail
  refine (mark_obj H12 2 1 rfl (by omega) (by omega)).mono ?_
  rintro e w13 ⟨m, rfl, hpm, hm, H13⟩
  clear H12
  clear qxw00 qxw01 qxg00 qxg01
  obtain ⟨qxw00, qxw01⟩ := H13.box2 4 rfl
  obtain ⟨qxg00, qxg01⟩ := H13.box2 1 rfl
  go_wp2_with fail
  refine (held_obj H13 2 rfl (by omega) (by omega) hm).mono ?_
  rintro e w14 ⟨rfl, H14⟩
  clear H13
  clear qxw00 qxw01 qxg00 qxg01
  obtain ⟨qxw00, qxw01⟩ := H14.box2 4 rfl
  obtain ⟨qxg00, qxg01⟩ := H14.box2 1 rfl
  go_wp2_with fail
  refine (to_obj H14 ha hna).mono ?_
  rintro e w15 ⟨za, rfl, H15⟩
  clear H14
  clear qxw00 qxw01 qxg00 qxg01
  obtain ⟨qxw00, qxw01⟩ := H15.box2 5 rfl
  obtain ⟨qxg00, qxg01⟩ := H15.box2 2 rfl
  go_wp2_with fail
  refine (hi _ _ (H15.items 0 rfl)).mono ?_
  rintro e w16 ⟨h0, rfl, ho, hbl⟩
  have H16 := H15.newI ho hbl
  clear ho hbl H15
  clear qxw00 qxw01 qxg00 qxg01
  obtain ⟨qxw00, qxw01⟩ := H16.box2 6 rfl
  obtain ⟨qxg00, qxg01⟩ := H16.box2 3 rfl
  have HB16 := H16.boxed 40 [.string K1.1, .int .i64 K1.2]
  clear H16
  clear qxw00 qxw01 qxg00 qxg01
  obtain ⟨qxw00, qxw01⟩ := HB16.box2 7 rfl
  obtain ⟨qxg00, qxg01⟩ := HB16.box2 4 rfl
  obtain ⟨qxh00, qxh01⟩ := HB16.box2 0 rfl
  go_wp2_with fail
  refine (eq_obj HB16 1 8 rfl rfl).mono ?_
  rintro e w17 ⟨rfl, H17⟩
  clear HB16
  clear qxw00 qxw01 qxg00 qxg01 qxh00 qxh01
  obtain ⟨qxw00, qxw01⟩ := H17.box2 7 rfl
  obtain ⟨qxg00, qxg01⟩ := H17.box2 4 rfl
  obtain ⟨qxh00, qxh01⟩ := H17.box2 0 rfl
  go_wp2_with fail
  refine (eqX_obj H17 K1).mono ?_
  rintro e w18 ⟨rfl, H18⟩
  clear H17
  clear qxw00 qxw01 qxg00 qxg01 qxh00 qxh01
  obtain ⟨qxw00, qxw01⟩ := H18.box2 7 rfl
  obtain ⟨qxg00, qxg01⟩ := H18.box2 4 rfl
  obtain ⟨qxh00, qxh01⟩ := H18.box2 0 rfl
  go_wp2_with fail
  refine (held_obj H18 5 rfl (by omega) (by omega) hm).mono ?_
  rintro e w19 ⟨rfl, H19⟩
  clear H18
  clear qxw00 qxw01 qxg00 qxg01 qxh00 qxh01
  obtain ⟨qxw00, qxw01⟩ := H19.box2 7 rfl
  obtain ⟨qxg00, qxg01⟩ := H19.box2 4 rfl
  obtain ⟨qxh00, qxh01⟩ := H19.box2 0 rfl
  go_wp2
  go_ret
  exact ⟨rfl, H19.below⟩

theorem FnExactPopItem_walk (va : Value) (a : List Itm) (b : Bool) (w : World) (ha : Items w va a) :
    Calls Try.prog 8 #[va, .bool b] w fun e w' => e = .returned (.bool true) ∧ Below w.heap.size w w' :=
  FnExactPopItem_gen va a b w ha _ _ _ (pop_le a b) (fun va' w' h => sPopItem_any va' a b w' h) (fun va' w' h => PopItem_any va' a b w' h)

set_option maxRecDepth 100000 in
theorem FnExactPopItem_lifted (os : Os) (started : os.Started) (H : Type) (enc : TypeId × Value → H) :
    ReturnsInHanded {} Try.checked os 8 .any (Rows.fnExactPopItemSpec.pre6 enc Try.prog Try.f8 Rows.fnExactPopItemRow.domain false) (Rows.fnExactPopItemSpec.post enc Try.prog Try.f8 false true false false) := by
  refine returnsInHanded_of_change (C := Try.checked) own started (by kernel_rfl) Try.func8
    (ChangeSpec.witness6 (enc := enc) (C := Try.checked) false ⟨#[], #[.slice none 0 0, .bool false], []⟩ 8 (by kernel_rfl) (by kernel_rfl) (by kernel_rfl) (by kernel_rfl)) ?_
  intro W base args ds gs before hval0 hW _ _
  have hval : ∀ (j : Nat) t v, Try.f8.params[j]? = some t → args[j]? = some v → Value.okWide Try.prog W .any base t v := hval0
  have hW' := hW
  obtain ⟨p, q, hA0, hV, rfl, _, _⟩ := hW
  have hA : DataW.TrodAll enc Try.prog W 0 (fun _ => true) true Try.f8.params.toList args.toList ds p := hA0
  rw [Try.params8] at hA hval
  obtain ⟨v0, vs0, d0, ds0, p0, q0, hargs, rfl, rfl, h0, r0⟩ := trodAll_cons hA
  obtain ⟨v1, vs1, d1, ds1, p1, q1, rfl, rfl, rfl, h1, r1⟩ := trodAll_cons r0
  obtain ⟨rfl, rfl, rfl⟩ := trodAll_nil r1
  obtain rfl : args = #[v0, v1] := by cases args; simp_all
  obtain ⟨rfl, rfl⟩ := trodVars_none hV
  obtain ⟨xs0, hI0⟩ := open_items (hval 0 _ v0 rfl rfl) h0
  obtain ⟨n1, rfl, _, _⟩ := open_bool Try.underlying4 (hval 1 _ v1 rfl rfl) h1
  refine (FnExactPopItem_walk v0 xs0 n1 W hI0).mono fun e W' ⟨he, hb⟩ => ⟨_, he, ?_⟩
  exact law_end rfl (by rw [Try.params8]; decide +kernel) rfl hW' rfl rfl rfl hb

theorem FnExactPopItem_facts : joinedFacts Try.prog 8 Try.f8 Rows.fnExactPopItemSpec Rows.fnExactPopItemRow = true :=
  facts_of (by kernel_rfl) q2 q3 (by kernel_rfl) (by kernel_rfl) (by kernel_rfl) q7 (by kernel_rfl) q9 (by kernel_rfl) (by kernel_rfl) (by kernel_rfl) (by kernel_rfl) (by kernel_rfl) (by kernel_rfl) (by kernel_rfl) (by kernel_rfl) (by kernel_rfl) (by kernel_rfl) (by kernel_rfl) (by kernel_rfl) (by kernel_rfl)
    (by rw [q22]; kernel_rfl) (by kernel_rfl) q23 head_enter (by kernel_rfl) head_lifts head_make (by kernel_rfl) (by kernel_rfl) (by kernel_rfl) (by kernel_rfl) (by kernel_rfl)

theorem FnExactPopItem_holds : Rows.FnExactPopItemSaid :=
  OpenClaim.holds_of_wide 8 Try.f8 rfl rfl rfl rfl rfl rfl rfl ⟨rfl, rfl, rfl, rfl, rfl⟩ rfl rfl rfl rfl rfl (by kernel_rfl) Try.func8 FnExactPopItem_facts
    (of_decide_eq_true (by kernel_rfl)) (by unfold Func.isWrapper; first | (rw [if_pos (by decide +kernel)]; kernel_rfl) | (rw [if_neg (by decide +kernel)]; exact ⟨rfl, rfl⟩))
    (fun os started H enc _ => FnExactPopItem_lifted os started H enc)
end Go.Proofs.Ytfinniedlbkhcaa
