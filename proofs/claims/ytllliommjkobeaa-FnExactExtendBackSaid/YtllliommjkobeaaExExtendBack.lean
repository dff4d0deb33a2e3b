/-
  FnExactExtendBack: true, for every argument.
-/
import Derived.Test.YtllliommjkobeaaOpen
import Derived.Deep.RegionHeld3
import Derived.Test.YtllliommjkobeaaDqE
import Derived.Test.YtllliommjkobeaaOpenN
namespace Go.Proofs.Ytllliommjkobeaa
open Go.ChangeShapes Go.WideShapes Go.ChangeAt Go.RowKit Go.Deep
open Go.ChangeMaps (open_string)

set_option maxHeartbeats 4000000 in
set_option maxRecDepth 100000 in
theorem FnExactExtendBack_gen (va : Value) (a : List Int) (am : Int) (vb : Value) (b : List Int) (w : World) (ha : Nums w va a) (_ham : -9223372036854775808 ≤ am ∧ am ≤ 9223372036854775807) (hb : Nums w vb b) (G0 : List Int) (dm0 : Int) (K1 : Bool) (hG : G0.length ≤ 10000000) 
    (hs : ∀ va' vb' w', Nums w' va' a → Nums w' vb' b → Calls Try.prog 35 #[.agg #[va', .int .i64 am], vb'] w' (NewN (fun v => .tuple #[.agg #[v, .int .i64 dm0], .bool K1]) G0 w'))
    (hi : ∀ va' vb' w', Nums w' va' a → Nums w' vb' b → Calls Try.prog 37 #[.agg #[va', .int .i64 am], vb'] w' (NewN (fun v => .tuple #[.agg #[v, .int .i64 dm0], .bool K1]) G0 w')) :
    Calls Try.prog 6 #[.agg #[va, .int .i64 am], vb] w fun e w' => e = .returned (.bool true) ∧ Below w.heap.size w w' := by
  have H := Things.nil w
  go_enter Try.func6, Try.ntmps6
  have HB0 := H.boxed 24 [va, .int .i64 am]
  clear H
  obtain ⟨qpa0, qpa1⟩ := HB0.box2 0 rfl
  obtain ⟨nbp, nbc, rfl, _, _⟩ := hb.slice
  by_cases hzb : 1048576 < b.length
  · have hzb' : (1048576 : Int) < (b.length : Int) := by omega
    go_wp2
    go_ret
    exact ⟨rfl, HB0.below⟩
  have hzb' : ¬ ((1048576 : Int) < (b.length : Int)) := by omega
  have hnb : b.length ≤ 1048576 := by omega
  go_wp2_with fail
  refine (szD_T HB0 ha (by omega) (by omega)).mono ?_
  rintro e w1 ⟨ra, rfl, hua, hla, H1⟩
  clear HB0
  clear qpa0 qpa1
  obtain ⟨qpa0, qpa1⟩ := H1.box2 0 rfl
  by_cases hra : ra < 0
  · go_wp2
    go_ret
    exact ⟨rfl, H1.below⟩
  have hna := hla hra
  clear hla
  go_wp2_with fail
  refine (toD_T H1 ha hna).mono ?_
  rintro e w2 ⟨sa, rfl, H2⟩
  clear H1
  clear qpa0 qpa1
  obtain ⟨qpa0, qpa1⟩ := H2.box2 1 rfl
  go_wp2_with fail
  refine (toN_T H2 hb hnb).mono ?_
  rintro e w3 ⟨sb, rfl, H3⟩
  clear H2
  clear qpa0 qpa1
  obtain ⟨qpa0, qpa1⟩ := H3.box2 2 rfl
  go_wp2_with fail
  refine (hs _ _ _ (H3.nums 1 rfl) (H3.nums 0 rfl)).mono ?_
  rintro e w4 ⟨w0, rfl, ho, hbl⟩
  have H4 := H3.newN ho hbl
  clear ho hbl H3
  clear qpa0 qpa1
  obtain ⟨qpa0, qpa1⟩ := H4.box2 3 rfl
  obtain ⟨w0p, w0c, rfl, _, _⟩ := (H4.nums 0 rfl).slice
  have HB4 := H4.boxed 27 [.slice w0p G0.length w0c, .int .i64 dm0]
  clear H4
  clear qpa0 qpa1
  obtain ⟨qpa0, qpa1⟩ := HB4.box2 4 rfl
  obtain ⟨qcw00, qcw01⟩ := HB4.box2 0 rfl
  go_wp2_with fail
  refine (toD_T HB4 ha hna).mono ?_
  rintro e w5 ⟨xa, rfl, H5⟩
  clear HB4
  clear qpa0 qpa1 qcw00 qcw01
  obtain ⟨qpa0, qpa1⟩ := H5.box2 5 rfl
  obtain ⟨qcw00, qcw01⟩ := H5.box2 1 rfl
  obtain ⟨xap, xac, rfl, _, _⟩ := (H5.nums 0 rfl).slice
  have HB5 := H5.boxed 27 [.slice xap a.length xac, .int .i64 am]
  clear H5
  clear qpa0 qpa1 qcw00 qcw01
  obtain ⟨qpa0, qpa1⟩ := HB5.box2 6 rfl
  obtain ⟨qcw00, qcw01⟩ := HB5.box2 2 rfl
  obtain ⟨qbxa0, qbxa1⟩ := HB5.box2 0 rfl
  go_wp2_with fail
  refine (toN_T HB5 hb hnb).mono ?_
  rintro e w6 ⟨xb, rfl, H6⟩
  clear HB5
  clear qpa0 qpa1 qcw00 qcw01 qbxa0 qbxa1
  obtain ⟨qpa0, qpa1⟩ := H6.box2 7 rfl
  obtain ⟨qcw00, qcw01⟩ := H6.box2 3 rfl
  obtain ⟨qbxa0, qbxa1⟩ := H6.box2 1 rfl
  go_wp2_with fail
  refine (hi _ _ _ (H6.nums 2 rfl) (H6.nums 0 rfl)).mono ?_
  rintro e w7 ⟨g0, rfl, ho, hbl⟩
  have H7 := H6.newN ho hbl
  clear ho hbl H6
  clear qpa0 qpa1 qcw00 qcw01 qbxa0 qbxa1
  obtain ⟨qpa0, qpa1⟩ := H7.box2 8 rfl
  obtain ⟨qcw00, qcw01⟩ := H7.box2 4 rfl
  obtain ⟨qbxa0, qbxa1⟩ := H7.box2 2 rfl
  obtain ⟨g0p, g0c, rfl, _, _⟩ := (H7.nums 0 rfl).slice
  have HB7 := H7.boxed 27 [.slice g0p G0.length g0c, .int .i64 dm0]
  clear H7
  clear qpa0 qpa1 qcw00 qcw01 qbxa0 qbxa1
  obtain ⟨qpa0, qpa1⟩ := HB7.box2 9 rfl
  obtain ⟨qcw00, qcw01⟩ := HB7.box2 5 rfl
  obtain ⟨qbxa0, qbxa1⟩ := HB7.box2 3 rfl
  obtain ⟨qcg00, qcg01⟩ := HB7.box2 0 rfl
  go_wp2_with fail
  refine (eqD_T HB7 (HB7.nums 1 rfl) (HB7.nums 6 rfl)).mono ?_
  rintro e w8 ⟨rfl, H8⟩
  clear HB7
  clear qpa0 qpa1 qcw00 qcw01 qbxa0 qbxa1 qcg00 qcg01
  obtain ⟨qpa0, qpa1⟩ := H8.box2 9 rfl
  obtain ⟨qcw00, qcw01⟩ := H8.box2 5 rfl
  obtain ⟨qbxa0, qbxa1⟩ := H8.box2 3 rfl
  obtain ⟨qcg00, qcg01⟩ := H8.box2 0 rfl
  go_wp2_with fail
  have HD8 := H8.quiet (Below.refl _ _).drew
  go_region_held3 (fun w' : World => (w'.cell? ⟨w5.heap.size, 0, none⟩ = some (.slice xap a.length xac) ∧ w'.cell? ⟨w5.heap.size, 1, none⟩ = some (.int .i64 am)) ∧ (w'.cell? ⟨w.heap.size, 0, none⟩ = some (va) ∧ w'.cell? ⟨w.heap.size, 1, none⟩ = some (.int .i64 am)))
    (first | exact ⟨H8.box2 3 rfl, H8.box2 9 rfl⟩ | assumption | exact hS9 | exact hS10)
    (first
      | (go_at_call 26; refine (toD_T HD8 ha hna).mono ?_; rintro e w9 ⟨ya, rfl, H9⟩; have hS9 := And.intro (H9.box2 4 rfl) (H9.box2 10 rfl))
      | (go_at_call 28; refine (eqD_T H9 (H9.nums 5 rfl) (H9.nums 0 rfl)).mono ?_; rintro e w10 ⟨rfl, H10⟩; have hS10 := And.intro (H10.box2 4 rfl) (H10.box2 10 rfl)))
  clear H8 HD8 H9 hS9 hS10
  clear qpa0 qpa1 qcw00 qcw01 qbxa0 qbxa1 qcg00 qcg01
  obtain ⟨qpa0, qpa1⟩ := H10.box2 10 rfl
  obtain ⟨qcw00, qcw01⟩ := H10.box2 6 rfl
  obtain ⟨qbxa0, qbxa1⟩ := H10.box2 4 rfl
  obtain ⟨qcg00, qcg01⟩ := H10.box2 1 rfl
  go_wp2_with fail
  refine (toN_T H10 hb hnb).mono ?_
  rintro e w11 ⟨yb, rfl, H11⟩
  clear H10
  clear qpa0 qpa1 qcw00 qcw01 qbxa0 qbxa1 qcg00 qcg01
  obtain ⟨qpa0, qpa1⟩ := H11.box2 11 rfl
  obtain ⟨qcw00, qcw01⟩ := H11.box2 7 rfl
  obtain ⟨qbxa0, qbxa1⟩ := H11.box2 5 rfl
  obtain ⟨qcg00, qcg01⟩ := H11.box2 2 rfl
  go_wp2_with fail
  refine (eqN_T H11 (H11.nums 4 rfl) (H11.nums 0 rfl)).mono ?_
  rintro e w12 ⟨rfl, H12⟩
  clear H11
  clear qpa0 qpa1 qcw00 qcw01 qbxa0 qbxa1 qcg00 qcg01
  obtain ⟨qpa0, qpa1⟩ := H12.box2 11 rfl
  obtain ⟨qcw00, qcw01⟩ := H12.box2 7 rfl
  obtain ⟨qbxa0, qbxa1⟩ := H12.box2 5 rfl
  obtain ⟨qcg00, qcg01⟩ := H12.box2 2 rfl
  go_wp2_with fail
  refine (markD_T H12 6 1 rfl (by omega) (by omega)).mono ?_
  rintro e w13 ⟨ka, rfl, hpa, hka, H13⟩
  clear H12
  clear qpa0 qpa1 qcw00 qcw01 qbxa0 qbxa1 qcg00 qcg01
  obtain ⟨qpa0, qpa1⟩ := H13.box2 11 rfl
  obtain ⟨qcw00, qcw01⟩ := H13.box2 7 rfl
  obtain ⟨qbxa0, qbxa1⟩ := H13.box2 5 rfl
  obtain ⟨qcg00, qcg01⟩ := H13.box2 2 rfl
  have hka' : ka ≤ 5000000 := by have := hka.out; omega
  have hka'' : 0 < ka := by have := hka.out; omega
  clear hpa
  go_wp2_with fail
  refine (markN_T H13 4 ka rfl (by omega) (by omega)).mono ?_
  rintro e w14 ⟨kb, rfl, hpb, hkb, H14⟩
  clear H13
  clear qpa0 qpa1 qcw00 qcw01 qbxa0 qbxa1 qcg00 qcg01
  obtain ⟨qpa0, qpa1⟩ := H14.box2 11 rfl
  obtain ⟨qcw00, qcw01⟩ := H14.box2 7 rfl
  obtain ⟨qbxa0, qbxa1⟩ := H14.box2 5 rfl
  obtain ⟨qcg00, qcg01⟩ := H14.box2 2 rfl
  have hkb' : kb ≤ 10000000 := by have := hkb.out; omega
  have hkb'' : 0 < kb := by have := hkb.out; omega
  go_wp2_with fail
  refine (eqD_T H14 (H14.nums 3 rfl) (H14.nums 8 rfl)).mono ?_
  rintro e w15 ⟨rfl, H15⟩
  clear H14
  clear qpa0 qpa1 qcw00 qcw01 qbxa0 qbxa1 qcg00 qcg01
  obtain ⟨qpa0, qpa1⟩ := H15.box2 11 rfl
  obtain ⟨qcw00, qcw01⟩ := H15.box2 7 rfl
  obtain ⟨qbxa0, qbxa1⟩ := H15.box2 5 rfl
  obtain ⟨qcg00, qcg01⟩ := H15.box2 2 rfl
  go_wp2_with fail
  refine (markD_T H15 3 1 rfl (by omega) (by omega)).mono ?_
  rintro e w16 ⟨m, rfl, hpm, hm, H16⟩
  clear H15
  clear qpa0 qpa1 qcw00 qcw01 qbxa0 qbxa1 qcg00 qcg01
  obtain ⟨qpa0, qpa1⟩ := H16.box2 11 rfl
  obtain ⟨qcw00, qcw01⟩ := H16.box2 7 rfl
  obtain ⟨qbxa0, qbxa1⟩ := H16.box2 5 rfl
  obtain ⟨qcg00, qcg01⟩ := H16.box2 2 rfl
  go_wp2_with fail
  refine (heldD_T H16 3 rfl (by omega) (by omega) hm).mono ?_
  rintro e w17 ⟨rfl, H17⟩
  clear H16
  clear qpa0 qpa1 qcw00 qcw01 qbxa0 qbxa1 qcg00 qcg01
  obtain ⟨qpa0, qpa1⟩ := H17.box2 11 rfl
  obtain ⟨qcw00, qcw01⟩ := H17.box2 7 rfl
  obtain ⟨qbxa0, qbxa1⟩ := H17.box2 5 rfl
  obtain ⟨qcg00, qcg01⟩ := H17.box2 2 rfl
  go_wp2_with fail
  refine (toD_T H17 ha hna).mono ?_
  rintro e w18 ⟨za, rfl, H18⟩
  clear H17
  clear qpa0 qpa1 qcw00 qcw01 qbxa0 qbxa1 qcg00 qcg01
  obtain ⟨qpa0, qpa1⟩ := H18.box2 12 rfl
  obtain ⟨qcw00, qcw01⟩ := H18.box2 8 rfl
  obtain ⟨qbxa0, qbxa1⟩ := H18.box2 6 rfl
  obtain ⟨qcg00, qcg01⟩ := H18.box2 3 rfl
  go_wp2_with fail
  refine (toN_T H18 hb hnb).mono ?_
  rintro e w19 ⟨zb, rfl, H19⟩
  clear H18
  clear qpa0 qpa1 qcw00 qcw01 qbxa0 qbxa1 qcg00 qcg01
  obtain ⟨qpa0, qpa1⟩ := H19.box2 13 rfl
  obtain ⟨qcw00, qcw01⟩ := H19.box2 9 rfl
  obtain ⟨qbxa0, qbxa1⟩ := H19.box2 7 rfl
  obtain ⟨qcg00, qcg01⟩ := H19.box2 4 rfl
  go_wp2_with fail
  refine (hi _ _ _ (H19.nums 1 rfl) (H19.nums 0 rfl)).mono ?_
  rintro e w20 ⟨h0, rfl, ho, hbl⟩
  have H20 := H19.newN ho hbl
  clear ho hbl H19
  clear qpa0 qpa1 qcw00 qcw01 qbxa0 qbxa1 qcg00 qcg01
  obtain ⟨qpa0, qpa1⟩ := H20.box2 14 rfl
  obtain ⟨qcw00, qcw01⟩ := H20.box2 10 rfl
  obtain ⟨qbxa0, qbxa1⟩ := H20.box2 8 rfl
  obtain ⟨qcg00, qcg01⟩ := H20.box2 5 rfl
  obtain ⟨h0p, h0c, rfl, _, _⟩ := (H20.nums 0 rfl).slice
  have HB20 := H20.boxed 27 [.slice h0p G0.length h0c, .int .i64 dm0]
  clear H20
  clear qpa0 qpa1 qcw00 qcw01 qbxa0 qbxa1 qcg00 qcg01
  obtain ⟨qpa0, qpa1⟩ := HB20.box2 15 rfl
  obtain ⟨qcw00, qcw01⟩ := HB20.box2 11 rfl
  obtain ⟨qbxa0, qbxa1⟩ := HB20.box2 9 rfl
  obtain ⟨qcg00, qcg01⟩ := HB20.box2 6 rfl
  obtain ⟨qch00, qch01⟩ := HB20.box2 0 rfl
  go_wp2_with fail
  refine (eqD_T HB20 (HB20.nums 1 rfl) (HB20.nums 12 rfl)).mono ?_
  rintro e w21 ⟨rfl, H21⟩
  clear HB20
  clear qpa0 qpa1 qcw00 qcw01 qbxa0 qbxa1 qcg00 qcg01 qch00 qch01
  obtain ⟨qpa0, qpa1⟩ := H21.box2 15 rfl
  obtain ⟨qcw00, qcw01⟩ := H21.box2 11 rfl
  obtain ⟨qbxa0, qbxa1⟩ := H21.box2 9 rfl
  obtain ⟨qcg00, qcg01⟩ := H21.box2 6 rfl
  obtain ⟨qch00, qch01⟩ := H21.box2 0 rfl
  go_wp2_with fail
  refine (heldD_T H21 7 rfl (by omega) (by omega) hm).mono ?_
  rintro e w22 ⟨rfl, H22⟩
  clear H21
  clear qpa0 qpa1 qcw00 qcw01 qbxa0 qbxa1 qcg00 qcg01 qch00 qch01
  obtain ⟨qpa0, qpa1⟩ := H22.box2 15 rfl
  obtain ⟨qcw00, qcw01⟩ := H22.box2 11 rfl
  obtain ⟨qbxa0, qbxa1⟩ := H22.box2 9 rfl
  obtain ⟨qcg00, qcg01⟩ := H22.box2 6 rfl
  obtain ⟨qch00, qch01⟩ := H22.box2 0 rfl
  go_wp2
  go_ret
  exact ⟨rfl, H22.below⟩

theorem FnExactExtendBack_walk (va : Value) (a : List Int) (am : Int) (vb : Value) (b : List Int) (w : World) (ha : Nums w va a) (ham : -9223372036854775808 ≤ am ∧ am ≤ 9223372036854775807) (hb : Nums w vb b) :
    Calls Try.prog 6 #[.agg #[va, .int .i64 am], vb] w fun e w' => e = .returned (.bool true) ∧ Below w.heap.size w w' :=
  FnExactExtendBack_gen va a am vb b w ha ham hb _ _ _ (ext_le a b am) (fun va' vb' w' h h' => sExtendBack_any va' vb' a b am w' h h') (fun va' vb' w' h h' => ExtendBack_any va' vb' a b am w' h h')

set_option maxRecDepth 100000 in
theorem FnExactExtendBack_lifted (os : Os) (started : os.Started) (H : Type) (enc : TypeId × Value → H) :
    ReturnsInHanded {} Try.checked os 6 .any (Rows.fnExactExtendBackSpec.pre6 enc Try.prog Try.f6 Rows.fnExactExtendBackRow.domain false) (Rows.fnExactExtendBackSpec.post enc Try.prog Try.f6 false true false false) := by
  refine returnsInHanded_of_change (C := Try.checked) own started (by kernel_rfl) Try.func6
    (ChangeSpec.witness6 (enc := enc) (C := Try.checked) false ⟨#[], #[.agg #[.slice none 0 0, .int .i64 0], .slice none 0 0], []⟩ 8 (by kernel_rfl) (by kernel_rfl) (by kernel_rfl) (by kernel_rfl)) ?_
  intro W base args ds gs before hval0 hW _ _
  have hval : ∀ (j : Nat) t v, Try.f6.params[j]? = some t → args[j]? = some v → Value.okWide Try.prog W .any base t v := hval0
  have hW' := hW
  obtain ⟨p, q, hA0, hV, rfl, _, _⟩ := hW
  have hA : DataW.TrodAll enc Try.prog W 0 (fun _ => true) true Try.f6.params.toList args.toList ds p := hA0
  rw [Try.params6] at hA hval
  obtain ⟨v0, vs0, d0, ds0, p0, q0, hargs, rfl, rfl, h0, r0⟩ := trodAll_cons hA
  obtain ⟨v1, vs1, d1, ds1, p1, q1, rfl, rfl, rfl, h1, r1⟩ := trodAll_cons r0
  obtain ⟨rfl, rfl, rfl⟩ := trodAll_nil r1
  obtain rfl : args = #[v0, v1] := by cases args; simp_all
  obtain ⟨rfl, rfl⟩ := trodVars_none hV
  obtain ⟨u0, xs0, m0, rfl, hI0, hm0⟩ := open_deque (hval 0 _ v0 rfl rfl) h0
  obtain ⟨xs1, hI1⟩ := open_nums (hval 1 _ v1 rfl rfl) h1
  refine (FnExactExtendBack_walk u0 xs0 m0 v1 xs1 W hI0 hm0 hI1).mono fun e W' ⟨he, hb⟩ => ⟨_, he, ?_⟩
  exact law_end rfl (by rw [Try.params6]; decide +kernel) rfl hW' rfl rfl rfl hb

theorem FnExactExtendBack_facts : joinedFacts Try.prog 6 Try.f6 Rows.fnExactExtendBackSpec Rows.fnExactExtendBackRow = true :=
  facts_of (by kernel_rfl) q2 q3 (by kernel_rfl) (by kernel_rfl) (by kernel_rfl) q7 (by kernel_rfl) q9 (by kernel_rfl) (by kernel_rfl) (by kernel_rfl) (by kernel_rfl) (by kernel_rfl) (by kernel_rfl) (by kernel_rfl) (by kernel_rfl) (by kernel_rfl) (by kernel_rfl) (by kernel_rfl) (by kernel_rfl) (by kernel_rfl)
    (by rw [q22]; kernel_rfl) (by kernel_rfl) q23 head_enter (by kernel_rfl) head_lifts head_make (by kernel_rfl) (by kernel_rfl) (by kernel_rfl) (by kernel_rfl) (by kernel_rfl)

theorem FnExactExtendBack_holds : Rows.FnExactExtendBackSaid :=
  OpenClaim.holds_of_wide 6 Try.f6 rfl rfl rfl rfl rfl rfl rfl ⟨rfl, rfl, rfl, rfl, rfl⟩ rfl rfl rfl rfl rfl (by kernel_rfl) Try.func6 FnExactExtendBack_facts
    (of_decide_eq_true (by kernel_rfl)) (by unfold Func.isWrapper; first | (rw [if_pos (by decide +kernel)]; kernel_rfl) | (rw [if_neg (by decide +kernel)]; exact ⟨rfl, rfl⟩))
    (fun os started H enc _ => FnExactExtendBack_lifted os started H enc)
end Go.Proofs.Ytllliommjkobeaa
