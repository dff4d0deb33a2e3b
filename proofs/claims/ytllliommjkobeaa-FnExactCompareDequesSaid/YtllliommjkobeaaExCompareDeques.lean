/-
  FnExactCompareDeques: true, for every argument.
-/
import Derived.Test.YtllliommjkobeaaOpen
import Derived.Deep.RegionHeld3
import Derived.Test.YtllliommjkobeaaDqKC
import Derived.Test.YtllliommjkobeaaOpenN
namespace Go.Proofs.Ytllliommjkobeaa
open Go.ChangeShapes Go.WideShapes Go.ChangeAt Go.RowKit Go.Deep
open Go.ChangeMaps (open_string)

set_option maxHeartbeats 4000000 in
set_option maxRecDepth 100000 in
theorem FnExactCompareDeques_gen (va : Value) (a : List Int) (am : Int) (vb : Value) (b : List Int) (bm : Int) (w : World) (ha : Nums w va a) (_ham : -9223372036854775808 ≤ am ∧ am ≤ 9223372036854775807) (hb : Nums w vb b) (_hbm : -9223372036854775808 ≤ bm ∧ bm ≤ 9223372036854775807) (K0 : Int) (K1 : Bool) 
    (hs : ∀ va' vb' w', Nums w' va' a → Nums w' vb' b → Calls Try.prog 70 #[.agg #[va', .int .i64 am], .agg #[vb', .int .i64 bm]] w' (RetN (.tuple #[.int .i64 K0, .bool K1]) w'))
    (hi : ∀ va' vb' w', Nums w' va' a → Nums w' vb' b → Calls Try.prog 71 #[.agg #[va', .int .i64 am], .agg #[vb', .int .i64 bm]] w' (RetN (.tuple #[.int .i64 K0, .bool K1]) w')) :
    Calls Try.prog 22 #[.agg #[va, .int .i64 am], .agg #[vb, .int .i64 bm]] w fun e w' => e = .returned (.bool true) ∧ Below w.heap.size w w' := by
  have H := Things.nil w
  go_enter Try.func22, Try.ntmps22
  have HB0 := H.boxed 24 [va, .int .i64 am]
  clear H
  obtain ⟨qpa0, qpa1⟩ := HB0.box2 0 rfl
  have HB0x1 := HB0.boxedAt (w.heap.size + 1) (by simp) 24 [vb, .int .i64 bm]
  clear HB0
  clear qpa0 qpa1
  obtain ⟨qpa0, qpa1⟩ := HB0x1.box2 1 rfl
  obtain ⟨qpb0, qpb1⟩ := HB0x1.box2 0 rfl
  go_wp2_with fail
  refine (szD_T HB0x1 ha (by omega) (by omega)).mono ?_
  rintro e w1 ⟨ra, rfl, hua, hla, H1⟩
  clear HB0x1
  clear qpa0 qpa1 qpb0 qpb1
  obtain ⟨qpa0, qpa1⟩ := H1.box2 1 rfl
  obtain ⟨qpb0, qpb1⟩ := H1.box2 0 rfl
  by_cases hra : ra < 0
  · go_wp2
    go_ret
    exact ⟨rfl, H1.below⟩
  have hna := hla hra
  clear hla
  go_wp2_with fail
  refine (szD_T H1 hb (by omega) hua).mono ?_
  rintro e w2 ⟨rb, rfl, hub, hlb, H2⟩
  clear H1
  clear qpa0 qpa1 qpb0 qpb1
  obtain ⟨qpa0, qpa1⟩ := H2.box2 1 rfl
  obtain ⟨qpb0, qpb1⟩ := H2.box2 0 rfl
  by_cases hrb : rb < 0
  · go_wp2
    go_ret
    exact ⟨rfl, H2.below⟩
  have hnb := hlb hrb
  clear hlb
  go_wp2_with fail
  have HD2 := H2.quiet (Below.refl _ _).drew
  go_region_held3 (fun WW : World => (WW.cell? ⟨w.heap.size, 0, none⟩ = some (va) ∧ WW.cell? ⟨w.heap.size, 1, none⟩ = some (.int .i64 am)) ∧ (WW.cell? ⟨w.heap.size + 1, 0, none⟩ = some (vb) ∧ WW.cell? ⟨w.heap.size + 1, 1, none⟩ = some (.int .i64 bm)))
    (first | exact ⟨H2.box2 1 rfl, H2.box2 0 rfl⟩ | assumption | exact hS3 | exact hS4 | exact hS5)
    (first
      | (go_at_call 26; with_reducible refine (toD_T HD2 ha hna).mono ?_; rintro e w3 ⟨sa, rfl, H3⟩; have hS3 : (w3.cell? ⟨w.heap.size, 0, none⟩ = some (va) ∧ w3.cell? ⟨w.heap.size, 1, none⟩ = some (.int .i64 am)) ∧ (w3.cell? ⟨w.heap.size + 1, 0, none⟩ = some (vb) ∧ w3.cell? ⟨w.heap.size + 1, 1, none⟩ = some (.int .i64 bm)) := ⟨H3.box2 2 rfl, H3.box2 1 rfl⟩)
      | (go_at_call 26; with_reducible refine (toD_T H3 hb hnb).mono ?_; rintro e w4 ⟨sb, rfl, H4⟩; have hS4 : (w4.cell? ⟨w.heap.size, 0, none⟩ = some (va) ∧ w4.cell? ⟨w.heap.size, 1, none⟩ = some (.int .i64 am)) ∧ (w4.cell? ⟨w.heap.size + 1, 0, none⟩ = some (vb) ∧ w4.cell? ⟨w.heap.size + 1, 1, none⟩ = some (.int .i64 bm)) := ⟨H4.box2 3 rfl, H4.box2 2 rfl⟩)
      | (go_at_call 70; refine (hs _ _ _ (H4.nums 1 rfl) (H4.nums 0 rfl)).mono ?_; rintro e w5 ⟨rfl, hbl⟩; have H5 := H4.quiet hbl; have hS5 : (w5.cell? ⟨w.heap.size, 0, none⟩ = some (va) ∧ w5.cell? ⟨w.heap.size, 1, none⟩ = some (.int .i64 am)) ∧ (w5.cell? ⟨w.heap.size + 1, 0, none⟩ = some (vb) ∧ w5.cell? ⟨w.heap.size + 1, 1, none⟩ = some (.int .i64 bm)) := ⟨H5.box2 3 rfl, H5.box2 2 rfl⟩))
  clear H2 HD2 hS3 hS4 hS5 H3 H4 hbl
  clear qpa0 qpa1 qpb0 qpb1
  obtain ⟨qpa0, qpa1⟩ := H5.box2 3 rfl
  obtain ⟨qpb0, qpb1⟩ := H5.box2 2 rfl
  go_wp2_with fail
  refine (toD_T H5 ha hna).mono ?_
  rintro e w6 ⟨xa, rfl, H6⟩
  clear H5
  clear qpa0 qpa1 qpb0 qpb1
  obtain ⟨qpa0, qpa1⟩ := H6.box2 4 rfl
  obtain ⟨qpb0, qpb1⟩ := H6.box2 3 rfl
  obtain ⟨xap, xac, rfl, _, _⟩ := (H6.nums 0 rfl).slice
  have HB6 := H6.boxed 27 [.slice xap a.length xac, .int .i64 am]
  clear H6
  clear qpa0 qpa1 qpb0 qpb1
  obtain ⟨qpa0, qpa1⟩ := HB6.box2 5 rfl
  obtain ⟨qpb0, qpb1⟩ := HB6.box2 4 rfl
  obtain ⟨qbxa0, qbxa1⟩ := HB6.box2 0 rfl
  go_wp2_with fail
  refine (toD_T HB6 hb hnb).mono ?_
  rintro e w7 ⟨xb, rfl, H7⟩
  clear HB6
  clear qpa0 qpa1 qpb0 qpb1 qbxa0 qbxa1
  obtain ⟨qpa0, qpa1⟩ := H7.box2 6 rfl
  obtain ⟨qpb0, qpb1⟩ := H7.box2 5 rfl
  obtain ⟨qbxa0, qbxa1⟩ := H7.box2 1 rfl
  obtain ⟨xbp, xbc, rfl, _, _⟩ := (H7.nums 0 rfl).slice
  have HB7 := H7.boxed 27 [.slice xbp b.length xbc, .int .i64 bm]
  clear H7
  clear qpa0 qpa1 qpb0 qpb1 qbxa0 qbxa1
  obtain ⟨qpa0, qpa1⟩ := HB7.box2 7 rfl
  obtain ⟨qpb0, qpb1⟩ := HB7.box2 6 rfl
  obtain ⟨qbxa0, qbxa1⟩ := HB7.box2 2 rfl
  obtain ⟨qbxb0, qbxb1⟩ := HB7.box2 0 rfl
  go_wp2_with fail
  refine (hi _ _ _ (HB7.nums 3 rfl) (HB7.nums 1 rfl)).mono ?_
  rintro e w8 ⟨rfl, hbl⟩
  have H8 := HB7.quiet hbl
  clear hbl HB7
  clear qpa0 qpa1 qpb0 qpb1 qbxa0 qbxa1 qbxb0 qbxb1
  obtain ⟨qpa0, qpa1⟩ := H8.box2 7 rfl
  obtain ⟨qpb0, qpb1⟩ := H8.box2 6 rfl
  obtain ⟨qbxa0, qbxa1⟩ := H8.box2 2 rfl
  obtain ⟨qbxb0, qbxb1⟩ := H8.box2 0 rfl
  go_wp2_with fail
  have HD8 := H8.quiet (Below.refl _ _).drew
  go_region_held3 (fun w' : World => (w'.cell? ⟨w6.heap.size, 0, none⟩ = some (.slice xap a.length xac) ∧ w'.cell? ⟨w6.heap.size, 1, none⟩ = some (.int .i64 am)) ∧ (w'.cell? ⟨w.heap.size, 0, none⟩ = some (va) ∧ w'.cell? ⟨w.heap.size, 1, none⟩ = some (.int .i64 am)))
    (first | exact ⟨H8.box2 2 rfl, H8.box2 7 rfl⟩ | assumption | exact hS9 | exact hS10)
    (first
      | (go_at_call 26; refine (toD_T HD8 ha hna).mono ?_; rintro e w9 ⟨ya, rfl, H9⟩; have hS9 := And.intro (H9.box2 3 rfl) (H9.box2 8 rfl))
      | (go_at_call 28; refine (eqD_T H9 (H9.nums 4 rfl) (H9.nums 0 rfl)).mono ?_; rintro e w10 ⟨rfl, H10⟩; have hS10 := And.intro (H10.box2 3 rfl) (H10.box2 8 rfl)))
  clear H8 HD8 H9 hS9 hS10
  clear qpa0 qpa1 qpb0 qpb1 qbxa0 qbxa1 qbxb0 qbxb1
  obtain ⟨qpa0, qpa1⟩ := H10.box2 8 rfl
  obtain ⟨qpb0, qpb1⟩ := H10.box2 7 rfl
  obtain ⟨qbxa0, qbxa1⟩ := H10.box2 3 rfl
  obtain ⟨qbxb0, qbxb1⟩ := H10.box2 1 rfl
  go_wp2_with fail
  have HD10 := H10.quiet (Below.refl _ _).drew
  go_region_held3 (fun w' : World => (w'.cell? ⟨w7.heap.size, 0, none⟩ = some (.slice xbp b.length xbc) ∧ w'.cell? ⟨w7.heap.size, 1, none⟩ = some (.int .i64 bm)) ∧ (w'.cell? ⟨w.heap.size + 1, 0, none⟩ = some (vb) ∧ w'.cell? ⟨w.heap.size + 1, 1, none⟩ = some (.int .i64 bm)))
    (first | exact ⟨H10.box2 1 rfl, H10.box2 7 rfl⟩ | assumption | exact hS11 | exact hS12)
    (first
      | (go_at_call 26; refine (toD_T HD10 hb hnb).mono ?_; rintro e w11 ⟨yb, rfl, H11⟩; have hS11 := And.intro (H11.box2 2 rfl) (H11.box2 8 rfl))
      | (go_at_call 28; refine (eqD_T H11 (H11.nums 3 rfl) (H11.nums 0 rfl)).mono ?_; rintro e w12 ⟨rfl, H12⟩; have hS12 := And.intro (H12.box2 2 rfl) (H12.box2 8 rfl)))
  clear H10 HD10 H11 hS11 hS12
  clear qpa0 qpa1 qpb0 qpb1 qbxa0 qbxa1 qbxb0 qbxb1
  obtain ⟨qpa0, qpa1⟩ := H12.box2 9 rfl
  obtain ⟨qpb0, qpb1⟩ := H12.box2 8 rfl
  obtain ⟨qbxa0, qbxa1⟩ := H12.box2 4 rfl
  obtain ⟨qbxb0, qbxb1⟩ := H12.box2 2 rfl
  go_wp2
  go_ret
  exact ⟨rfl, H12.below⟩

theorem FnExactCompareDeques_walk (va : Value) (a : List Int) (am : Int) (vb : Value) (b : List Int) (bm : Int) (w : World) (ha : Nums w va a) (ham : -9223372036854775808 ≤ am ∧ am ≤ 9223372036854775807) (hb : Nums w vb b) (hbm : -9223372036854775808 ≤ bm ∧ bm ≤ 9223372036854775807) :
    Calls Try.prog 22 #[.agg #[va, .int .i64 am], .agg #[vb, .int .i64 bm]] w fun e w' => e = .returned (.bool true) ∧ Below w.heap.size w w' :=
  FnExactCompareDeques_gen va a am vb b bm w ha ham hb hbm _ _ (fun va' vb' w' h h' => sCompareDeques_any va' vb' a b am bm w' h h') (fun va' vb' w' h h' => CompareDeques_any va' vb' a b am bm w' h h')

set_option maxRecDepth 100000 in
theorem FnExactCompareDeques_lifted (os : Os) (started : os.Started) (H : Type) (enc : TypeId × Value → H) :
    ReturnsInHanded {} Try.checked os 22 .any (Rows.fnExactCompareDequesSpec.pre6 enc Try.prog Try.f22 Rows.fnExactCompareDequesRow.domain false) (Rows.fnExactCompareDequesSpec.post enc Try.prog Try.f22 false true false false) := by
  refine returnsInHanded_of_change (C := Try.checked) own started (by kernel_rfl) Try.func22
    (ChangeSpec.witness6 (enc := enc) (C := Try.checked) false ⟨#[], #[.agg #[.slice none 0 0, .int .i64 0], .agg #[.slice none 0 0, .int .i64 0]], []⟩ 8 (by kernel_rfl) (by kernel_rfl) (by kernel_rfl) (by kernel_rfl)) ?_
  intro W base args ds gs before hval0 hW _ _
  have hval : ∀ (j : Nat) t v, Try.f22.params[j]? = some t → args[j]? = some v → Value.okWide Try.prog W .any base t v := hval0
  have hW' := hW
  obtain ⟨p, q, hA0, hV, rfl, _, _⟩ := hW
  have hA : DataW.TrodAll enc Try.prog W 0 (fun _ => true) true Try.f22.params.toList args.toList ds p := hA0
  rw [Try.params22] at hA hval
  obtain ⟨v0, vs0, d0, ds0, p0, q0, hargs, rfl, rfl, h0, r0⟩ := trodAll_cons hA
  obtain ⟨v1, vs1, d1, ds1, p1, q1, rfl, rfl, rfl, h1, r1⟩ := trodAll_cons r0
  obtain ⟨rfl, rfl, rfl⟩ := trodAll_nil r1
  obtain rfl : args = #[v0, v1] := by cases args; simp_all
  obtain ⟨rfl, rfl⟩ := trodVars_none hV
  obtain ⟨u0, xs0, m0, rfl, hI0, hm0⟩ := open_deque (hval 0 _ v0 rfl rfl) h0
  obtain ⟨u1, xs1, m1, rfl, hI1, hm1⟩ := open_deque (hval 1 _ v1 rfl rfl) h1
  refine (FnExactCompareDeques_walk u0 xs0 m0 u1 xs1 m1 W hI0 hm0 hI1 hm1).mono fun e W' ⟨he, hb⟩ => ⟨_, he, ?_⟩
  exact law_end rfl (by rw [Try.params22]; decide +kernel) rfl hW' rfl rfl rfl hb

theorem FnExactCompareDeques_facts : joinedFacts Try.prog 22 Try.f22 Rows.fnExactCompareDequesSpec Rows.fnExactCompareDequesRow = true :=
  facts_of (by kernel_rfl) q2 q3 (by kernel_rfl) (by kernel_rfl) (by kernel_rfl) q7 (by kernel_rfl) q9 (by kernel_rfl) (by kernel_rfl) (by kernel_rfl) (by kernel_rfl) (by kernel_rfl) (by kernel_rfl) (by kernel_rfl) (by kernel_rfl) (by kernel_rfl) (by kernel_rfl) (by kernel_rfl) (by kernel_rfl) (by kernel_rfl)
    (by rw [q22]; kernel_rfl) (by kernel_rfl) q23 head_enter (by kernel_rfl) head_lifts head_make (by kernel_rfl) (by kernel_rfl) (by kernel_rfl) (by kernel_rfl) (by kernel_rfl)

theorem FnExactCompareDeques_holds : Rows.FnExactCompareDequesSaid :=
  OpenClaim.holds_of_wide 22 Try.f22 rfl rfl rfl rfl rfl rfl rfl ⟨rfl, rfl, rfl, rfl, rfl⟩ rfl rfl rfl rfl rfl (by kernel_rfl) Try.func22 FnExactCompareDeques_facts
    (of_decide_eq_true (by kernel_rfl)) (by unfold Func.isWrapper; first | (rw [if_pos (by decide +kernel)]; kernel_rfl) | (rw [if_neg (by decide +kernel)]; exact ⟨rfl, rfl⟩))
    (fun os started H enc _ => FnExactCompareDeques_lifted os started H enc)
end Go.Proofs.Ytllliommjkobeaa
