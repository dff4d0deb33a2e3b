/-
  FnExactInsertAt: true, for every argument.
-/
import Derived.Test.YtigiliakcmpekaaOpen
import Derived.Deep.RegionHeld3
import Derived.Test.YtigiliakcmpekaaDqIn
import Derived.Test.YtigiliakcmpekaaOpenN
namespace Go.Proofs.Ytigiliakcmpekaa
open Go.ChangeShapes Go.WideShapes Go.ChangeAt Go.RowKit Go.Deep
open Go.ChangeMaps (open_string)

set_option maxHeartbeats 4000000 in
set_option maxRecDepth 100000 in
theorem FnExactInsertAt_gen (va : Value) (a : List Int) (am : Int) (b : Int) (c : Int) (w : World) (ha : Nums w va a) (_ham : -9223372036854775808 ≤ am ∧ am ≤ 9223372036854775807) (_hb : -9223372036854775808 ≤ b ∧ b ≤ 9223372036854775807) (_hc : -9223372036854775808 ≤ c ∧ c ≤ 9223372036854775807) (G0 : List Int) (dm0 : Int) (K1 : Bool) (hG : G0.length ≤ 10000000) 
    (hs : ∀ va' w', Nums w' va' a → Calls Try.prog 88 #[.agg #[va', .int .i64 am], .int .i64 b, .int .i64 c] w' (NewN (fun v => .tuple #[.agg #[v, .int .i64 dm0], .bool K1]) G0 w'))
    (hi : ∀ va' w', Nums w' va' a → Calls Try.prog 89 #[.agg #[va', .int .i64 am], .int .i64 b, .int .i64 c] w' (NewN (fun v => .tuple #[.agg #[v, .int .i64 dm0], .bool K1]) G0 w')) :
    Calls Try.prog 20 #[.agg #[va, .int .i64 am], .int .i64 b, .int .i64 c] w fun e w' => e = .returned (.bool true) ∧ Below w.heap.size w w' := by
  have H := Things.nil w
  go_enter Try.func20, Try.ntmps20
  have HB0 := H.boxed 44 [va, .int .i64 am]
  clear H
  obtain ⟨qpa0, qpa1⟩ := HB0.box2 0 rfl
  go_wp2_with fail
  refine (szD_T HB0 ha (by omega) (by omega)).mono ?_
  rintro e w1 ⟨ra, rfl, hua, hla, H1⟩
  clear HB0
  clear qpa0 qpa1
  obtain ⟨qpa0, qpa1⟩ := H1.box2 0 rfl
  by_cases hra : ra < 0
  · go_wp2
    go_ret
    exact ⟨rfl, H1.below⟩
  have hna := hla hra
  clear hla
  go_wp2_with fail
  refine (toD_T H1 ha hna).mono ?_
  rintro e w2 ⟨sa, rfl, H2⟩
  clear H1
  clear qpa0 qpa1
  obtain ⟨qpa0, qpa1⟩ := H2.box2 1 rfl
  go_wp2_with fail
  refine (hs _ _ (H2.nums 0 rfl)).mono ?_
  rintro e w3 ⟨w0, rfl, ho, hbl⟩
  have H3 := H2.newN ho hbl
  clear ho hbl H2
  clear qpa0 qpa1
  obtain ⟨qpa0, qpa1⟩ := H3.box2 2 rfl
  obtain ⟨w0p, w0c, rfl, _, _⟩ := (H3.nums 0 rfl).slice
  have HB3 := H3.boxed 47 [.slice w0p G0.length w0c, .int .i64 dm0]
  clear H3
  clear qpa0 qpa1
  obtain ⟨qpa0, qpa1⟩ := HB3.box2 3 rfl
  obtain ⟨qcw00, qcw01⟩ := HB3.box2 0 rfl
  go_wp2_with fail
  refine (toD_T HB3 ha hna).mono ?_
  rintro e w4 ⟨xa, rfl, H4⟩
  clear HB3
  clear qpa0 qpa1 qcw00 qcw01
  obtain ⟨qpa0, qpa1⟩ := H4.box2 4 rfl
  obtain ⟨qcw00, qcw01⟩ := H4.box2 1 rfl
  obtain ⟨xap, xac, rfl, _, _⟩ := (H4.nums 0 rfl).slice
  have HB4 := H4.boxed 47 [.slice xap a.length xac, .int .i64 am]
  clear H4
  clear qpa0 qpa1 qcw00 qcw01
  obtain ⟨qpa0, qpa1⟩ := HB4.box2 5 rfl
  obtain ⟨qcw00, qcw01⟩ := HB4.box2 2 rfl
  obtain ⟨qbxa0, qbxa1⟩ := HB4.box2 0 rfl
  go_wp2_with fail
  refine (hi _ _ (HB4.nums 1 rfl)).mono ?_
  rintro e w5 ⟨g0, rfl, ho, hbl⟩
  have H5 := HB4.newN ho hbl
  clear ho hbl HB4
  clear qpa0 qpa1 qcw00 qcw01 qbxa0 qbxa1
  obtain ⟨qpa0, qpa1⟩ := H5.box2 6 rfl
  obtain ⟨qcw00, qcw01⟩ := H5.box2 3 rfl
  obtain ⟨qbxa0, qbxa1⟩ := H5.box2 1 rfl
  obtain ⟨g0p, g0c, rfl, _, _⟩ := (H5.nums 0 rfl).slice
  have HB5 := H5.boxed 47 [.slice g0p G0.length g0c, .int .i64 dm0]
  clear H5
  clear qpa0 qpa1 qcw00 qcw01 qbxa0 qbxa1
  obtain ⟨qpa0, qpa1⟩ := HB5.box2 7 rfl
  obtain ⟨qcw00, qcw01⟩ := HB5.box2 4 rfl
  obtain ⟨qbxa0, qbxa1⟩ := HB5.box2 2 rfl
  obtain ⟨qcg00, qcg01⟩ := HB5.box2 0 rfl
  go_wp2_with fail
  refine (eqD_T HB5 (HB5.nums 1 rfl) (HB5.nums 5 rfl)).mono ?_
  rintro e w6 ⟨rfl, H6⟩
  clear HB5
  clear qpa0 qpa1 qcw00 qcw01 qbxa0 qbxa1 qcg00 qcg01
  obtain ⟨qpa0, qpa1⟩ := H6.box2 7 rfl
  obtain ⟨qcw00, qcw01⟩ := H6.box2 4 rfl
  obtain ⟨qbxa0, qbxa1⟩ := H6.box2 2 rfl
  obtain ⟨qcg00, qcg01⟩ := H6.box2 0 rfl
  go_wp2_with fail
  have HD6 := H6.quiet (Below.refl _ _).drew
  go_region_held3 (fun w' : World => (w'.cell? ⟨w4.heap.size, 0, none⟩ = some (.slice xap a.length xac) ∧ w'.cell? ⟨w4.heap.size, 1, none⟩ = some (.int .i64 am)) ∧ (w'.cell? ⟨w.heap.size, 0, none⟩ = some (va) ∧ w'.cell? ⟨w.heap.size, 1, none⟩ = some (.int .i64 am)))
    (first | exact ⟨H6.box2 2 rfl, H6.box2 7 rfl⟩ | assumption | exact hS7 | exact hS8)
    (first
      | (go_at_call 44; refine (toD_T HD6 ha hna).mono ?_; rintro e w7 ⟨ya, rfl, H7⟩; have hS7 := And.intro (H7.box2 3 rfl) (H7.box2 8 rfl))
      | (go_at_call 46; refine (eqD_T H7 (H7.nums 4 rfl) (H7.nums 0 rfl)).mono ?_; rintro e w8 ⟨rfl, H8⟩; have hS8 := And.intro (H8.box2 3 rfl) (H8.box2 8 rfl)))
  clear H6 HD6 H7 hS7 hS8
  clear qpa0 qpa1 qcw00 qcw01 qbxa0 qbxa1 qcg00 qcg01
  obtain ⟨qpa0, qpa1⟩ := H8.box2 8 rfl
  obtain ⟨qcw00, qcw01⟩ := H8.box2 5 rfl
  obtain ⟨qbxa0, qbxa1⟩ := H8.box2 3 rfl
  obtain ⟨qcg00, qcg01⟩ := H8.box2 1 rfl
  go_wp2_with fail
  refine (markD_T H8 4 1 rfl (by omega) (by omega)).mono ?_
  rintro e w9 ⟨ka, rfl, hpa, hka, H9⟩
  clear H8
  clear qpa0 qpa1 qcw00 qcw01 qbxa0 qbxa1 qcg00 qcg01
  obtain ⟨qpa0, qpa1⟩ := H9.box2 8 rfl
  obtain ⟨qcw00, qcw01⟩ := H9.box2 5 rfl
  obtain ⟨qbxa0, qbxa1⟩ := H9.box2 3 rfl
  obtain ⟨qcg00, qcg01⟩ := H9.box2 1 rfl
  have hka' : ka ≤ 5000000 := by have := hka.out; omega
  have hka'' : 0 < ka := by have := hka.out; omega
  go_wp2_with fail
  refine (eqD_T H9 (H9.nums 2 rfl) (H9.nums 6 rfl)).mono ?_
  rintro e w10 ⟨rfl, H10⟩
  clear H9
  clear qpa0 qpa1 qcw00 qcw01 qbxa0 qbxa1 qcg00 qcg01
  obtain ⟨qpa0, qpa1⟩ := H10.box2 8 rfl
  obtain ⟨qcw00, qcw01⟩ := H10.box2 5 rfl
  obtain ⟨qbxa0, qbxa1⟩ := H10.box2 3 rfl
  obtain ⟨qcg00, qcg01⟩ := H10.box2 1 rfl
  go_wp2_with fail
  refine (markD_T H10 2 1 rfl (by omega) (by omega)).mono ?_
  rintro e w11 ⟨m, rfl, hpm, hm, H11⟩
  clear H10
  clear qpa0 qpa1 qcw00 qcw01 qbxa0 qbxa1 qcg00 qcg01
  obtain ⟨qpa0, qpa1⟩ := H11.box2 8 rfl
  obtain ⟨qcw00, qcw01⟩ := H11.box2 5 rfl
  obtain ⟨qbxa0, qbxa1⟩ := H11.box2 3 rfl
  obtain ⟨qcg00, qcg01⟩ := H11.box2 1 rfl
  go_wp2_with fail
  refine (heldD_T H11 2 rfl (by omega) (by omega) hm).mono ?_
  rintro e w12 ⟨rfl, H12⟩
  clear H11
  clear qpa0 qpa1 qcw00 qcw01 qbxa0 qbxa1 qcg00 qcg01
  obtain ⟨qpa0, qpa1⟩ := H12.box2 8 rfl
  obtain ⟨qcw00, qcw01⟩ := H12.box2 5 rfl
  obtain ⟨qbxa0, qbxa1⟩ := H12.box2 3 rfl
  obtain ⟨qcg00, qcg01⟩ := H12.box2 1 rfl
  go_wp2_with fail
  refine (toD_T H12 ha hna).mono ?_
  rintro e w13 ⟨za, rfl, H13⟩
  clear H12
  clear qpa0 qpa1 qcw00 qcw01 qbxa0 qbxa1 qcg00 qcg01
  obtain ⟨qpa0, qpa1⟩ := H13.box2 9 rfl
  obtain ⟨qcw00, qcw01⟩ := H13.box2 6 rfl
  obtain ⟨qbxa0, qbxa1⟩ := H13.box2 4 rfl
  obtain ⟨qcg00, qcg01⟩ := H13.box2 2 rfl
  go_wp2_with fail
  refine (hi _ _ (H13.nums 0 rfl)).mono ?_
  rintro e w14 ⟨h0, rfl, ho, hbl⟩
  have H14 := H13.newN ho hbl
  clear ho hbl H13
  clear qpa0 qpa1 qcw00 qcw01 qbxa0 qbxa1 qcg00 qcg01
  obtain ⟨qpa0, qpa1⟩ := H14.box2 10 rfl
  obtain ⟨qcw00, qcw01⟩ := H14.box2 7 rfl
  obtain ⟨qbxa0, qbxa1⟩ := H14.box2 5 rfl
  obtain ⟨qcg00, qcg01⟩ := H14.box2 3 rfl
  obtain ⟨h0p, h0c, rfl, _, _⟩ := (H14.nums 0 rfl).slice
  have HB14 := H14.boxed 47 [.slice h0p G0.length h0c, .int .i64 dm0]
  clear H14
  clear qpa0 qpa1 qcw00 qcw01 qbxa0 qbxa1 qcg00 qcg01
  obtain ⟨qpa0, qpa1⟩ := HB14.box2 11 rfl
  obtain ⟨qcw00, qcw01⟩ := HB14.box2 8 rfl
  obtain ⟨qbxa0, qbxa1⟩ := HB14.box2 6 rfl
  obtain ⟨qcg00, qcg01⟩ := HB14.box2 4 rfl
  obtain ⟨qch00, qch01⟩ := HB14.box2 0 rfl
  go_wp2_with fail
  refine (eqD_T HB14 (HB14.nums 1 rfl) (HB14.nums 9 rfl)).mono ?_
  rintro e w15 ⟨rfl, H15⟩
  clear HB14
  clear qpa0 qpa1 qcw00 qcw01 qbxa0 qbxa1 qcg00 qcg01 qch00 qch01
  obtain ⟨qpa0, qpa1⟩ := H15.box2 11 rfl
  obtain ⟨qcw00, qcw01⟩ := H15.box2 8 rfl
  obtain ⟨qbxa0, qbxa1⟩ := H15.box2 6 rfl
  obtain ⟨qcg00, qcg01⟩ := H15.box2 4 rfl
  obtain ⟨qch00, qch01⟩ := H15.box2 0 rfl
  go_wp2_with fail
  refine (heldD_T H15 5 rfl (by omega) (by omega) hm).mono ?_
  rintro e w16 ⟨rfl, H16⟩
  clear H15
  clear qpa0 qpa1 qcw00 qcw01 qbxa0 qbxa1 qcg00 qcg01 qch00 qch01
  obtain ⟨qpa0, qpa1⟩ := H16.box2 11 rfl
  obtain ⟨qcw00, qcw01⟩ := H16.box2 8 rfl
  obtain ⟨qbxa0, qbxa1⟩ := H16.box2 6 rfl
  obtain ⟨qcg00, qcg01⟩ := H16.box2 4 rfl
  obtain ⟨qch00, qch01⟩ := H16.box2 0 rfl
  go_wp2
  go_ret
  exact ⟨rfl, H16.below⟩

theorem FnExactInsertAt_walk (va : Value) (a : List Int) (am : Int) (b : Int) (c : Int) (w : World) (ha : Nums w va a) (ham : -9223372036854775808 ≤ am ∧ am ≤ 9223372036854775807) (hb : -9223372036854775808 ≤ b ∧ b ≤ 9223372036854775807) (hc : -9223372036854775808 ≤ c ∧ c ≤ 9223372036854775807) :
    Calls Try.prog 20 #[.agg #[va, .int .i64 am], .int .i64 b, .int .i64 c] w fun e w' => e = .returned (.bool true) ∧ Below w.heap.size w w' :=
  FnExactInsertAt_gen va a am b c w ha ham hb hc _ _ _ (is_le a am (clp b a.length) c) (fun va' w' h => sInsertAt_any va' a am b c w' h hb hc) (fun va' w' h => InsertAt_any va' a am b c w' h hb hc)

set_option maxRecDepth 100000 in
theorem FnExactInsertAt_lifted (os : Os) (started : os.Started) (H : Type) (enc : TypeId × Value → H) :
    ReturnsInHanded {} Try.checked os 20 .any (Rows.fnExactInsertAtSpec.pre6 enc Try.prog Try.f20 Rows.fnExactInsertAtRow.domain false) (Rows.fnExactInsertAtSpec.post enc Try.prog Try.f20 false true false false) := by
  refine returnsInHanded_of_change (C := Try.checked) own started (by kernel_rfl) Try.func20
    (ChangeSpec.witness6 (enc := enc) (C := Try.checked) false ⟨#[], #[.agg #[.slice none 0 0, .int .i64 0], .int .i64 0, .int .i64 0], []⟩ 8 (by kernel_rfl) (by kernel_rfl) (by kernel_rfl) (by kernel_rfl)) ?_
  intro W base args ds gs before hval0 hW _ _
  have hval : ∀ (j : Nat) t v, Try.f20.params[j]? = some t → args[j]? = some v → Value.okWide Try.prog W .any base t v := hval0
  have hW' := hW
  obtain ⟨p, q, hA0, hV, rfl, _, _⟩ := hW
  have hA : DataW.TrodAll enc Try.prog W 0 (fun _ => true) true Try.f20.params.toList args.toList ds p := hA0
  rw [Try.params20] at hA hval
  obtain ⟨v0, vs0, d0, ds0, p0, q0, hargs, rfl, rfl, h0, r0⟩ := trodAll_cons hA
  obtain ⟨v1, vs1, d1, ds1, p1, q1, rfl, rfl, rfl, h1, r1⟩ := trodAll_cons r0
  obtain ⟨v2, vs2, d2, ds2, p2, q2, rfl, rfl, rfl, h2, r2⟩ := trodAll_cons r1
  obtain ⟨rfl, rfl, rfl⟩ := trodAll_nil r2
  obtain rfl : args = #[v0, v1, v2] := by cases args; simp_all
  obtain ⟨rfl, rfl⟩ := trodVars_none hV
  obtain ⟨u0, xs0, m0, rfl, hI0, hm0⟩ := open_deque (hval 0 _ v0 rfl rfl) h0
  obtain ⟨n1, rfl, _, _, hI1⟩ := open_int Try.underlying3 (hval 1 _ v1 rfl rfl) h1
  obtain ⟨n2, rfl, _, _, hI2⟩ := open_int Try.underlying3 (hval 2 _ v2 rfl rfl) h2
  refine (FnExactInsertAt_walk u0 xs0 m0 n1 n2 W hI0 hm0 (wf_i64_bd hI1) (wf_i64_bd hI2)).mono fun e W' ⟨he, hb⟩ => ⟨_, he, ?_⟩
  exact law_end rfl (by rw [Try.params20]; decide +kernel) rfl hW' rfl rfl rfl hb

theorem FnExactInsertAt_facts : joinedFacts Try.prog 20 Try.f20 Rows.fnExactInsertAtSpec Rows.fnExactInsertAtRow = true :=
  facts_of (by kernel_rfl) q2 q3 (by kernel_rfl) (by kernel_rfl) (by kernel_rfl) q7 (by kernel_rfl) q9 (by kernel_rfl) (by kernel_rfl) (by kernel_rfl) (by kernel_rfl) (by kernel_rfl) (by kernel_rfl) (by kernel_rfl) (by kernel_rfl) (by kernel_rfl) (by kernel_rfl) (by kernel_rfl) (by kernel_rfl) (by kernel_rfl)
    (by rw [q22]; kernel_rfl) (by kernel_rfl) q23 head_enter (by kernel_rfl) head_lifts head_make (by kernel_rfl) (by kernel_rfl) (by kernel_rfl) (by kernel_rfl) (by kernel_rfl)

theorem FnExactInsertAt_holds : Rows.FnExactInsertAtSaid :=
  OpenClaim.holds_of_wide 20 Try.f20 rfl rfl rfl rfl rfl rfl rfl ⟨rfl, rfl, rfl, rfl, rfl⟩ rfl rfl rfl rfl rfl (by kernel_rfl) Try.func20 FnExactInsertAt_facts
    (of_decide_eq_true (by kernel_rfl)) (by unfold Func.isWrapper; first | (rw [if_pos (by decide +kernel)]; kernel_rfl) | (rw [if_neg (by decide +kernel)]; exact ⟨rfl, rfl⟩))
    (fun os started H enc _ => FnExactInsertAt_lifted os started H enc)
end Go.Proofs.Ytigiliakcmpekaa
