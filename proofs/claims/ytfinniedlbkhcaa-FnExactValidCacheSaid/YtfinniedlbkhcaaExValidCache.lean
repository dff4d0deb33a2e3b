/-
  FnExactValidCache: true, for every argument.
-/
import Derived.Test.YtfinniedlbkhcaaOpen
import Derived.Test.YtfinniedlbkhcaaObjs
import Derived.Test.YtfinniedlbkhcaaNew
import Derived.Test.YtfinniedlbkhcaaObjsC
import Derived.Test.YtfinniedlbkhcaaOpenC
import Derived.Deep.RegionHeld3
import Derived.Test.YtfinniedlbkhcaaVCache
namespace Go.Proofs.Ytfinniedlbkhcaa
open Go.ChangeShapes Go.WideShapes Go.ChangeAt Go.RowKit Go.Deep
open Go.ChangeMaps (open_string)

set_option maxHeartbeats 4000000 in
set_option maxRecDepth 100000 in
theorem FnExactValidCache_gen (va : Value) (a : List Itm) (am ag az : Int) (w : World) (ha : Items w va a) (_ham : -9223372036854775808 ≤ am ∧ am ≤ 9223372036854775807) (_hag : -9223372036854775808 ≤ ag ∧ ag ≤ 9223372036854775807) (_haz : -9223372036854775808 ≤ az ∧ az ≤ 9223372036854775807) (K0 : Bool) 
    (hs : ∀ va' w', Items w' va' a → Calls Try.prog 64 #[.agg #[va', .int .i64 am, .int .i64 ag, .int .i64 az]] w' (RetQ (.bool K0) w'))
    (hi : ∀ va' w', Items w' va' a → Calls Try.prog 66 #[.agg #[va', .int .i64 am, .int .i64 ag, .int .i64 az]] w' (RetQ (.bool K0) w')) :
    Calls Try.prog 18 #[.agg #[va, .int .i64 am, .int .i64 ag, .int .i64 az]] w fun e w' => e = .returned (.bool true) ∧ Below w.heap.size w w' := by
  have H := Objs.nil w
  go_enter Try.func18, Try.ntmps18
  have HB0 := H.boxed 61 [va, .int .i64 am, .int .i64 ag, .int .i64 az]
  clear H
  obtain ⟨qpa0, qpa1, qpa2, qpa3⟩ := HB0.box4 0 rfl
  go_wp2_with fail
  refine (szC_obj HB0 ha (by omega) (by omega)).mono ?_
  rintro e w1 ⟨ra, rfl, hua, hla, H1⟩
  clear HB0
  clear qpa0 qpa1 qpa2 qpa3
  obtain ⟨qpa0, qpa1, qpa2, qpa3⟩ := H1.box4 0 rfl
  by_cases hra : ra < 0
  · go_wp2
    go_ret
    exact ⟨rfl, H1.below⟩
  have hna := (hla hra).1
  clear hla
  go_wp2_with fail
  refine (toC_obj H1 ha hna).mono ?_
  rintro e w2 ⟨sa, rfl, H2⟩
  clear H1
  clear qpa0 qpa1 qpa2 qpa3
  obtain ⟨qpa0, qpa1, qpa2, qpa3⟩ := H2.box4 1 rfl
  go_wp2_with fail
  refine (hs _ _ (H2.items 0 rfl)).mono ?_
  rintro e w3 ⟨rfl, hbl⟩
  have H3 := H2.quiet hbl
  clear hbl H2
  clear qpa0 qpa1 qpa2 qpa3
  obtain ⟨qpa0, qpa1, qpa2, qpa3⟩ := H3.box4 1 rfl
  go_wp2_with fail
  refine (toC_obj H3 ha hna).mono ?_
  rintro e w4 ⟨xa, rfl, H4⟩
  clear H3
  clear qpa0 qpa1 qpa2 qpa3
  obtain ⟨qpa0, qpa1, qpa2, qpa3⟩ := H4.box4 2 rfl
  obtain ⟨xap, xac, rfl, _, _, _, _⟩ := (H4.items 0 rfl)
  have HB4 := H4.boxed 65 [.slice xap a.length xac, .int .i64 am, .int .i64 ag, .int .i64 az]
  clear H4
  clear qpa0 qpa1 qpa2 qpa3
  obtain ⟨qpa0, qpa1, qpa2, qpa3⟩ := HB4.box4 3 rfl
  obtain ⟨qbxa0, qbxa1, qbxa2, qbxa3⟩ := HB4.box4 0 rfl
  go_wp2_with fail
  refine (hi _ _ (HB4.items 1 rfl)).mono ?_
  rintro e w5 ⟨rfl, hbl⟩
  have H5 := HB4.quiet hbl
  clear hbl HB4
  clear qpa0 qpa1 qpa2 qpa3 qbxa0 qbxa1 qbxa2 qbxa3
  obtain ⟨qpa0, qpa1, qpa2, qpa3⟩ := H5.box4 3 rfl
  obtain ⟨qbxa0, qbxa1, qbxa2, qbxa3⟩ := H5.box4 0 rfl
  go_wp2_with fail
  have HD5 := H5.quiet (Below.refl _ _).drew
  go_region_held3 (fun w' : World => (w'.cell? ⟨w4.heap.size, 0, none⟩ = some (.slice xap a.length xac) ∧ w'.cell? ⟨w4.heap.size, 1, none⟩ = some (.int .i64 am) ∧ w'.cell? ⟨w4.heap.size, 2, none⟩ = some (.int .i64 ag) ∧ w'.cell? ⟨w4.heap.size, 3, none⟩ = some (.int .i64 az)) ∧ (w'.cell? ⟨w.heap.size, 0, none⟩ = some (va) ∧ w'.cell? ⟨w.heap.size, 1, none⟩ = some (.int .i64 am) ∧ w'.cell? ⟨w.heap.size, 2, none⟩ = some (.int .i64 ag) ∧ w'.cell? ⟨w.heap.size, 3, none⟩ = some (.int .i64 az)))
    (first | exact ⟨H5.box4 0 rfl, H5.box4 3 rfl⟩ | assumption | exact hS6 | exact hS7)
    (first
      | (go_at_call 65; refine (toC_obj HD5 ha hna).mono ?_; rintro e w6 ⟨ya, rfl, H6⟩; have hS6 := And.intro (H6.box4 1 rfl) (H6.box4 4 rfl))
      | (go_at_call 67; refine (eqC_obj H6 2 0 rfl rfl (Lib.hid fun _ h => h)).mono ?_; rintro e w7 ⟨rfl, H7⟩; have hS7 := And.intro (H7.box4 1 rfl) (H7.box4 4 rfl)))
  clear H5 HD5 H6 hS6 hS7
  clear qpa0 qpa1 qpa2 qpa3 qbxa0 qbxa1 qbxa2 qbxa3
  obtain ⟨qpa0, qpa1, qpa2, qpa3⟩ := H7.box4 4 rfl
  obtain ⟨qbxa0, qbxa1, qbxa2, qbxa3⟩ := H7.box4 1 rfl
  go_wp2
  go_ret
  exact ⟨rfl, H7.below⟩

theorem FnExactValidCache_walk (va : Value) (a : List Itm) (am ag az : Int) (w : World) (ha : Items w va a) (ham : -9223372036854775808 ≤ am ∧ am ≤ 9223372036854775807) (hag : -9223372036854775808 ≤ ag ∧ ag ≤ 9223372036854775807) (haz : -9223372036854775808 ≤ az ∧ az ≤ 9223372036854775807) :
    Calls Try.prog 18 #[.agg #[va, .int .i64 am, .int .i64 ag, .int .i64 az]] w fun e w' => e = .returned (.bool true) ∧ Below w.heap.size w w' :=
  FnExactValidCache_gen va a am ag az w ha ham hag haz _ (fun _ w' h => sVC_v w' h rfl) (fun _ w' h => VC_v w' h rfl)

set_option maxRecDepth 100000 in
theorem FnExactValidCache_lifted (os : Os) (started : os.Started) (H : Type) (enc : TypeId × Value → H) :
    ReturnsInHanded {} Try.checked os 18 .any (Rows.fnExactValidCacheSpec.pre6 enc Try.prog Try.f18 Rows.fnExactValidCacheRow.domain false) (Rows.fnExactValidCacheSpec.post enc Try.prog Try.f18 false true false false) := by
  refine returnsInHanded_of_change (C := Try.checked) own started (by kernel_rfl) Try.func18
    (ChangeSpec.witness6 (enc := enc) (C := Try.checked) false ⟨#[], #[.agg #[.slice none 0 0, .int .i64 0, .int .i64 0, .int .i64 0]], []⟩ 8 (by kernel_rfl) (by kernel_rfl) (by kernel_rfl) (by kernel_rfl)) ?_
  intro W base args ds gs before hval0 hW _ _
  have hval : ∀ (j : Nat) t v, Try.f18.params[j]? = some t → args[j]? = some v → Value.okWide Try.prog W .any base t v := hval0
  have hW' := hW
  obtain ⟨p, q, hA0, hV, rfl, _, _⟩ := hW
  have hA : DataW.TrodAll enc Try.prog W 0 (fun _ => true) true Try.f18.params.toList args.toList ds p := hA0
  rw [Try.params18] at hA hval
  obtain ⟨v0, vs0, d0, ds0, p0, q0, hargs, rfl, rfl, h0, r0⟩ := trodAll_cons hA
  obtain ⟨rfl, rfl, rfl⟩ := trodAll_nil r0
  obtain rfl : args = #[v0] := by cases args; simp_all
  obtain ⟨rfl, rfl⟩ := trodVars_none hV
  obtain ⟨u0, xs0, m0, g0, t0, rfl, hI0, hm0, hg0, ht0⟩ := open_cache (hval 0 _ v0 rfl rfl) h0
  refine (FnExactValidCache_walk u0 xs0 m0 g0 t0 W hI0 hm0 hg0 ht0).mono fun e W' ⟨he, hb⟩ => ⟨_, he, ?_⟩
  exact law_end rfl (by rw [Try.params18]; decide +kernel) rfl hW' rfl rfl rfl hb

theorem FnExactValidCache_facts : joinedFacts Try.prog 18 Try.f18 Rows.fnExactValidCacheSpec Rows.fnExactValidCacheRow = true :=
  facts_of (by kernel_rfl) q2 q3 (by kernel_rfl) (by kernel_rfl) (by kernel_rfl) q7 (by kernel_rfl) q9 (by kernel_rfl) (by kernel_rfl) (by kernel_rfl) (by kernel_rfl) (by kernel_rfl) (by kernel_rfl) (by kernel_rfl) (by kernel_rfl) (by kernel_rfl) (by kernel_rfl) (by kernel_rfl) (by kernel_rfl) (by kernel_rfl)
    (by rw [q22]; kernel_rfl) (by kernel_rfl) q23 head_enter (by kernel_rfl) head_lifts head_make (by kernel_rfl) (by kernel_rfl) (by kernel_rfl) (by kernel_rfl) (by kernel_rfl)

theorem FnExactValidCache_holds : Rows.FnExactValidCacheSaid :=
  OpenClaim.holds_of_wide 18 Try.f18 rfl rfl rfl rfl rfl rfl rfl ⟨rfl, rfl, rfl, rfl, rfl⟩ rfl rfl rfl rfl rfl (by kernel_rfl) Try.func18 FnExactValidCache_facts
    (of_decide_eq_true (by kernel_rfl)) (by unfold Func.isWrapper; first | (rw [if_pos (by decide +kernel)]; kernel_rfl) | (rw [if_neg (by decide +kernel)]; exact ⟨rfl, rfl⟩))
    (fun os started H enc _ => FnExactValidCache_lifted os started H enc)
end Go.Proofs.Ytfinniedlbkhcaa
