/-
  FnExactChainGet: true, for every argument.
-/
import Derived.Test.YtojepjpmegbdmaaOpen
import Derived.Deep.RegionHeld3
import Derived.Test.YtojepjpmegbdmaaCGet
import Derived.Test.YtojepjpmegbdmaaOpenM
namespace Go.Proofs.Ytojepjpmegbdmaa
open Go.ChangeShapes Go.WideShapes Go.ChangeAt Go.RowKit Go.Deep
open Go.ChangeMaps (open_string)

set_option maxHeartbeats 4000000 in
set_option maxRecDepth 100000 in
theorem FnExactChainGet_gen (va : Value) (a : List (List Itm)) (b : ByteArray) (w : World) (ha : Maps w va a) (hb : b.size ≤ 9223372036854775807) (K0 : Int) (K1 : Bool) 
    (hs : ∀ va' w', Maps w' va' a → Calls Try.prog 32 #[.agg #[va'], .string b] w' (RetQ (.tuple #[.int .i64 K0, .bool K1]) w'))
    (hi : ∀ va' w', Maps w' va' a → Calls Try.prog 33 #[.agg #[va'], .string b] w' (RetQ (.tuple #[.int .i64 K0, .bool K1]) w')) :
    Calls Try.prog 5 #[.agg #[va], .string b] w fun e w' => e = .returned (.bool true) ∧ Below w.heap.size w w' := by
  have H := Things.nil w
  go_enter Try.func5, Try.ntmps5
  have HB0 := H.boxed 24 [va]
  clear H
  have qpa0 := HB0.box1 0 rfl
  by_cases hzb : 1048576 < b.size
  · have hzb' : (1048576 : Int) < (b.size : Int) := by omega
    go_wp2
    go_ret
    exact ⟨rfl, HB0.below⟩
  have hzb' : ¬ ((1048576 : Int) < (b.size : Int)) := by omega
  go_wp2_with fail
  refine (szM_T HB0 ha (by omega) (by omega)).mono ?_
  rintro e w1 ⟨ra, rfl, hua, hla, H1⟩
  clear HB0
  clear qpa0
  have qpa0 := H1.box1 0 rfl
  by_cases hra : ra < 0
  · go_wp2
    go_ret
    exact ⟨rfl, H1.below⟩
  have hna := hla hra
  clear hla
  go_wp2_with fail
  refine (toM_T H1 ha hna.1 hna.2).mono ?_
  rintro e w2 ⟨sa, rfl, H2⟩
  clear H1
  clear qpa0
  have qpa0 := H2.box1 1 rfl
  go_wp2_with fail
  refine (hs _ _ (H2.mapsO 0 rfl)).mono ?_
  rintro e w3 ⟨rfl, hbl⟩
  have H3 := H2.quiet hbl
  clear hbl H2
  clear qpa0
  have qpa0 := H3.box1 1 rfl
  go_wp2_with fail
  refine (toM_T H3 ha hna.1 hna.2).mono ?_
  rintro e w4 ⟨xa, rfl, H4⟩
  clear H3
  clear qpa0
  have qpa0 := H4.box1 2 rfl
  obtain ⟨xap, xac, rfl, _, _⟩ := (H4.mapsO 0 rfl).slice
  have HB4 := H4.boxed 29 [.slice xap a.length xac]
  clear H4
  clear qpa0
  have qpa0 := HB4.box1 3 rfl
  have qbxa0 := HB4.box1 0 rfl
  go_wp2_with fail
  refine (hi _ _ (HB4.mapsO 1 rfl)).mono ?_
  rintro e w5 ⟨rfl, hbl⟩
  have H5 := HB4.quiet hbl
  clear hbl HB4
  clear qpa0 qbxa0
  have qpa0 := H5.box1 3 rfl
  have qbxa0 := H5.box1 0 rfl
  go_wp2_with fail
  have HD5 := H5.quiet (Below.refl _ _).drew
  go_region_held3 (fun w' : World => (w'.cell? ⟨w4.heap.size, 0, none⟩ = some (.slice xap a.length xac)) ∧ (w'.cell? ⟨w.heap.size, 0, none⟩ = some (va)))
    (first | exact ⟨H5.box1 0 rfl, H5.box1 3 rfl⟩ | assumption | exact hS6 | exact hS7)
    (first
      | (go_at_call 27; refine (toM_T HD5 ha hna.1 hna.2).mono ?_; rintro e w6 ⟨ya, rfl, H6⟩; have hS6 := And.intro (H6.box1 1 rfl) (H6.box1 4 rfl))
      | (go_at_call 29; refine (eqM_T H6 (H6.mapsO 2 rfl) (H6.mapsO 0 rfl)).mono ?_; rintro e w7 ⟨rfl, H7⟩; have hS7 := And.intro (H7.box1 1 rfl) (H7.box1 4 rfl)))
  clear H5 HD5 H6 hS6 hS7
  clear qpa0 qbxa0
  have qpa0 := H7.box1 4 rfl
  have qbxa0 := H7.box1 1 rfl
  go_wp2
  go_ret
  exact ⟨rfl, H7.below⟩

theorem FnExactChainGet_walk (va : Value) (a : List (List Itm)) (b : ByteArray) (w : World) (ha : Maps w va a) (hb : b.size ≤ 9223372036854775807) :
    Calls Try.prog 5 #[.agg #[va], .string b] w fun e w' => e = .returned (.bool true) ∧ Below w.heap.size w w' :=
  FnExactChainGet_gen va a b w ha hb _ _ (fun va' w' h => sChainGet_any va' a b w' h) (fun va' w' h => ChainGet_any va' a b w' h)

set_option maxRecDepth 100000 in
theorem FnExactChainGet_lifted (os : Os) (started : os.Started) (H : Type) (enc : TypeId × Value → H) :
    ReturnsInHanded {} Try.checked os 5 .any (Rows.fnExactChainGetSpec.pre6 enc Try.prog Try.f5 Rows.fnExactChainGetRow.domain false) (Rows.fnExactChainGetSpec.post enc Try.prog Try.f5 false true false false) := by
  refine returnsInHanded_of_change (C := Try.checked) own started (by kernel_rfl) Try.func5
    (ChangeSpec.witness6 (enc := enc) (C := Try.checked) false ⟨#[], #[.agg #[.slice none 0 0], .string ⟨#[]⟩], []⟩ 8 (by kernel_rfl) (by kernel_rfl) (by kernel_rfl) (by kernel_rfl)) ?_
  intro W base args ds gs before hval0 hW _ _
  have hval : ∀ (j : Nat) t v, Try.f5.params[j]? = some t → args[j]? = some v → Value.okWide Try.prog W .any base t v := hval0
  have hW' := hW
  obtain ⟨p, q, hA0, hV, rfl, _, _⟩ := hW
  have hA : DataW.TrodAll enc Try.prog W 0 (fun _ => true) true Try.f5.params.toList args.toList ds p := hA0
  rw [Try.params5] at hA hval
  obtain ⟨v0, vs0, d0, ds0, p0, q0, hargs, rfl, rfl, h0, r0⟩ := trodAll_cons hA
  obtain ⟨v1, vs1, d1, ds1, p1, q1, rfl, rfl, rfl, h1, r1⟩ := trodAll_cons r0
  obtain ⟨rfl, rfl, rfl⟩ := trodAll_nil r1
  obtain rfl : args = #[v0, v1] := by cases args; simp_all
  obtain ⟨rfl, rfl⟩ := trodVars_none hV
  obtain ⟨u0, xs0, rfl, hI0⟩ := open_chain (hval 0 _ v0 rfl rfl) h0
  obtain ⟨s1, rfl, _, _, hI1⟩ := open_string Try.underlying9 (hval 1 _ v1 rfl rfl) h1
  refine (FnExactChainGet_walk u0 xs0 s1 W hI0 (by unfold maxLen at hI1; exact hI1)).mono fun e W' ⟨he, hb⟩ => ⟨_, he, ?_⟩
  exact law_end rfl (by rw [Try.params5]; decide +kernel) rfl hW' rfl rfl rfl hb

theorem FnExactChainGet_facts : joinedFacts Try.prog 5 Try.f5 Rows.fnExactChainGetSpec Rows.fnExactChainGetRow = true :=
  facts_of (by kernel_rfl) q2 q3 (by kernel_rfl) (by kernel_rfl) (by kernel_rfl) q7 (by kernel_rfl) q9 (by kernel_rfl) (by kernel_rfl) (by kernel_rfl) (by kernel_rfl) (by kernel_rfl) (by kernel_rfl) (by kernel_rfl) (by kernel_rfl) (by kernel_rfl) (by kernel_rfl) (by kernel_rfl) (by kernel_rfl) (by kernel_rfl)
    (by rw [q22]; kernel_rfl) (by kernel_rfl) q23 head_enter (by kernel_rfl) head_lifts head_make (by kernel_rfl) (by kernel_rfl) (by kernel_rfl) (by kernel_rfl) (by kernel_rfl)

theorem FnExactChainGet_holds : Rows.FnExactChainGetSaid :=
  OpenClaim.holds_of_wide 5 Try.f5 rfl rfl rfl rfl rfl rfl rfl ⟨rfl, rfl, rfl, rfl, rfl⟩ rfl rfl rfl rfl rfl (by kernel_rfl) Try.func5 FnExactChainGet_facts
    (of_decide_eq_true (by kernel_rfl)) (by unfold Func.isWrapper; first | (rw [if_pos (by decide +kernel)]; kernel_rfl) | (rw [if_neg (by decide +kernel)]; exact ⟨rfl, rfl⟩))
    (fun os started H enc _ => FnExactChainGet_lifted os started H enc)
end Go.Proofs.Ytojepjpmegbdmaa
