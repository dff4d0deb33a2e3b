/-
  FnExactNewChild: true, for every argument.
-/
import Derived.Test.YtfocobgceelnoaaOpen
import Derived.Deep.RegionHeld3
import Derived.Test.YtfocobgceelnoaaNcS
import Derived.Test.YtfocobgceelnoaaThingT
import Derived.Test.YtfocobgceelnoaaOpenM
import Derived.Test.YtfocobgceelnoaaChnO
namespace Go.Proofs.Ytfocobgceelnoaa
open Go.ChangeShapes Go.WideShapes Go.ChangeAt Go.RowKit Go.Deep
open Go.ChangeMaps (open_string)

set_option maxHeartbeats 4000000 in
set_option maxRecDepth 100000 in
theorem FnExactNewChild_gen (va : Value) (a : List (List Itm)) (vb : Value) (b : List Itm) (w : World) (ha : Maps w va a) (hb : Items w vb b) (G0 : List (List Itm)) (K1 : Bool) (hG : tot G0 ≤ 10000000) 
    (hs : ∀ va' vb' w', Maps w' va' a → Items w' vb' b → b.length ≤ 1048576 → Calls Try.prog 15 #[.agg #[va'], vb'] w' (NewMR (fun v => .tuple #[.agg #[v], .bool K1]) G0 w'))
    (hi : ∀ va' vb' w', Maps w' va' a → Items w' vb' b → b.length ≤ 1048576 → Calls Try.prog 18 #[.agg #[va'], vb'] w' (NewM (fun v => .tuple #[.agg #[v], .bool K1]) G0 w')) :
    Calls Try.prog 3 #[.agg #[va], vb] w fun e w' => e = .returned (.bool true) ∧ Below w.heap.size w w' := by
  have H := Things.nil w
  go_enter Try.func3, Try.ntmps3
  have HB0 := H.boxed 24 [va]
  clear H
  have qpa0 := HB0.box1 0 rfl
  go_wp2_with fail
  refine (szM_T HB0 ha (by omega) (by omega)).mono ?_
  rintro e w1 ⟨ra, rfl, hua, hla, H1⟩
  clear HB0
  clear qpa0
  have qpa0 := H1.box1 0 rfl
  by_cases hra : ra < 0
  · go_wp2
    go_ret
    exact ⟨rfl, H1.below⟩
  have hna := hla hra
  clear hla
  go_wp2_with fail
  refine (sz_T H1 hb (by omega) hua).mono ?_
  rintro e w2 ⟨rb, rfl, hub, hlb, H2⟩
  clear H1
  clear qpa0
  have qpa0 := H2.box1 0 rfl
  by_cases hrb : rb < 0
  · go_wp2
    go_ret
    exact ⟨rfl, H2.below⟩
  have hnb := hlb hrb
  clear hlb
  go_wp2_with fail
  refine (toM_T H2 ha hna.1 hna.2).mono ?_
  rintro e w3 ⟨sa, rfl, H3⟩
  clear H2
  clear qpa0
  have qpa0 := H3.box1 1 rfl
  go_wp2_with fail
  refine (to_T H3 hb hnb).mono ?_
  rintro e w4 ⟨sb, rfl, H4⟩
  clear H3
  clear qpa0
  have qpa0 := H4.box1 2 rfl
  go_wp2_with fail
  refine (hs _ _ _ (H4.mapsO 1 rfl) (H4.items 0 rfl) (by omega)).mono ?_
  rintro e w5 ⟨w0, rfl, ho, hbl⟩
  have H5 := H4.newMR ho hbl
  clear ho hbl H4
  clear qpa0
  have qpa0 := H5.box1 3 rfl
  obtain ⟨w0p, w0c, rfl, _, _⟩ := (H5.mapsR 0 rfl).slice
  have HB5 := H5.boxed 30 [.slice w0p G0.length w0c]
  clear H5
  clear qpa0
  have qpa0 := HB5.box1 4 rfl
  have qcw00 := HB5.box1 0 rfl
  go_wp2_with fail
  refine (toM_T HB5 ha hna.1 hna.2).mono ?_
  rintro e w6 ⟨xa, rfl, H6⟩
  clear HB5
  clear qpa0 qcw00
  have qpa0 := H6.box1 5 rfl
  have qcw00 := H6.box1 1 rfl
  obtain ⟨xap, xac, rfl, _, _⟩ := (H6.mapsO 0 rfl).slice
  have HB6 := H6.boxed 30 [.slice xap a.length xac]
  clear H6
  clear qpa0 qcw00
  have qpa0 := HB6.box1 6 rfl
  have qcw00 := HB6.box1 2 rfl
  have qbxa0 := HB6.box1 0 rfl
  go_wp2_with fail
  refine (to_T HB6 hb hnb).mono ?_
  rintro e w7 ⟨xb, rfl, H7⟩
  clear HB6
  clear qpa0 qcw00 qbxa0
  have qpa0 := H7.box1 7 rfl
  have qcw00 := H7.box1 3 rfl
  have qbxa0 := H7.box1 1 rfl
  go_wp2_with fail
  refine (hi _ _ _ (H7.mapsO 2 rfl) (H7.items 0 rfl) (by omega)).mono ?_
  rintro e w8 ⟨g0, rfl, ho, hbl⟩
  have H8 := H7.newM ho hbl
  clear ho hbl H7
  clear qpa0 qcw00 qbxa0
  have qpa0 := H8.box1 8 rfl
  have qcw00 := H8.box1 4 rfl
  have qbxa0 := H8.box1 2 rfl
  obtain ⟨g0p, g0c, rfl, _, _⟩ := (H8.mapsO 0 rfl).slice
  have HB8 := H8.boxed 30 [.slice g0p G0.length g0c]
  clear H8
  clear qpa0 qcw00 qbxa0
  have qpa0 := HB8.box1 9 rfl
  have qcw00 := HB8.box1 5 rfl
  have qbxa0 := HB8.box1 3 rfl
  have qcg00 := HB8.box1 0 rfl
  go_wp2_with fail
  refine (eqM_T HB8 (HB8.mapsO 1 rfl) (HB8.mapsR 6 rfl)).mono ?_
  rintro e w9 ⟨rfl, H9⟩
  clear HB8
  clear qpa0 qcw00 qbxa0 qcg00
  have qpa0 := H9.box1 9 rfl
  have qcw00 := H9.box1 5 rfl
  have qbxa0 := H9.box1 3 rfl
  have qcg00 := H9.box1 0 rfl
  go_wp2_with fail
  have HD9 := H9.quiet (Below.refl _ _).drew
  go_region_held3 (fun w' : World => (w'.cell? ⟨w6.heap.size, 0, none⟩ = some (.slice xap a.length xac)) ∧ (w'.cell? ⟨w.heap.size, 0, none⟩ = some (va)))
    (first | exact ⟨H9.box1 3 rfl, H9.box1 9 rfl⟩ | assumption | exact hS10 | exact hS11)
    (first
      | (go_at_call 16; refine (toM_T HD9 ha hna.1 hna.2).mono ?_; rintro e w10 ⟨ya, rfl, H10⟩; have hS10 := And.intro (H10.box1 4 rfl) (H10.box1 10 rfl))
      | (go_at_call 19; refine (eqM_T H10 (H10.mapsO 5 rfl) (H10.mapsO 0 rfl)).mono ?_; rintro e w11 ⟨rfl, H11⟩; have hS11 := And.intro (H11.box1 4 rfl) (H11.box1 10 rfl)))
  clear H9 HD9 H10 hS10 hS11
  clear qpa0 qcw00 qbxa0 qcg00
  have qpa0 := H11.box1 10 rfl
  have qcw00 := H11.box1 6 rfl
  have qbxa0 := H11.box1 4 rfl
  have qcg00 := H11.box1 1 rfl
  go_wp2_with fail
  refine (to_T H11 hb hnb).mono ?_
  rintro e w12 ⟨yb, rfl, H12⟩
  clear H11
  clear qpa0 qcw00 qbxa0 qcg00
  have qpa0 := H12.box1 11 rfl
  have qcw00 := H12.box1 7 rfl
  have qbxa0 := H12.box1 5 rfl
  have qcg00 := H12.box1 2 rfl
  go_wp2_with fail
  refine (eqIr_T H12 (H12.items 4 rfl) (H12.items 0 rfl)).mono ?_
  rintro e w13 ⟨rfl, H13⟩
  clear H12
  clear qpa0 qcw00 qbxa0 qcg00
  have qpa0 := H13.box1 11 rfl
  have qcw00 := H13.box1 7 rfl
  have qbxa0 := H13.box1 5 rfl
  have qcg00 := H13.box1 2 rfl
  go_wp2_with fail
  refine (markM_T H13 6 1 rfl (by omega) (by omega)).mono ?_
  rintro e w14 ⟨ka, rfl, hpa, hka, H14⟩
  clear H13
  clear qpa0 qcw00 qbxa0 qcg00
  have qpa0 := H14.box1 11 rfl
  have qcw00 := H14.box1 7 rfl
  have qbxa0 := H14.box1 5 rfl
  have qcg00 := H14.box1 2 rfl
  have hka' : ka ≤ 5000000 := by have := hka.out; omega
  have hka'' : 0 < ka := by have := hka.out; omega
  clear hpa
  go_wp2_with fail
  refine (mark_T H14 4 ka rfl (by omega) (by omega)).mono ?_
  rintro e w15 ⟨kb, rfl, hpb, hkb, H15⟩
  clear H14
  clear qpa0 qcw00 qbxa0 qcg00
  have qpa0 := H15.box1 11 rfl
  have qcw00 := H15.box1 7 rfl
  have qbxa0 := H15.box1 5 rfl
  have qcg00 := H15.box1 2 rfl
  have hkb' : kb ≤ 10000000 := by have := hkb.out; omega
  have hkb'' : 0 < kb := by have := hkb.out; omega
  go_wp2_with fail
  refine (eqM_T H15 (H15.mapsO 3 rfl) (H15.mapsR 8 rfl)).mono ?_
  rintro e w16 ⟨rfl, H16⟩
  clear H15
  clear qpa0 qcw00 qbxa0 qcg00
  have qpa0 := H16.box1 11 rfl
  have qcw00 := H16.box1 7 rfl
  have qbxa0 := H16.box1 5 rfl
  have qcg00 := H16.box1 2 rfl
  go_wp2_with fail
  refine (markM_T H16 3 1 rfl (by omega) (by omega)).mono ?_
  rintro e w17 ⟨m, rfl, hpm, hm, H17⟩
  clear H16
  clear qpa0 qcw00 qbxa0 qcg00
  have qpa0 := H17.box1 11 rfl
  have qcw00 := H17.box1 7 rfl
  have qbxa0 := H17.box1 5 rfl
  have qcg00 := H17.box1 2 rfl
  go_wp2_with fail
  refine (heldM_T H17 3 rfl (by omega) (by omega) hm).mono ?_
  rintro e w18 ⟨rfl, H18⟩
  clear H17
  clear qpa0 qcw00 qbxa0 qcg00
  have qpa0 := H18.box1 11 rfl
  have qcw00 := H18.box1 7 rfl
  have qbxa0 := H18.box1 5 rfl
  have qcg00 := H18.box1 2 rfl
  go_wp2_with fail
  refine (toM_T H18 ha hna.1 hna.2).mono ?_
  rintro e w19 ⟨za, rfl, H19⟩
  clear H18
  clear qpa0 qcw00 qbxa0 qcg00
  have qpa0 := H19.box1 12 rfl
  have qcw00 := H19.box1 8 rfl
  have qbxa0 := H19.box1 6 rfl
  have qcg00 := H19.box1 3 rfl
  go_wp2_with fail
  refine (to_T H19 hb hnb).mono ?_
  rintro e w20 ⟨zb, rfl, H20⟩
  clear H19
  clear qpa0 qcw00 qbxa0 qcg00
  have qpa0 := H20.box1 13 rfl
  have qcw00 := H20.box1 9 rfl
  have qbxa0 := H20.box1 7 rfl
  have qcg00 := H20.box1 4 rfl
  go_wp2_with fail
  refine (hi _ _ _ (H20.mapsO 1 rfl) (H20.items 0 rfl) (by omega)).mono ?_
  rintro e w21 ⟨h0, rfl, ho, hbl⟩
  have H21 := H20.newM ho hbl
  clear ho hbl H20
  clear qpa0 qcw00 qbxa0 qcg00
  have qpa0 := H21.box1 14 rfl
  have qcw00 := H21.box1 10 rfl
  have qbxa0 := H21.box1 8 rfl
  have qcg00 := H21.box1 5 rfl
  obtain ⟨h0p, h0c, rfl, _, _⟩ := (H21.mapsO 0 rfl).slice
  have HB21 := H21.boxed 30 [.slice h0p G0.length h0c]
  clear H21
  clear qpa0 qcw00 qbxa0 qcg00
  have qpa0 := HB21.box1 15 rfl
  have qcw00 := HB21.box1 11 rfl
  have qbxa0 := HB21.box1 9 rfl
  have qcg00 := HB21.box1 6 rfl
  have qch00 := HB21.box1 0 rfl
  go_wp2_with fail
  refine (eqM_T HB21 (HB21.mapsO 1 rfl) (HB21.mapsR 12 rfl)).mono ?_
  rintro e w22 ⟨rfl, H22⟩
  clear HB21
  clear qpa0 qcw00 qbxa0 qcg00 qch00
  have qpa0 := H22.box1 15 rfl
  have qcw00 := H22.box1 11 rfl
  have qbxa0 := H22.box1 9 rfl
  have qcg00 := H22.box1 6 rfl
  have qch00 := H22.box1 0 rfl
  go_wp2_with fail
  refine (heldM_T H22 7 rfl (by omega) (by omega) hm).mono ?_
  rintro e w23 ⟨rfl, H23⟩
  clear H22
  clear qpa0 qcw00 qbxa0 qcg00 qch00
  have qpa0 := H23.box1 15 rfl
  have qcw00 := H23.box1 11 rfl
  have qbxa0 := H23.box1 9 rfl
  have qcg00 := H23.box1 6 rfl
  have qch00 := H23.box1 0 rfl
  go_wp2
  go_ret
  exact ⟨rfl, H23.below⟩

theorem FnExactNewChild_walk (va : Value) (a : List (List Itm)) (vb : Value) (b : List Itm) (w : World) (ha : Maps w va a) (hb : Items w vb b) :
    Calls Try.prog 3 #[.agg #[va], vb] w fun e w' => e = .returned (.bool true) ∧ Below w.heap.size w w' :=
  FnExactNewChild_gen va a vb b w ha hb _ _ (nc_le a b) (fun va' vb' w' h h' h0 => (sNewChild_any va' vb' a b w' h h' h0).mono fun _ _ h => h.weak) (fun va' vb' w' h h' h0 => NewChild_any va' vb' a b w' h h' h0)

set_option maxRecDepth 100000 in
theorem FnExactNewChild_lifted (os : Os) (started : os.Started) (H : Type) (enc : TypeId × Value → H) :
    ReturnsInHanded {} Try.checked os 3 .any (Rows.fnExactNewChildSpec.pre6 enc Try.prog Try.f3 Rows.fnExactNewChildRow.domain false) (Rows.fnExactNewChildSpec.post enc Try.prog Try.f3 false true false false) := by
  refine returnsInHanded_of_change (C := Try.checked) own started (by kernel_rfl) Try.func3
    (ChangeSpec.witness6 (enc := enc) (C := Try.checked) false ⟨#[], #[.agg #[.slice none 0 0], .slice none 0 0], []⟩ 8 (by kernel_rfl) (by kernel_rfl) (by kernel_rfl) (by kernel_rfl)) ?_
  intro W base args ds gs before hval0 hW _ _
  have hval : ∀ (j : Nat) t v, Try.f3.params[j]? = some t → args[j]? = some v → Value.okWide Try.prog W .any base t v := hval0
  have hW' := hW
  obtain ⟨p, q, hA0, hV, rfl, _, _⟩ := hW
  have hA : DataW.TrodAll enc Try.prog W 0 (fun _ => true) true Try.f3.params.toList args.toList ds p := hA0
  rw [Try.params3] at hA hval
  obtain ⟨v0, vs0, d0, ds0, p0, q0, hargs, rfl, rfl, h0, r0⟩ := trodAll_cons hA
  obtain ⟨v1, vs1, d1, ds1, p1, q1, rfl, rfl, rfl, h1, r1⟩ := trodAll_cons r0
  obtain ⟨rfl, rfl, rfl⟩ := trodAll_nil r1
  obtain rfl : args = #[v0, v1] := by cases args; simp_all
  obtain ⟨rfl, rfl⟩ := trodVars_none hV
  obtain ⟨u0, xs0, rfl, hI0⟩ := open_chain (hval 0 _ v0 rfl rfl) h0
  obtain ⟨xs1, hI1⟩ := open_items (hval 1 _ v1 rfl rfl) h1
  refine (FnExactNewChild_walk u0 xs0 v1 xs1 W hI0 hI1).mono fun e W' ⟨he, hb⟩ => ⟨_, he, ?_⟩
  exact law_end rfl (by rw [Try.params3]; decide +kernel) rfl hW' rfl rfl rfl hb

theorem FnExactNewChild_facts : joinedFacts Try.prog 3 Try.f3 Rows.fnExactNewChildSpec Rows.fnExactNewChildRow = true :=
  facts_of (by kernel_rfl) q2 q3 (by kernel_rfl) (by kernel_rfl) (by kernel_rfl) q7 (by kernel_rfl) q9 (by kernel_rfl) (by kernel_rfl) (by kernel_rfl) (by kernel_rfl) (by kernel_rfl) (by kernel_rfl) (by kernel_rfl) (by kernel_rfl) (by kernel_rfl) (by kernel_rfl) (by kernel_rfl) (by kernel_rfl) (by kernel_rfl)
    (by rw [q22]; kernel_rfl) (by kernel_rfl) q23 head_enter (by kernel_rfl) head_lifts head_make (by kernel_rfl) (by kernel_rfl) (by kernel_rfl) (by kernel_rfl) (by kernel_rfl)

theorem FnExactNewChild_holds : Rows.FnExactNewChildSaid :=
  OpenClaim.holds_of_wide 3 Try.f3 rfl rfl rfl rfl rfl rfl rfl ⟨rfl, rfl, rfl, rfl, rfl⟩ rfl rfl rfl rfl rfl (by kernel_rfl) Try.func3 FnExactNewChild_facts
    (of_decide_eq_true (by kernel_rfl)) (by unfold Func.isWrapper; first | (rw [if_pos (by decide +kernel)]; kernel_rfl) | (rw [if_neg (by decide +kernel)]; exact ⟨rfl, rfl⟩))
    (fun os started H enc _ => FnExactNewChild_lifted os started H enc)
end Go.Proofs.Ytfocobgceelnoaa
