/-
  FnExactStoreItem: true, for every argument.
-/
import Derived.Test.YtojepjpmegbdmaaOpen
import Derived.Test.YtojepjpmegbdmaaObjs
import Derived.Test.YtojepjpmegbdmaaNew
import Derived.Test.YtojepjpmegbdmaaObjsC
import Derived.Test.YtojepjpmegbdmaaOpenC
import Derived.Deep.RegionHeld3
import Derived.Test.YtojepjpmegbdmaaStoreS
namespace Go.Proofs.Ytojepjpmegbdmaa
open Go.ChangeShapes Go.WideShapes Go.ChangeAt Go.RowKit Go.Deep
open Go.ChangeMaps (open_string)

set_option maxHeartbeats 4000000 in
set_option maxRecDepth 100000 in
theorem FnExactStoreItem_gen (va : Value) (a : List Itm) (am ag az : Int) (b : ByteArray) (c : Int) (w : World) (ha : Items w va a) (_ham : -9223372036854775808 ≤ am ∧ am ≤ 9223372036854775807) (_hag : -9223372036854775808 ≤ ag ∧ ag ≤ 9223372036854775807) (_haz : -9223372036854775808 ≤ az ∧ az ≤ 9223372036854775807) (hb : b.size ≤ 9223372036854775807) (_hc : -9223372036854775808 ≤ c ∧ c ≤ 9223372036854775807) (G0 : List Itm) (cm0 cg0 cz0 : Int) (K1 : Bool) (hG : G0.length ≤ 10000000) 
    (hs : ∀ va' w', Items w' va' a → Calls Try.prog 73 #[.agg #[va', .int .i64 am, .int .i64 ag, .int .i64 az], .string b, .int .i64 c] w' (NewW (fun v => .tuple #[.agg #[v, .int .i64 cm0, .int .i64 cg0, .int .i64 cz0], .bool K1]) G0 w'))
    (hi : ∀ va' w', Items w' va' a → Calls Try.prog 75 #[.agg #[va', .int .i64 am, .int .i64 ag, .int .i64 az], .string b, .int .i64 c] w' (NewL (fun v => .tuple #[.agg #[v, .int .i64 cm0, .int .i64 cg0, .int .i64 cz0], .bool K1]) G0 w')) :
    Calls Try.prog 20 #[.agg #[va, .int .i64 am, .int .i64 ag, .int .i64 az], .string b, .int .i64 c] w fun e w' => e = .returned (.bool true) ∧ Below w.heap.size w w' := by
  have H := Objs.nil w
  go_enter Try.func20, Try.ntmps20
  have HB0 := H.boxed 64 [va, .int .i64 am, .int .i64 ag, .int .i64 az]
  clear H
  obtain ⟨qpa0, qpa1, qpa2, qpa3⟩ := HB0.box4 0 rfl
  by_cases hzb : 1048576 < b.size
  · have hzb' : (1048576 : Int) < (b.size : Int) := by omega
    go_wp2
    go_ret
    exact ⟨rfl, HB0.below⟩
  have hzb' : ¬ ((1048576 : Int) < (b.size : Int)) := by omega
  go_wp2_with fail
  refine (szC_obj HB0 ha (by omega) (by omega)).mono ?_
  rintro e w1 ⟨ra, rfl, hua, hla, H1⟩
  clear HB0
  clear qpa0 qpa1 qpa2 qpa3
  obtain ⟨qpa0, qpa1, qpa2, qpa3⟩ := H1.box4 0 rfl
  by_cases hra : ra < 0
  · go_wp2
    go_ret
    exact ⟨rfl, H1.below⟩
  have hna := (hla hra).1
  clear hla
  go_wp2_with fail
  refine (toC_obj H1 ha hna).mono ?_
  rintro e w2 ⟨sa, rfl, H2⟩
  clear H1
  clear qpa0 qpa1 qpa2 qpa3
  obtain ⟨qpa0, qpa1, qpa2, qpa3⟩ := H2.box4 1 rfl
  go_wp2_with fail
  refine (hs _ _ (H2.items 0 rfl)).mono ?_
  rintro e w3 ⟨w0, V0, ys0, rfl, ho, hv0, hbl⟩
  have H3 := H2.newI ho hbl
  clear ho hbl H2
  clear qpa0 qpa1 qpa2 qpa3
  obtain ⟨qpa0, qpa1, qpa2, qpa3⟩ := H3.box4 2 rfl
  obtain ⟨w0p, w0c, rfl, _, _, _, _⟩ := hv0.out _ (H3.items 0 rfl)
  have HB3 := H3.boxed 67 [.slice w0p G0.length w0c, .int .i64 cm0, .int .i64 cg0, .int .i64 cz0]
  clear H3
  clear qpa0 qpa1 qpa2 qpa3
  obtain ⟨qpa0, qpa1, qpa2, qpa3⟩ := HB3.box4 3 rfl
  obtain ⟨qcw00, qcw01, qcw02, qcw03⟩ := HB3.box4 0 rfl
  go_wp2_with fail
  refine (toC_obj HB3 ha hna).mono ?_
  rintro e w4 ⟨xa, rfl, H4⟩
  clear HB3
  clear qpa0 qpa1 qpa2 qpa3 qcw00 qcw01 qcw02 qcw03
  obtain ⟨qpa0, qpa1, qpa2, qpa3⟩ := H4.box4 4 rfl
  obtain ⟨qcw00, qcw01, qcw02, qcw03⟩ := H4.box4 1 rfl
  obtain ⟨xap, xac, rfl, _, _, _, _⟩ := (H4.items 0 rfl)
  have HB4 := H4.boxed 67 [.slice xap a.length xac, .int .i64 am, .int .i64 ag, .int .i64 az]
  clear H4
  clear qpa0 qpa1 qpa2 qpa3 qcw00 qcw01 qcw02 qcw03
  obtain ⟨qpa0, qpa1, qpa2, qpa3⟩ := HB4.box4 5 rfl
  obtain ⟨qcw00, qcw01, qcw02, qcw03⟩ := HB4.box4 2 rfl
  obtain ⟨qbxa0, qbxa1, qbxa2, qbxa3⟩ := HB4.box4 0 rfl
  go_wp2_with fail
  refine (hi _ _ (HB4.items 1 rfl)).mono ?_
  rintro e w5 ⟨g0, rfl, ho, hbl⟩
  have H5 := HB4.newI ho hbl
  clear ho hbl HB4
  clear qpa0 qpa1 qpa2 qpa3 qcw00 qcw01 qcw02 qcw03 qbxa0 qbxa1 qbxa2 qbxa3
  obtain ⟨qpa0, qpa1, qpa2, qpa3⟩ := H5.box4 6 rfl
  obtain ⟨qcw00, qcw01, qcw02, qcw03⟩ := H5.box4 3 rfl
  obtain ⟨qbxa0, qbxa1, qbxa2, qbxa3⟩ := H5.box4 1 rfl
  obtain ⟨g0p, g0c, rfl, _, _, _, _⟩ := (H5.items 0 rfl)
  have HB5 := H5.boxed 67 [.slice g0p G0.length g0c, .int .i64 cm0, .int .i64 cg0, .int .i64 cz0]
  clear H5
  clear qpa0 qpa1 qpa2 qpa3 qcw00 qcw01 qcw02 qcw03 qbxa0 qbxa1 qbxa2 qbxa3
  obtain ⟨qpa0, qpa1, qpa2, qpa3⟩ := HB5.box4 7 rfl
  obtain ⟨qcw00, qcw01, qcw02, qcw03⟩ := HB5.box4 4 rfl
  obtain ⟨qbxa0, qbxa1, qbxa2, qbxa3⟩ := HB5.box4 2 rfl
  obtain ⟨qcg00, qcg01, qcg02, qcg03⟩ := HB5.box4 0 rfl
  go_wp2_with fail
  refine (eqC_obj HB5 1 5 rfl rfl hv0).mono ?_
  rintro e w6 ⟨rfl, H6⟩
  clear HB5
  clear qpa0 qpa1 qpa2 qpa3 qcw00 qcw01 qcw02 qcw03 qbxa0 qbxa1 qbxa2 qbxa3 qcg00 qcg01 qcg02 qcg03
  obtain ⟨qpa0, qpa1, qpa2, qpa3⟩ := H6.box4 7 rfl
  obtain ⟨qcw00, qcw01, qcw02, qcw03⟩ := H6.box4 4 rfl
  obtain ⟨qbxa0, qbxa1, qbxa2, qbxa3⟩ := H6.box4 2 rfl
  obtain ⟨qcg00, qcg01, qcg02, qcg03⟩ := H6.box4 0 rfl
  go_wp2_with fail
  have HD6 := H6.quiet (Below.refl _ _).drew
  go_region_held3 (fun w' : World => (w'.cell? ⟨w4.heap.size, 0, none⟩ = some (.slice xap a.length xac) ∧ w'.cell? ⟨w4.heap.size, 1, none⟩ = some (.int .i64 am) ∧ w'.cell? ⟨w4.heap.size, 2, none⟩ = some (.int .i64 ag) ∧ w'.cell? ⟨w4.heap.size, 3, none⟩ = some (.int .i64 az)) ∧ (w'.cell? ⟨w.heap.size, 0, none⟩ = some (va) ∧ w'.cell? ⟨w.heap.size, 1, none⟩ = some (.int .i64 am) ∧ w'.cell? ⟨w.heap.size, 2, none⟩ = some (.int .i64 ag) ∧ w'.cell? ⟨w.heap.size, 3, none⟩ = some (.int .i64 az)))
    (first | exact ⟨H6.box4 2 rfl, H6.box4 7 rfl⟩ | assumption | exact hS7 | exact hS8)
    (first
      | (go_at_call 74; refine (toC_obj HD6 ha hna).mono ?_; rintro e w7 ⟨ya, rfl, H7⟩; have hS7 := And.intro (H7.box4 3 rfl) (H7.box4 8 rfl))
      | (go_at_call 76; refine (eqC_obj H7 4 0 rfl rfl (Lib.hid fun _ h => h)).mono ?_; rintro e w8 ⟨rfl, H8⟩; have hS8 := And.intro (H8.box4 3 rfl) (H8.box4 8 rfl)))
  clear H6 HD6 H7 hS7 hS8
  clear qpa0 qpa1 qpa2 qpa3 qcw00 qcw01 qcw02 qcw03 qbxa0 qbxa1 qbxa2 qbxa3 qcg00 qcg01 qcg02 qcg03
  obtain ⟨qpa0, qpa1, qpa2, qpa3⟩ := H8.box4 8 rfl
  obtain ⟨qcw00, qcw01, qcw02, qcw03⟩ := H8.box4 5 rfl
  obtain ⟨qbxa0, qbxa1, qbxa2, qbxa3⟩ := H8.box4 3 rfl
  obtain ⟨qcg00, qcg01, qcg02, qcg03⟩ := H8.box4 1 rfl
  go_wp2_with fail
  refine (markC_obj H8 4 1 rfl (by omega) (by omega)).mono ?_
  rintro e w9 ⟨ka, rfl, hpa, hka, H9⟩
  clear H8
  clear qpa0 qpa1 qpa2 qpa3 qcw00 qcw01 qcw02 qcw03 qbxa0 qbxa1 qbxa2 qbxa3 qcg00 qcg01 qcg02 qcg03
  obtain ⟨qpa0, qpa1, qpa2, qpa3⟩ := H9.box4 8 rfl
  obtain ⟨qcw00, qcw01, qcw02, qcw03⟩ := H9.box4 5 rfl
  obtain ⟨qbxa0, qbxa1, qbxa2, qbxa3⟩ := H9.box4 3 rfl
  obtain ⟨qcg00, qcg01, qcg02, qcg03⟩ := H9.box4 1 rfl
  have hka' : ka ≤ 5000000 := by have := hka.out; omega
  have hka'' : 0 < ka := by have := hka.out; omega
  go_wp2_with fail
  refine (eqC_obj H9 2 6 rfl rfl hv0).mono ?_
  rintro e w10 ⟨rfl, H10⟩
  clear H9
  clear qpa0 qpa1 qpa2 qpa3 qcw00 qcw01 qcw02 qcw03 qbxa0 qbxa1 qbxa2 qbxa3 qcg00 qcg01 qcg02 qcg03
  obtain ⟨qpa0, qpa1, qpa2, qpa3⟩ := H10.box4 8 rfl
  obtain ⟨qcw00, qcw01, qcw02, qcw03⟩ := H10.box4 5 rfl
  obtain ⟨qbxa0, qbxa1, qbxa2, qbxa3⟩ := H10.box4 3 rfl
  obtain ⟨qcg00, qcg01, qcg02, qcg03⟩ := H10.box4 1 rfl
  go_wp2_with fail
  refine (markC_obj H10 2 1 rfl (by omega) (by omega)).mono ?_
  rintro e w11 ⟨m, rfl, hpm, hm, H11⟩
  clear H10
  clear qpa0 qpa1 qpa2 qpa3 qcw00 qcw01 qcw02 qcw03 qbxa0 qbxa1 qbxa2 qbxa3 qcg00 qcg01 qcg02 qcg03
  obtain ⟨qpa0, qpa1, qpa2, qpa3⟩ := H11.box4 8 rfl
  obtain ⟨qcw00, qcw01, qcw02, qcw03⟩ := H11.box4 5 rfl
  obtain ⟨qbxa0, qbxa1, qbxa2, qbxa3⟩ := H11.box4 3 rfl
  obtain ⟨qcg00, qcg01, qcg02, qcg03⟩ := H11.box4 1 rfl
  go_wp2_with fail
  refine (heldC_obj H11 2 rfl (by omega) (by omega) hm).mono ?_
  rintro e w12 ⟨rfl, H12⟩
  clear H11
  clear qpa0 qpa1 qpa2 qpa3 qcw00 qcw01 qcw02 qcw03 qbxa0 qbxa1 qbxa2 qbxa3 qcg00 qcg01 qcg02 qcg03
  obtain ⟨qpa0, qpa1, qpa2, qpa3⟩ := H12.box4 8 rfl
  obtain ⟨qcw00, qcw01, qcw02, qcw03⟩ := H12.box4 5 rfl
  obtain ⟨qbxa0, qbxa1, qbxa2, qbxa3⟩ := H12.box4 3 rfl
  obtain ⟨qcg00, qcg01, qcg02, qcg03⟩ := H12.box4 1 rfl
  go_wp2_with fail
  refine (toC_obj H12 ha hna).mono ?_
  rintro e w13 ⟨za, rfl, H13⟩
  clear H12
  clear qpa0 qpa1 qpa2 qpa3 qcw00 qcw01 qcw02 qcw03 qbxa0 qbxa1 qbxa2 qbxa3 qcg00 qcg01 qcg02 qcg03
  obtain ⟨qpa0, qpa1, qpa2, qpa3⟩ := H13.box4 9 rfl
  obtain ⟨qcw00, qcw01, qcw02, qcw03⟩ := H13.box4 6 rfl
  obtain ⟨qbxa0, qbxa1, qbxa2, qbxa3⟩ := H13.box4 4 rfl
  obtain ⟨qcg00, qcg01, qcg02, qcg03⟩ := H13.box4 2 rfl
  go_wp2_with fail
  refine (hi _ _ (H13.items 0 rfl)).mono ?_
  rintro e w14 ⟨h0, rfl, ho, hbl⟩
  have H14 := H13.newI ho hbl
  clear ho hbl H13
  clear qpa0 qpa1 qpa2 qpa3 qcw00 qcw01 qcw02 qcw03 qbxa0 qbxa1 qbxa2 qbxa3 qcg00 qcg01 qcg02 qcg03
  obtain ⟨qpa0, qpa1, qpa2, qpa3⟩ := H14.box4 10 rfl
  obtain ⟨qcw00, qcw01, qcw02, qcw03⟩ := H14.box4 7 rfl
  obtain ⟨qbxa0, qbxa1, qbxa2, qbxa3⟩ := H14.box4 5 rfl
  obtain ⟨qcg00, qcg01, qcg02, qcg03⟩ := H14.box4 3 rfl
  obtain ⟨h0p, h0c, rfl, _, _, _, _⟩ := (H14.items 0 rfl)
  have HB14 := H14.boxed 67 [.slice h0p G0.length h0c, .int .i64 cm0, .int .i64 cg0, .int .i64 cz0]
  clear H14
  clear qpa0 qpa1 qpa2 qpa3 qcw00 qcw01 qcw02 qcw03 qbxa0 qbxa1 qbxa2 qbxa3 qcg00 qcg01 qcg02 qcg03
  obtain ⟨qpa0, qpa1, qpa2, qpa3⟩ := HB14.box4 11 rfl
  obtain ⟨qcw00, qcw01, qcw02, qcw03⟩ := HB14.box4 8 rfl
  obtain ⟨qbxa0, qbxa1, qbxa2, qbxa3⟩ := HB14.box4 6 rfl
  obtain ⟨qcg00, qcg01, qcg02, qcg03⟩ := HB14.box4 4 rfl
  obtain ⟨qch00, qch01, qch02, qch03⟩ := HB14.box4 0 rfl
  go_wp2_with fail
  refine (eqC_obj HB14 1 9 rfl rfl hv0).mono ?_
  rintro e w15 ⟨rfl, H15⟩
  clear HB14
  clear qpa0 qpa1 qpa2 qpa3 qcw00 qcw01 qcw02 qcw03 qbxa0 qbxa1 qbxa2 qbxa3 qcg00 qcg01 qcg02 qcg03 qch00 qch01 qch02 qch03
  obtain ⟨qpa0, qpa1, qpa2, qpa3⟩ := H15.box4 11 rfl
  obtain ⟨qcw00, qcw01, qcw02, qcw03⟩ := H15.box4 8 rfl
  obtain ⟨qbxa0, qbxa1, qbxa2, qbxa3⟩ := H15.box4 6 rfl
  obtain ⟨qcg00, qcg01, qcg02, qcg03⟩ := H15.box4 4 rfl
  obtain ⟨qch00, qch01, qch02, qch03⟩ := H15.box4 0 rfl
  go_wp2_with fail
  refine (heldC_obj H15 5 rfl (by omega) (by omega) hm).mono ?_
  rintro e w16 ⟨rfl, H16⟩
  clear H15
  clear qpa0 qpa1 qpa2 qpa3 qcw00 qcw01 qcw02 qcw03 qbxa0 qbxa1 qbxa2 qbxa3 qcg00 qcg01 qcg02 qcg03 qch00 qch01 qch02 qch03
  obtain ⟨qpa0, qpa1, qpa2, qpa3⟩ := H16.box4 11 rfl
  obtain ⟨qcw00, qcw01, qcw02, qcw03⟩ := H16.box4 8 rfl
  obtain ⟨qbxa0, qbxa1, qbxa2, qbxa3⟩ := H16.box4 6 rfl
  obtain ⟨qcg00, qcg01, qcg02, qcg03⟩ := H16.box4 4 rfl
  obtain ⟨qch00, qch01, qch02, qch03⟩ := H16.box4 0 rfl
  go_wp2
  go_ret
  exact ⟨rfl, H16.below⟩

theorem FnExactStoreItem_walk (va : Value) (a : List Itm) (am ag az : Int) (b : ByteArray) (c : Int) (w : World) (ha : Items w va a) (ham : -9223372036854775808 ≤ am ∧ am ≤ 9223372036854775807) (hag : -9223372036854775808 ≤ ag ∧ ag ≤ 9223372036854775807) (haz : -9223372036854775808 ≤ az ∧ az ≤ 9223372036854775807) (hb : b.size ≤ 9223372036854775807) (hc : -9223372036854775808 ≤ c ∧ c ≤ 9223372036854775807) :
    Calls Try.prog 20 #[.agg #[va, .int .i64 am, .int .i64 ag, .int .i64 az], .string b, .int .i64 c] w fun e w' => e = .returned (.bool true) ∧ Below w.heap.size w w' :=
  FnExactStoreItem_gen va a am ag az b c w ha ham hag haz hb hc _ _ _ _ _ (so_le a am ag az b c) (fun va' w' h => sStoreItem_any va' a am ag az b c w' h hb hc) (fun va' w' h => StoreItem_any va' a am ag az b c w' h hb hc)

set_option maxRecDepth 100000 in
theorem FnExactStoreItem_lifted (os : Os) (started : os.Started) (H : Type) (enc : TypeId × Value → H) :
    ReturnsInHanded {} Try.checked os 20 .any (Rows.fnExactStoreItemSpec.pre6 enc Try.prog Try.f20 Rows.fnExactStoreItemRow.domain false) (Rows.fnExactStoreItemSpec.post enc Try.prog Try.f20 false true false false) := by
  refine returnsInHanded_of_change (C := Try.checked) own started (by kernel_rfl) Try.func20
    (ChangeSpec.witness6 (enc := enc) (C := Try.checked) false ⟨#[], #[.agg #[.slice none 0 0, .int .i64 0, .int .i64 0, .int .i64 0], .string ⟨#[]⟩, .int .i64 0], []⟩ 8 (by kernel_rfl) (by kernel_rfl) (by kernel_rfl) (by kernel_rfl)) ?_
  intro W base args ds gs before hval0 hW _ _
  have hval : ∀ (j : Nat) t v, Try.f20.params[j]? = some t → args[j]? = some v → Value.okWide Try.prog W .any base t v := hval0
  have hW' := hW
  obtain ⟨p, q, hA0, hV, rfl, _, _⟩ := hW
  have hA : DataW.TrodAll enc Try.prog W 0 (fun _ => true) true Try.f20.params.toList args.toList ds p := hA0
  rw [Try.params20] at hA hval
  obtain ⟨v0, vs0, d0, ds0, p0, q0, hargs, rfl, rfl, h0, r0⟩ := trodAll_cons hA
  obtain ⟨v1, vs1, d1, ds1, p1, q1, rfl, rfl, rfl, h1, r1⟩ := trodAll_cons r0
  obtain ⟨v2, vs2, d2, ds2, p2, q2, rfl, rfl, rfl, h2, r2⟩ := trodAll_cons r1
  obtain ⟨rfl, rfl, rfl⟩ := trodAll_nil r2
  obtain rfl : args = #[v0, v1, v2] := by cases args; simp_all
  obtain ⟨rfl, rfl⟩ := trodVars_none hV
  obtain ⟨u0, xs0, m0, g0, t0, rfl, hI0, hm0, hg0, ht0⟩ := open_cache (hval 0 _ v0 rfl rfl) h0
  obtain ⟨s1, rfl, _, _, hI1⟩ := open_string Try.underlying9 (hval 1 _ v1 rfl rfl) h1
  obtain ⟨n2, rfl, _, _, hI2⟩ := open_int Try.underlying3 (hval 2 _ v2 rfl rfl) h2
  refine (FnExactStoreItem_walk u0 xs0 m0 g0 t0 s1 n2 W hI0 hm0 hg0 ht0 (by unfold maxLen at hI1; exact hI1) (wf_i64_bd hI2)).mono fun e W' ⟨he, hb⟩ => ⟨_, he, ?_⟩
  exact law_end rfl (by rw [Try.params20]; decide +kernel) rfl hW' rfl rfl rfl hb

theorem FnExactStoreItem_facts : joinedFacts Try.prog 20 Try.f20 Rows.fnExactStoreItemSpec Rows.fnExactStoreItemRow = true :=
  facts_of (by kernel_rfl) q2 q3 (by kernel_rfl) (by kernel_rfl) (by kernel_rfl) q7 (by kernel_rfl) q9 (by kernel_rfl) (by kernel_rfl) (by kernel_rfl) (by kernel_rfl) (by kernel_rfl) (by kernel_rfl) (by kernel_rfl) (by kernel_rfl) (by kernel_rfl) (by kernel_rfl) (by kernel_rfl) (by kernel_rfl) (by kernel_rfl)
    (by rw [q22]; kernel_rfl) (by kernel_rfl) q23 head_enter (by kernel_rfl) head_lifts head_make (by kernel_rfl) (by kernel_rfl) (by kernel_rfl) (by kernel_rfl) (by kernel_rfl)

theorem FnExactStoreItem_holds : Rows.FnExactStoreItemSaid :=
  OpenClaim.holds_of_wide 20 Try.f20 rfl rfl rfl rfl rfl rfl rfl ⟨rfl, rfl, rfl, rfl, rfl⟩ rfl rfl rfl rfl rfl (by kernel_rfl) Try.func20 FnExactStoreItem_facts
    (of_decide_eq_true (by kernel_rfl)) (by unfold Func.isWrapper; first | (rw [if_pos (by decide +kernel)]; kernel_rfl) | (rw [if_neg (by decide +kernel)]; exact ⟨rfl, rfl⟩))
    (fun os started H enc _ => FnExactStoreItem_lifted os started H enc)
end Go.Proofs.Ytojepjpmegbdmaa
