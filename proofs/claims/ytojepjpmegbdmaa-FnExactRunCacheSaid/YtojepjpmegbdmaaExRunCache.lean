/-
  FnExactRunCache: true, for every argument.
-/
import Derived.Test.YtojepjpmegbdmaaOpen
import Derived.Test.YtojepjpmegbdmaaObjs
import Derived.Test.YtojepjpmegbdmaaNew
import Derived.Test.YtojepjpmegbdmaaObjsC
import Derived.Test.YtojepjpmegbdmaaOpenC
import Derived.Deep.RegionHeld3
import Derived.Test.YtojepjpmegbdmaaOpenT
import Derived.Test.YtojepjpmegbdmaaRunS
namespace Go.Proofs.Ytojepjpmegbdmaa
open Go.ChangeShapes Go.WideShapes Go.ChangeAt Go.RowKit Go.Deep
open Go.ChangeMaps (open_string)

set_option maxHeartbeats 4000000 in
set_option maxRecDepth 100000 in
theorem FnExactRunCache_gen (va : Value) (a : List Itm) (am ag az : Int) (vb : Value) (b : List ByteArray) (w : World) (ha : Items w va a) (_ham : -9223372036854775808 ≤ am ∧ am ≤ 9223372036854775807) (_hag : -9223372036854775808 ≤ ag ∧ ag ≤ 9223372036854775807) (_haz : -9223372036854775808 ≤ az ∧ az ≤ 9223372036854775807) (hb : Texts w vb b) (G0 : List Itm) (cm0 cg0 cz0 : Int) (K1 : Bool) (hG : G0.length ≤ 10000000) 
    (hs : ∀ va' vb' w', Items w' va' a → Texts w' vb' b → Calls Try.prog 80 #[.agg #[va', .int .i64 am, .int .i64 ag, .int .i64 az], vb'] w' (NewW (fun v => .tuple #[.agg #[v, .int .i64 cm0, .int .i64 cg0, .int .i64 cz0], .bool K1]) G0 w'))
    (hi : ∀ va' vb' w', Items w' va' a → Texts w' vb' b → Calls Try.prog 82 #[.agg #[va', .int .i64 am, .int .i64 ag, .int .i64 az], vb'] w' (NewL (fun v => .tuple #[.agg #[v, .int .i64 cm0, .int .i64 cg0, .int .i64 cz0], .bool K1]) G0 w')) :
    Calls Try.prog 21 #[.agg #[va, .int .i64 am, .int .i64 ag, .int .i64 az], vb] w fun e w' => e = .returned (.bool true) ∧ Below w.heap.size w w' := by
  have H := Objs.nil w
  go_enter Try.func21, Try.ntmps21
  have HB0 := H.boxed 64 [va, .int .i64 am, .int .i64 ag, .int .i64 az]
  clear H
  obtain ⟨qpa0, qpa1, qpa2, qpa3⟩ := HB0.box4 0 rfl
  go_wp2_with fail
  refine (szC_obj HB0 ha (by omega) (by omega)).mono ?_
  rintro e w1 ⟨ra, rfl, hua, hla, H1⟩
  clear HB0
  clear qpa0 qpa1 qpa2 qpa3
  obtain ⟨qpa0, qpa1, qpa2, qpa3⟩ := H1.box4 0 rfl
  by_cases hra : ra < 0
  · go_wp2
    go_ret
    exact ⟨rfl, H1.below⟩
  have hna := (hla hra).1
  clear hla
  go_wp2_with fail
  refine (szT_obj H1 hb (by omega) hua).mono ?_
  rintro e w2 ⟨rb, rfl, hub, hlb, H2⟩
  clear H1
  clear qpa0 qpa1 qpa2 qpa3
  obtain ⟨qpa0, qpa1, qpa2, qpa3⟩ := H2.box4 0 rfl
  by_cases hrb : rb < 0
  · go_wp2
    go_ret
    exact ⟨rfl, H2.below⟩
  have hnb := hlb hrb
  clear hlb
  go_wp2_with fail
  refine (toC_obj H2 ha hna).mono ?_
  rintro e w3 ⟨sa, rfl, H3⟩
  clear H2
  clear qpa0 qpa1 qpa2 qpa3
  obtain ⟨qpa0, qpa1, qpa2, qpa3⟩ := H3.box4 1 rfl
  go_wp2_with fail
  refine (toT_obj H3 hb hnb).mono ?_
  rintro e w4 ⟨sb, rfl, H4⟩
  clear H3
  clear qpa0 qpa1 qpa2 qpa3
  obtain ⟨qpa0, qpa1, qpa2, qpa3⟩ := H4.box4 2 rfl
  go_wp2_with fail
  refine (hs _ _ _ (H4.items 1 rfl) (H4.texts 0 rfl)).mono ?_
  rintro e w5 ⟨w0, V0, ys0, rfl, ho, hv0, hbl⟩
  have H5 := H4.newI ho hbl
  clear ho hbl H4
  clear qpa0 qpa1 qpa2 qpa3
  obtain ⟨qpa0, qpa1, qpa2, qpa3⟩ := H5.box4 3 rfl
  obtain ⟨w0p, w0c, rfl, _, _, _, _⟩ := hv0.out _ (H5.items 0 rfl)
  have HB5 := H5.boxed 67 [.slice w0p G0.length w0c, .int .i64 cm0, .int .i64 cg0, .int .i64 cz0]
  clear H5
  clear qpa0 qpa1 qpa2 qpa3
  obtain ⟨qpa0, qpa1, qpa2, qpa3⟩ := HB5.box4 4 rfl
  obtain ⟨qcw00, qcw01, qcw02, qcw03⟩ := HB5.box4 0 rfl
  go_wp2_with fail
  refine (toC_obj HB5 ha hna).mono ?_
  rintro e w6 ⟨xa, rfl, H6⟩
  clear HB5
  clear qpa0 qpa1 qpa2 qpa3 qcw00 qcw01 qcw02 qcw03
  obtain ⟨qpa0, qpa1, qpa2, qpa3⟩ := H6.box4 5 rfl
  obtain ⟨qcw00, qcw01, qcw02, qcw03⟩ := H6.box4 1 rfl
  obtain ⟨xap, xac, rfl, _, _, _, _⟩ := (H6.items 0 rfl)
  have HB6 := H6.boxed 67 [.slice xap a.length xac, .int .i64 am, .int .i64 ag, .int .i64 az]
  clear H6
  clear qpa0 qpa1 qpa2 qpa3 qcw00 qcw01 qcw02 qcw03
  obtain ⟨qpa0, qpa1, qpa2, qpa3⟩ := HB6.box4 6 rfl
  obtain ⟨qcw00, qcw01, qcw02, qcw03⟩ := HB6.box4 2 rfl
  obtain ⟨qbxa0, qbxa1, qbxa2, qbxa3⟩ := HB6.box4 0 rfl
  go_wp2_with fail
  refine (toT_obj HB6 hb hnb).mono ?_
  rintro e w7 ⟨xb, rfl, H7⟩
  clear HB6
  clear qpa0 qpa1 qpa2 qpa3 qcw00 qcw01 qcw02 qcw03 qbxa0 qbxa1 qbxa2 qbxa3
  obtain ⟨qpa0, qpa1, qpa2, qpa3⟩ := H7.box4 7 rfl
  obtain ⟨qcw00, qcw01, qcw02, qcw03⟩ := H7.box4 3 rfl
  obtain ⟨qbxa0, qbxa1, qbxa2, qbxa3⟩ := H7.box4 1 rfl
  go_wp2_with fail
  refine (hi _ _ _ (H7.items 2 rfl) (H7.texts 0 rfl)).mono ?_
  rintro e w8 ⟨g0, rfl, ho, hbl⟩
  have H8 := H7.newI ho hbl
  clear ho hbl H7
  clear qpa0 qpa1 qpa2 qpa3 qcw00 qcw01 qcw02 qcw03 qbxa0 qbxa1 qbxa2 qbxa3
  obtain ⟨qpa0, qpa1, qpa2, qpa3⟩ := H8.box4 8 rfl
  obtain ⟨qcw00, qcw01, qcw02, qcw03⟩ := H8.box4 4 rfl
  obtain ⟨qbxa0, qbxa1, qbxa2, qbxa3⟩ := H8.box4 2 rfl
  obtain ⟨g0p, g0c, rfl, _, _, _, _⟩ := (H8.items 0 rfl)
  have HB8 := H8.boxed 67 [.slice g0p G0.length g0c, .int .i64 cm0, .int .i64 cg0, .int .i64 cz0]
  clear H8
  clear qpa0 qpa1 qpa2 qpa3 qcw00 qcw01 qcw02 qcw03 qbxa0 qbxa1 qbxa2 qbxa3
  obtain ⟨qpa0, qpa1, qpa2, qpa3⟩ := HB8.box4 9 rfl
  obtain ⟨qcw00, qcw01, qcw02, qcw03⟩ := HB8.box4 5 rfl
  obtain ⟨qbxa0, qbxa1, qbxa2, qbxa3⟩ := HB8.box4 3 rfl
  obtain ⟨qcg00, qcg01, qcg02, qcg03⟩ := HB8.box4 0 rfl
  go_wp2_with fail
  refine (eqC_obj HB8 1 6 rfl rfl hv0).mono ?_
  rintro e w9 ⟨rfl, H9⟩
  clear HB8
  clear qpa0 qpa1 qpa2 qpa3 qcw00 qcw01 qcw02 qcw03 qbxa0 qbxa1 qbxa2 qbxa3 qcg00 qcg01 qcg02 qcg03
  obtain ⟨qpa0, qpa1, qpa2, qpa3⟩ := H9.box4 9 rfl
  obtain ⟨qcw00, qcw01, qcw02, qcw03⟩ := H9.box4 5 rfl
  obtain ⟨qbxa0, qbxa1, qbxa2, qbxa3⟩ := H9.box4 3 rfl
  obtain ⟨qcg00, qcg01, qcg02, qcg03⟩ := H9.box4 0 rfl
  go_wp2_with fail
  have HD9 := H9.quiet (Below.refl _ _).drew
  go_region_held3 (fun w' : World => (w'.cell? ⟨w6.heap.size, 0, none⟩ = some (.slice xap a.length xac) ∧ w'.cell? ⟨w6.heap.size, 1, none⟩ = some (.int .i64 am) ∧ w'.cell? ⟨w6.heap.size, 2, none⟩ = some (.int .i64 ag) ∧ w'.cell? ⟨w6.heap.size, 3, none⟩ = some (.int .i64 az)) ∧ (w'.cell? ⟨w.heap.size, 0, none⟩ = some (va) ∧ w'.cell? ⟨w.heap.size, 1, none⟩ = some (.int .i64 am) ∧ w'.cell? ⟨w.heap.size, 2, none⟩ = some (.int .i64 ag) ∧ w'.cell? ⟨w.heap.size, 3, none⟩ = some (.int .i64 az)))
    (first | exact ⟨H9.box4 3 rfl, H9.box4 9 rfl⟩ | assumption | exact hS10 | exact hS11)
    (first
      | (go_at_call 74; refine (toC_obj HD9 ha hna).mono ?_; rintro e w10 ⟨ya, rfl, H10⟩; have hS10 := And.intro (H10.box4 4 rfl) (H10.box4 10 rfl))
      | (go_at_call 76; refine (eqC_obj H10 5 0 rfl rfl (Lib.hid fun _ h => h)).mono ?_; rintro e w11 ⟨rfl, H11⟩; have hS11 := And.intro (H11.box4 4 rfl) (H11.box4 10 rfl)))
  clear H9 HD9 H10 hS10 hS11
  clear qpa0 qpa1 qpa2 qpa3 qcw00 qcw01 qcw02 qcw03 qbxa0 qbxa1 qbxa2 qbxa3 qcg00 qcg01 qcg02 qcg03
  obtain ⟨qpa0, qpa1, qpa2, qpa3⟩ := H11.box4 10 rfl
  obtain ⟨qcw00, qcw01, qcw02, qcw03⟩ := H11.box4 6 rfl
  obtain ⟨qbxa0, qbxa1, qbxa2, qbxa3⟩ := H11.box4 4 rfl
  obtain ⟨qcg00, qcg01, qcg02, qcg03⟩ := H11.box4 1 rfl
  go_wp2_with fail
  refine (toT_obj H11 hb hnb).mono ?_
  rintro e w12 ⟨yb, rfl, H12⟩
  clear H11
  clear qpa0 qpa1 qpa2 qpa3 qcw00 qcw01 qcw02 qcw03 qbxa0 qbxa1 qbxa2 qbxa3 qcg00 qcg01 qcg02 qcg03
  obtain ⟨qpa0, qpa1, qpa2, qpa3⟩ := H12.box4 11 rfl
  obtain ⟨qcw00, qcw01, qcw02, qcw03⟩ := H12.box4 7 rfl
  obtain ⟨qbxa0, qbxa1, qbxa2, qbxa3⟩ := H12.box4 5 rfl
  obtain ⟨qcg00, qcg01, qcg02, qcg03⟩ := H12.box4 2 rfl
  go_wp2_with fail
  refine (eqT_obj H12 4 0 rfl rfl).mono ?_
  rintro e w13 ⟨rfl, H13⟩
  clear H12
  clear qpa0 qpa1 qpa2 qpa3 qcw00 qcw01 qcw02 qcw03 qbxa0 qbxa1 qbxa2 qbxa3 qcg00 qcg01 qcg02 qcg03
  obtain ⟨qpa0, qpa1, qpa2, qpa3⟩ := H13.box4 11 rfl
  obtain ⟨qcw00, qcw01, qcw02, qcw03⟩ := H13.box4 7 rfl
  obtain ⟨qbxa0, qbxa1, qbxa2, qbxa3⟩ := H13.box4 5 rfl
  obtain ⟨qcg00, qcg01, qcg02, qcg03⟩ := H13.box4 2 rfl
  go_wp2_with fail
  refine (markC_obj H13 6 1 rfl (by omega) (by omega)).mono ?_
  rintro e w14 ⟨ka, rfl, hpa, hka, H14⟩
  clear H13
  clear qpa0 qpa1 qpa2 qpa3 qcw00 qcw01 qcw02 qcw03 qbxa0 qbxa1 qbxa2 qbxa3 qcg00 qcg01 qcg02 qcg03
  obtain ⟨qpa0, qpa1, qpa2, qpa3⟩ := H14.box4 11 rfl
  obtain ⟨qcw00, qcw01, qcw02, qcw03⟩ := H14.box4 7 rfl
  obtain ⟨qbxa0, qbxa1, qbxa2, qbxa3⟩ := H14.box4 5 rfl
  obtain ⟨qcg00, qcg01, qcg02, qcg03⟩ := H14.box4 2 rfl
  have hka' : ka ≤ 5000000 := by have := hka.out; omega
  have hka'' : 0 < ka := by have := hka.out; omega
  clear hpa
  go_wp2_with fail
  refine (markT_obj H14 4 ka rfl (by omega) (by omega)).mono ?_
  rintro e w15 ⟨kb, rfl, hpb, hkb, H15⟩
  clear H14
  clear qpa0 qpa1 qpa2 qpa3 qcw00 qcw01 qcw02 qcw03 qbxa0 qbxa1 qbxa2 qbxa3 qcg00 qcg01 qcg02 qcg03
  obtain ⟨qpa0, qpa1, qpa2, qpa3⟩ := H15.box4 11 rfl
  obtain ⟨qcw00, qcw01, qcw02, qcw03⟩ := H15.box4 7 rfl
  obtain ⟨qbxa0, qbxa1, qbxa2, qbxa3⟩ := H15.box4 5 rfl
  obtain ⟨qcg00, qcg01, qcg02, qcg03⟩ := H15.box4 2 rfl
  have hkb' : kb ≤ 10000000 := by have := hkb.out; omega
  have hkb'' : 0 < kb := by have := hkb.out; omega
  go_wp2_with fail
  refine (eqC_obj H15 3 8 rfl rfl hv0).mono ?_
  rintro e w16 ⟨rfl, H16⟩
  clear H15
  clear qpa0 qpa1 qpa2 qpa3 qcw00 qcw01 qcw02 qcw03 qbxa0 qbxa1 qbxa2 qbxa3 qcg00 qcg01 qcg02 qcg03
  obtain ⟨qpa0, qpa1, qpa2, qpa3⟩ := H16.box4 11 rfl
  obtain ⟨qcw00, qcw01, qcw02, qcw03⟩ := H16.box4 7 rfl
  obtain ⟨qbxa0, qbxa1, qbxa2, qbxa3⟩ := H16.box4 5 rfl
  obtain ⟨qcg00, qcg01, qcg02, qcg03⟩ := H16.box4 2 rfl
  go_wp2_with fail
  refine (markC_obj H16 3 1 rfl (by omega) (by omega)).mono ?_
  rintro e w17 ⟨m, rfl, hpm, hm, H17⟩
  clear H16
  clear qpa0 qpa1 qpa2 qpa3 qcw00 qcw01 qcw02 qcw03 qbxa0 qbxa1 qbxa2 qbxa3 qcg00 qcg01 qcg02 qcg03
  obtain ⟨qpa0, qpa1, qpa2, qpa3⟩ := H17.box4 11 rfl
  obtain ⟨qcw00, qcw01, qcw02, qcw03⟩ := H17.box4 7 rfl
  obtain ⟨qbxa0, qbxa1, qbxa2, qbxa3⟩ := H17.box4 5 rfl
  obtain ⟨qcg00, qcg01, qcg02, qcg03⟩ := H17.box4 2 rfl
  go_wp2_with fail
  refine (heldC_obj H17 3 rfl (by omega) (by omega) hm).mono ?_
  rintro e w18 ⟨rfl, H18⟩
  clear H17
  clear qpa0 qpa1 qpa2 qpa3 qcw00 qcw01 qcw02 qcw03 qbxa0 qbxa1 qbxa2 qbxa3 qcg00 qcg01 qcg02 qcg03
  obtain ⟨qpa0, qpa1, qpa2, qpa3⟩ := H18.box4 11 rfl
  obtain ⟨qcw00, qcw01, qcw02, qcw03⟩ := H18.box4 7 rfl
  obtain ⟨qbxa0, qbxa1, qbxa2, qbxa3⟩ := H18.box4 5 rfl
  obtain ⟨qcg00, qcg01, qcg02, qcg03⟩ := H18.box4 2 rfl
  go_wp2_with fail
  refine (toC_obj H18 ha hna).mono ?_
  rintro e w19 ⟨za, rfl, H19⟩
  clear H18
  clear qpa0 qpa1 qpa2 qpa3 qcw00 qcw01 qcw02 qcw03 qbxa0 qbxa1 qbxa2 qbxa3 qcg00 qcg01 qcg02 qcg03
  obtain ⟨qpa0, qpa1, qpa2, qpa3⟩ := H19.box4 12 rfl
  obtain ⟨qcw00, qcw01, qcw02, qcw03⟩ := H19.box4 8 rfl
  obtain ⟨qbxa0, qbxa1, qbxa2, qbxa3⟩ := H19.box4 6 rfl
  obtain ⟨qcg00, qcg01, qcg02, qcg03⟩ := H19.box4 3 rfl
  go_wp2_with fail
  refine (toT_obj H19 hb hnb).mono ?_
  rintro e w20 ⟨zb, rfl, H20⟩
  clear H19
  clear qpa0 qpa1 qpa2 qpa3 qcw00 qcw01 qcw02 qcw03 qbxa0 qbxa1 qbxa2 qbxa3 qcg00 qcg01 qcg02 qcg03
  obtain ⟨qpa0, qpa1, qpa2, qpa3⟩ := H20.box4 13 rfl
  obtain ⟨qcw00, qcw01, qcw02, qcw03⟩ := H20.box4 9 rfl
  obtain ⟨qbxa0, qbxa1, qbxa2, qbxa3⟩ := H20.box4 7 rfl
  obtain ⟨qcg00, qcg01, qcg02, qcg03⟩ := H20.box4 4 rfl
  go_wp2_with fail
  refine (hi _ _ _ (H20.items 1 rfl) (H20.texts 0 rfl)).mono ?_
  rintro e w21 ⟨h0, rfl, ho, hbl⟩
  have H21 := H20.newI ho hbl
  clear ho hbl H20
  clear qpa0 qpa1 qpa2 qpa3 qcw00 qcw01 qcw02 qcw03 qbxa0 qbxa1 qbxa2 qbxa3 qcg00 qcg01 qcg02 qcg03
  obtain ⟨qpa0, qpa1, qpa2, qpa3⟩ := H21.box4 14 rfl
  obtain ⟨qcw00, qcw01, qcw02, qcw03⟩ := H21.box4 10 rfl
  obtain ⟨qbxa0, qbxa1, qbxa2, qbxa3⟩ := H21.box4 8 rfl
  obtain ⟨qcg00, qcg01, qcg02, qcg03⟩ := H21.box4 5 rfl
  obtain ⟨h0p, h0c, rfl, _, _, _, _⟩ := (H21.items 0 rfl)
  have HB21 := H21.boxed 67 [.slice h0p G0.length h0c, .int .i64 cm0, .int .i64 cg0, .int .i64 cz0]
  clear H21
  clear qpa0 qpa1 qpa2 qpa3 qcw00 qcw01 qcw02 qcw03 qbxa0 qbxa1 qbxa2 qbxa3 qcg00 qcg01 qcg02 qcg03
  obtain ⟨qpa0, qpa1, qpa2, qpa3⟩ := HB21.box4 15 rfl
  obtain ⟨qcw00, qcw01, qcw02, qcw03⟩ := HB21.box4 11 rfl
  obtain ⟨qbxa0, qbxa1, qbxa2, qbxa3⟩ := HB21.box4 9 rfl
  obtain ⟨qcg00, qcg01, qcg02, qcg03⟩ := HB21.box4 6 rfl
  obtain ⟨qch00, qch01, qch02, qch03⟩ := HB21.box4 0 rfl
  go_wp2_with fail
  refine (eqC_obj HB21 1 12 rfl rfl hv0).mono ?_
  rintro e w22 ⟨rfl, H22⟩
  clear HB21
  clear qpa0 qpa1 qpa2 qpa3 qcw00 qcw01 qcw02 qcw03 qbxa0 qbxa1 qbxa2 qbxa3 qcg00 qcg01 qcg02 qcg03 qch00 qch01 qch02 qch03
  obtain ⟨qpa0, qpa1, qpa2, qpa3⟩ := H22.box4 15 rfl
  obtain ⟨qcw00, qcw01, qcw02, qcw03⟩ := H22.box4 11 rfl
  obtain ⟨qbxa0, qbxa1, qbxa2, qbxa3⟩ := H22.box4 9 rfl
  obtain ⟨qcg00, qcg01, qcg02, qcg03⟩ := H22.box4 6 rfl
  obtain ⟨qch00, qch01, qch02, qch03⟩ := H22.box4 0 rfl
  go_wp2_with fail
  refine (heldC_obj H22 7 rfl (by omega) (by omega) hm).mono ?_
  rintro e w23 ⟨rfl, H23⟩
  clear H22
  clear qpa0 qpa1 qpa2 qpa3 qcw00 qcw01 qcw02 qcw03 qbxa0 qbxa1 qbxa2 qbxa3 qcg00 qcg01 qcg02 qcg03 qch00 qch01 qch02 qch03
  obtain ⟨qpa0, qpa1, qpa2, qpa3⟩ := H23.box4 15 rfl
  obtain ⟨qcw00, qcw01, qcw02, qcw03⟩ := H23.box4 11 rfl
  obtain ⟨qbxa0, qbxa1, qbxa2, qbxa3⟩ := H23.box4 9 rfl
  obtain ⟨qcg00, qcg01, qcg02, qcg03⟩ := H23.box4 6 rfl
  obtain ⟨qch00, qch01, qch02, qch03⟩ := H23.box4 0 rfl
  go_wp2
  go_ret
  exact ⟨rfl, H23.below⟩

theorem FnExactRunCache_walk (va : Value) (a : List Itm) (am ag az : Int) (vb : Value) (b : List ByteArray) (w : World) (ha : Items w va a) (ham : -9223372036854775808 ≤ am ∧ am ≤ 9223372036854775807) (hag : -9223372036854775808 ≤ ag ∧ ag ≤ 9223372036854775807) (haz : -9223372036854775808 ≤ az ∧ az ≤ 9223372036854775807) (hb : Texts w vb b) :
    Calls Try.prog 21 #[.agg #[va, .int .i64 am, .int .i64 ag, .int .i64 az], vb] w fun e w' => e = .returned (.bool true) ∧ Below w.heap.size w w' :=
  FnExactRunCache_gen va a am ag az vb b w ha ham hag haz hb _ _ _ _ _ (rk_le a am ag az b) (fun va' vb' w' h h' => (sRunCache_any va' vb' a am ag az b w' h h').mono fun _ _ h => h.weak) (fun va' vb' w' h h' => RunCache_any va' vb' a am ag az b w' h h')

set_option maxRecDepth 100000 in
theorem FnExactRunCache_lifted (os : Os) (started : os.Started) (H : Type) (enc : TypeId × Value → H) :
    ReturnsInHanded {} Try.checked os 21 .any (Rows.fnExactRunCacheSpec.pre6 enc Try.prog Try.f21 Rows.fnExactRunCacheRow.domain false) (Rows.fnExactRunCacheSpec.post enc Try.prog Try.f21 false true false false) := by
  refine returnsInHanded_of_change (C := Try.checked) own started (by kernel_rfl) Try.func21
    (ChangeSpec.witness6 (enc := enc) (C := Try.checked) false ⟨#[], #[.agg #[.slice none 0 0, .int .i64 0, .int .i64 0, .int .i64 0], .slice none 0 0], []⟩ 8 (by kernel_rfl) (by kernel_rfl) (by kernel_rfl) (by kernel_rfl)) ?_
  intro W base args ds gs before hval0 hW _ _
  have hval : ∀ (j : Nat) t v, Try.f21.params[j]? = some t → args[j]? = some v → Value.okWide Try.prog W .any base t v := hval0
  have hW' := hW
  obtain ⟨p, q, hA0, hV, rfl, _, _⟩ := hW
  have hA : DataW.TrodAll enc Try.prog W 0 (fun _ => true) true Try.f21.params.toList args.toList ds p := hA0
  rw [Try.params21] at hA hval
  obtain ⟨v0, vs0, d0, ds0, p0, q0, hargs, rfl, rfl, h0, r0⟩ := trodAll_cons hA
  obtain ⟨v1, vs1, d1, ds1, p1, q1, rfl, rfl, rfl, h1, r1⟩ := trodAll_cons r0
  obtain ⟨rfl, rfl, rfl⟩ := trodAll_nil r1
  obtain rfl : args = #[v0, v1] := by cases args; simp_all
  obtain ⟨rfl, rfl⟩ := trodVars_none hV
  obtain ⟨u0, xs0, m0, g0, t0, rfl, hI0, hm0, hg0, ht0⟩ := open_cache (hval 0 _ v0 rfl rfl) h0
  obtain ⟨xs1, hI1⟩ := open_texts (hval 1 _ v1 rfl rfl) h1
  refine (FnExactRunCache_walk u0 xs0 m0 g0 t0 v1 xs1 W hI0 hm0 hg0 ht0 hI1).mono fun e W' ⟨he, hb⟩ => ⟨_, he, ?_⟩
  exact law_end rfl (by rw [Try.params21]; decide +kernel) rfl hW' rfl rfl rfl hb

theorem FnExactRunCache_facts : joinedFacts Try.prog 21 Try.f21 Rows.fnExactRunCacheSpec Rows.fnExactRunCacheRow = true :=
  facts_of (by kernel_rfl) q2 q3 (by kernel_rfl) (by kernel_rfl) (by kernel_rfl) q7 (by kernel_rfl) q9 (by kernel_rfl) (by kernel_rfl) (by kernel_rfl) (by kernel_rfl) (by kernel_rfl) (by kernel_rfl) (by kernel_rfl) (by kernel_rfl) (by kernel_rfl) (by kernel_rfl) (by kernel_rfl) (by kernel_rfl) (by kernel_rfl)
    (by rw [q22]; kernel_rfl) (by kernel_rfl) q23 head_enter (by kernel_rfl) head_lifts head_make (by kernel_rfl) (by kernel_rfl) (by kernel_rfl) (by kernel_rfl) (by kernel_rfl)

theorem FnExactRunCache_holds : Rows.FnExactRunCacheSaid :=
  OpenClaim.holds_of_wide 21 Try.f21 rfl rfl rfl rfl rfl rfl rfl ⟨rfl, rfl, rfl, rfl, rfl⟩ rfl rfl rfl rfl rfl (by kernel_rfl) Try.func21 FnExactRunCache_facts
    (of_decide_eq_true (by kernel_rfl)) (by unfold Func.isWrapper; first | (rw [if_pos (by decide +kernel)]; kernel_rfl) | (rw [if_neg (by decide +kernel)]; exact ⟨rfl, rfl⟩))
    (fun os started H enc _ => FnExactRunCache_lifted os started H enc)
end Go.Proofs.Ytojepjpmegbdmaa
