/-
  FnExactAddDeques: true, for every argument.
-/
import Derived.Test.YtigiliakcmpekaaOpen
import Derived.Deep.RegionHeld3
import Derived.Test.YtigiliakcmpekaaThing2
import Derived.Test.YtigiliakcmpekaaDqP
import Derived.Test.YtigiliakcmpekaaOpenN
namespace Go.Proofs.Ytigiliakcmpekaa
open Go.ChangeShapes Go.WideShapes Go.ChangeAt Go.RowKit Go.Deep
open Go.ChangeMaps (open_string)

set_option maxHeartbeats 40000000 in
set_option maxRecDepth 100000 in
theorem FnExactAddDeques_gen (va : Value) (a : List Int) (am : Int) (vb : Value) (b : List Int) (bm : Int) (w : World) (ha : Nums w va a) (_ham : -9223372036854775808 ≤ am ∧ am ≤ 9223372036854775807) (hb : Nums w vb b) (_hbm : -9223372036854775808 ≤ bm ∧ bm ≤ 9223372036854775807) (G0 : List Int) (dm0 : Int) (K1 : Bool) (hG : G0.length ≤ 10000000) 
    (hs : ∀ va' vb' w', Nums w' va' a → Nums w' vb' b → Calls Try.prog 91 #[.agg #[va', .int .i64 am], .agg #[vb', .int .i64 bm]] w' (NewN (fun v => .tuple #[.agg #[v, .int .i64 dm0], .bool K1]) G0 w'))
    (hi : ∀ va' vb' w', Nums w' va' a → Nums w' vb' b → Calls Try.prog 92 #[.agg #[va', .int .i64 am], .agg #[vb', .int .i64 bm]] w' (NewN (fun v => .tuple #[.agg #[v, .int .i64 dm0], .bool K1]) G0 w')) :
    Calls Try.prog 21 #[.agg #[va, .int .i64 am], .agg #[vb, .int .i64 bm]] w fun e w' => e = .returned (.bool true) ∧ Below w.heap.size w w' := by
  have H := Things.nil w
  go_enter Try.func21, Try.ntmps21
  have HB0 := H.boxed 44 [va, .int .i64 am]
  clear H
  obtain ⟨qpa0, qpa1⟩ := HB0.box2 0 rfl
  have HB0x1 := HB0.boxedAt (w.heap.size + 1) (by simp) 44 [vb, .int .i64 bm]
  clear HB0
  clear qpa0 qpa1
  obtain ⟨qpa0, qpa1⟩ := HB0x1.box2 1 rfl
  obtain ⟨qpb0, qpb1⟩ := HB0x1.box2 0 rfl
  go_wp2_with fail
  refine (szD_T HB0x1 ha (by omega) (by omega)).mono ?_
  rintro e w1 ⟨ra, rfl, hua, hla, H1⟩
  clear HB0x1
  clear qpa0 qpa1 qpb0 qpb1
  obtain ⟨qpa0, qpa1⟩ := H1.box2 1 rfl
  obtain ⟨qpb0, qpb1⟩ := H1.box2 0 rfl
  by_cases hra : ra < 0
  · go_wp2
    go_ret
    exact ⟨rfl, H1.below⟩
  have hna := hla hra
  clear hla
  go_wp2_with fail
  refine (szD_T H1 hb (by omega) hua).mono ?_
  rintro e w2 ⟨rb, rfl, hub, hlb, H2⟩
  clear H1
  clear qpa0 qpa1 qpb0 qpb1
  obtain ⟨qpa0, qpa1⟩ := H2.box2 1 rfl
  obtain ⟨qpb0, qpb1⟩ := H2.box2 0 rfl
  by_cases hrb : rb < 0
  · go_wp2
    go_ret
    exact ⟨rfl, H2.below⟩
  have hnb := hlb hrb
  clear hlb
  go_wp2_with fail
  have HD2 := H2.quiet (Below.refl _ _).drew
  have HZ2 : Things w (w2.alloc (.cells #[.slice none 0 0, .int .i64 0] 47)).drew (boxT w2.heap.size 47 [.slice none 0 0, .int .i64 0] :: _) := (H2.boxed 47 [.slice none 0 0, .int .i64 0]).quiet (Below.refl _ _).drew
  go_region_held3 (fun WW : World => (WW.cell? ⟨w.heap.size, 0, none⟩ = some (va) ∧ WW.cell? ⟨w.heap.size, 1, none⟩ = some (.int .i64 am)) ∧ (WW.cell? ⟨w.heap.size + 1, 0, none⟩ = some (vb) ∧ WW.cell? ⟨w.heap.size + 1, 1, none⟩ = some (.int .i64 bm)))
    (first | exact ⟨H2.box2 1 rfl, H2.box2 0 rfl⟩ | exact ⟨HZ2.box2 2 rfl, HZ2.box2 1 rfl⟩ | assumption | exact hS3 | exact hZ3 | exact hS4 | exact hZ4 | exact hS5 | exact ⟨HB5.box2 5 rfl, HB5.box2 4 rfl⟩ | exact ⟨HZ5.box2 5 rfl, HZ5.box2 4 rfl⟩)
    (first
      | (go_at_call 44; with_reducible refine (toD_T HD2 ha hna).mono ?_; rintro e w3 ⟨sa, rfl, H3⟩; have hS3 : (w3.cell? ⟨w.heap.size, 0, none⟩ = some (va) ∧ w3.cell? ⟨w.heap.size, 1, none⟩ = some (.int .i64 am)) ∧ (w3.cell? ⟨w.heap.size + 1, 0, none⟩ = some (vb) ∧ w3.cell? ⟨w.heap.size + 1, 1, none⟩ = some (.int .i64 bm)) := ⟨H3.box2 2 rfl, H3.box2 1 rfl⟩; have HZ3 : Things w (w3.alloc (.cells #[.slice none 0 0, .int .i64 0] 47)) (boxT w3.heap.size 47 [.slice none 0 0, .int .i64 0] :: _) := H3.boxed 47 [.slice none 0 0, .int .i64 0]; have hZ3 := And.intro (HZ3.box2 3 rfl) (HZ3.box2 2 rfl))
      | (go_at_call 44; with_reducible refine (toD_T HZ2 ha hna).mono ?_; rintro e w3 ⟨sa, rfl, H3z⟩; have hS3 : (w3.cell? ⟨w.heap.size, 0, none⟩ = some (va) ∧ w3.cell? ⟨w.heap.size, 1, none⟩ = some (.int .i64 am)) ∧ (w3.cell? ⟨w.heap.size + 1, 0, none⟩ = some (vb) ∧ w3.cell? ⟨w.heap.size + 1, 1, none⟩ = some (.int .i64 bm)) := ⟨H3z.box2 3 rfl, H3z.box2 2 rfl⟩)
      | (go_at_call 44; with_reducible refine (toD_T H3 hb hnb).mono ?_; rintro e w4 ⟨sb, rfl, H4⟩; have hS4 : (w4.cell? ⟨w.heap.size, 0, none⟩ = some (va) ∧ w4.cell? ⟨w.heap.size, 1, none⟩ = some (.int .i64 am)) ∧ (w4.cell? ⟨w.heap.size + 1, 0, none⟩ = some (vb) ∧ w4.cell? ⟨w.heap.size + 1, 1, none⟩ = some (.int .i64 bm)) := ⟨H4.box2 3 rfl, H4.box2 2 rfl⟩; have HZ4 : Things w (w4.alloc (.cells #[.slice none 0 0, .int .i64 0] 47)) (boxT w4.heap.size 47 [.slice none 0 0, .int .i64 0] :: _) := H4.boxed 47 [.slice none 0 0, .int .i64 0]; have hZ4 := And.intro (HZ4.box2 4 rfl) (HZ4.box2 3 rfl))
      | (go_at_call 44; with_reducible refine (toD_T HZ3 hb hnb).mono ?_; rintro e w4 ⟨sb, rfl, H4z⟩; have HC4 := Things.swap [] H4z; have hS4 : (w4.cell? ⟨w.heap.size, 0, none⟩ = some (va) ∧ w4.cell? ⟨w.heap.size, 1, none⟩ = some (.int .i64 am)) ∧ (w4.cell? ⟨w.heap.size + 1, 0, none⟩ = some (vb) ∧ w4.cell? ⟨w.heap.size + 1, 1, none⟩ = some (.int .i64 bm)) := ⟨H4z.box2 4 rfl, H4z.box2 3 rfl⟩)
      | (go_at_call 44; with_reducible refine (toD_T H3z hb hnb).mono ?_; rintro e w4 ⟨sb, rfl, H4z⟩; have HC4 := Things.swap [] (Things.swap [_] H4z); have hS4 : (w4.cell? ⟨w.heap.size, 0, none⟩ = some (va) ∧ w4.cell? ⟨w.heap.size, 1, none⟩ = some (.int .i64 am)) ∧ (w4.cell? ⟨w.heap.size + 1, 0, none⟩ = some (vb) ∧ w4.cell? ⟨w.heap.size + 1, 1, none⟩ = some (.int .i64 bm)) := ⟨H4z.box2 4 rfl, H4z.box2 3 rfl⟩)
      | (go_at_call 91; (with_reducible refine (hs _ _ _ (H4.nums 1 rfl) (H4.nums 0 rfl)).mono ?_); rintro e w5 ⟨w0, rfl, ho, hbl⟩; have H5 := H4.newN ho hbl; obtain ⟨w0p, w0c, rfl, _, _⟩ := (H5.nums 0 rfl).slice; have hS5 : (w5.cell? ⟨w.heap.size, 0, none⟩ = some (va) ∧ w5.cell? ⟨w.heap.size, 1, none⟩ = some (.int .i64 am)) ∧ (w5.cell? ⟨w.heap.size + 1, 0, none⟩ = some (vb) ∧ w5.cell? ⟨w.heap.size + 1, 1, none⟩ = some (.int .i64 bm)) := ⟨H5.box2 4 rfl, H5.box2 3 rfl⟩; have HB5 := H5.boxed 47 [.slice w0p G0.length w0c, .int .i64 dm0]; have HZ5 := H5.boxed 47 [.slice none 0 0, .int .i64 0])
      | (go_at_call 91; (with_reducible refine (hs _ _ _ (HZ4.nums 2 rfl) (HZ4.nums 1 rfl)).mono ?_); rintro e w5 ⟨w0, rfl, ho, hbl⟩; have H5z := HZ4.newN ho hbl; have HC5 := Things.swap [] H5z; obtain ⟨w0p, w0c, rfl, _, _⟩ := (H5z.nums 0 rfl).slice; have hS5 : (w5.cell? ⟨w.heap.size, 0, none⟩ = some (va) ∧ w5.cell? ⟨w.heap.size, 1, none⟩ = some (.int .i64 am)) ∧ (w5.cell? ⟨w.heap.size + 1, 0, none⟩ = some (vb) ∧ w5.cell? ⟨w.heap.size + 1, 1, none⟩ = some (.int .i64 bm)) := ⟨H5z.box2 5 rfl, H5z.box2 4 rfl⟩; obtain ⟨zc0, zc1⟩ := HC5.box2 0 rfl; have zf0 := HC5.boxfree 0 rfl 0; have zf1 := HC5.boxfree 0 rfl 1; have HB5 := HC5.store2 (.slice w0p G0.length w0c) (.int .i64 dm0))
      | (go_at_call 91; (with_reducible refine (hs _ _ _ (HC4.nums 2 rfl) (HC4.nums 1 rfl)).mono ?_); rintro e w5 ⟨w0, rfl, ho, hbl⟩; have H5z := HC4.newN ho hbl; have HC5 := Things.swap [] H5z; obtain ⟨w0p, w0c, rfl, _, _⟩ := (H5z.nums 0 rfl).slice; have hS5 : (w5.cell? ⟨w.heap.size, 0, none⟩ = some (va) ∧ w5.cell? ⟨w.heap.size, 1, none⟩ = some (.int .i64 am)) ∧ (w5.cell? ⟨w.heap.size + 1, 0, none⟩ = some (vb) ∧ w5.cell? ⟨w.heap.size + 1, 1, none⟩ = some (.int .i64 bm)) := ⟨H5z.box2 5 rfl, H5z.box2 4 rfl⟩; obtain ⟨zc0, zc1⟩ := HC5.box2 0 rfl; have zf0 := HC5.boxfree 0 rfl 0; have zf1 := HC5.boxfree 0 rfl 1; have HB5 := HC5.store2 (.slice w0p G0.length w0c) (.int .i64 dm0)))
  clear qpa0 qpa1 qpb0 qpb1
  all_goals
    obtain ⟨qpa0, qpa1⟩ := HB5.box2 5 rfl
    obtain ⟨qpb0, qpb1⟩ := HB5.box2 4 rfl
    obtain ⟨qcw00, qcw01⟩ := HB5.box2 0 rfl
    go_wp2_with fail
    refine (toD_T HB5 ha hna).mono ?_
    rintro e w6 ⟨xa, rfl, H6⟩
    clear HB5
    clear qpa0 qpa1 qpb0 qpb1 qcw00 qcw01
    obtain ⟨qpa0, qpa1⟩ := H6.box2 6 rfl
    obtain ⟨qpb0, qpb1⟩ := H6.box2 5 rfl
    obtain ⟨qcw00, qcw01⟩ := H6.box2 1 rfl
    obtain ⟨xap, xac, rfl, _, _⟩ := (H6.nums 0 rfl).slice
    have HB6 := H6.boxed 47 [.slice xap a.length xac, .int .i64 am]
    clear H6
    clear qpa0 qpa1 qpb0 qpb1 qcw00 qcw01
    obtain ⟨qpa0, qpa1⟩ := HB6.box2 7 rfl
    obtain ⟨qpb0, qpb1⟩ := HB6.box2 6 rfl
    obtain ⟨qcw00, qcw01⟩ := HB6.box2 2 rfl
    obtain ⟨qbxa0, qbxa1⟩ := HB6.box2 0 rfl
    go_wp2_with fail
    refine (toD_T HB6 hb hnb).mono ?_
    rintro e w7 ⟨xb, rfl, H7⟩
    clear HB6
    clear qpa0 qpa1 qpb0 qpb1 qcw00 qcw01 qbxa0 qbxa1
    obtain ⟨qpa0, qpa1⟩ := H7.box2 8 rfl
    obtain ⟨qpb0, qpb1⟩ := H7.box2 7 rfl
    obtain ⟨qcw00, qcw01⟩ := H7.box2 3 rfl
    obtain ⟨qbxa0, qbxa1⟩ := H7.box2 1 rfl
    obtain ⟨xbp, xbc, rfl, _, _⟩ := (H7.nums 0 rfl).slice
    have HB7 := H7.boxed 47 [.slice xbp b.length xbc, .int .i64 bm]
    clear H7
    clear qpa0 qpa1 qpb0 qpb1 qcw00 qcw01 qbxa0 qbxa1
    obtain ⟨qpa0, qpa1⟩ := HB7.box2 9 rfl
    obtain ⟨qpb0, qpb1⟩ := HB7.box2 8 rfl
    obtain ⟨qcw00, qcw01⟩ := HB7.box2 4 rfl
    obtain ⟨qbxa0, qbxa1⟩ := HB7.box2 2 rfl
    obtain ⟨qbxb0, qbxb1⟩ := HB7.box2 0 rfl
    go_wp2_with fail
    refine (hi _ _ _ (HB7.nums 3 rfl) (HB7.nums 1 rfl)).mono ?_
    rintro e w8 ⟨g0, rfl, ho, hbl⟩
    have H8 := HB7.newN ho hbl
    clear ho hbl HB7
    clear qpa0 qpa1 qpb0 qpb1 qcw00 qcw01 qbxa0 qbxa1 qbxb0 qbxb1
    obtain ⟨qpa0, qpa1⟩ := H8.box2 10 rfl
    obtain ⟨qpb0, qpb1⟩ := H8.box2 9 rfl
    obtain ⟨qcw00, qcw01⟩ := H8.box2 5 rfl
    obtain ⟨qbxa0, qbxa1⟩ := H8.box2 3 rfl
    obtain ⟨qbxb0, qbxb1⟩ := H8.box2 1 rfl
    obtain ⟨g0p, g0c, rfl, _, _⟩ := (H8.nums 0 rfl).slice
    have HB8 := H8.boxed 47 [.slice g0p G0.length g0c, .int .i64 dm0]
    clear H8
    clear qpa0 qpa1 qpb0 qpb1 qcw00 qcw01 qbxa0 qbxa1 qbxb0 qbxb1
    obtain ⟨qpa0, qpa1⟩ := HB8.box2 11 rfl
    obtain ⟨qpb0, qpb1⟩ := HB8.box2 10 rfl
    obtain ⟨qcw00, qcw01⟩ := HB8.box2 6 rfl
    obtain ⟨qbxa0, qbxa1⟩ := HB8.box2 4 rfl
    obtain ⟨qbxb0, qbxb1⟩ := HB8.box2 2 rfl
    obtain ⟨qcg00, qcg01⟩ := HB8.box2 0 rfl
    go_wp2_with fail
    refine (eqD_T HB8 (HB8.nums 1 rfl) (HB8.nums 7 rfl)).mono ?_
    rintro e w9 ⟨rfl, H9⟩
    clear HB8
    clear qpa0 qpa1 qpb0 qpb1 qcw00 qcw01 qbxa0 qbxa1 qbxb0 qbxb1 qcg00 qcg01
    obtain ⟨qpa0, qpa1⟩ := H9.box2 11 rfl
    obtain ⟨qpb0, qpb1⟩ := H9.box2 10 rfl
    obtain ⟨qcw00, qcw01⟩ := H9.box2 6 rfl
    obtain ⟨qbxa0, qbxa1⟩ := H9.box2 4 rfl
    obtain ⟨qbxb0, qbxb1⟩ := H9.box2 2 rfl
    obtain ⟨qcg00, qcg01⟩ := H9.box2 0 rfl
    go_wp2_with fail
    have HD9 := H9.quiet (Below.refl _ _).drew
    go_region_held3 (fun w' : World => (w'.cell? ⟨w6.heap.size, 0, none⟩ = some (.slice xap a.length xac) ∧ w'.cell? ⟨w6.heap.size, 1, none⟩ = some (.int .i64 am)) ∧ (w'.cell? ⟨w.heap.size, 0, none⟩ = some (va) ∧ w'.cell? ⟨w.heap.size, 1, none⟩ = some (.int .i64 am)))
      (first | exact ⟨H9.box2 4 rfl, H9.box2 11 rfl⟩ | assumption | exact hS10 | exact hS11)
      (first
        | (go_at_call 44; refine (toD_T HD9 ha hna).mono ?_; rintro e w10 ⟨ya, rfl, H10⟩; have hS10 := And.intro (H10.box2 5 rfl) (H10.box2 12 rfl))
        | (go_at_call 46; refine (eqD_T H10 (H10.nums 6 rfl) (H10.nums 0 rfl)).mono ?_; rintro e w11 ⟨rfl, H11⟩; have hS11 := And.intro (H11.box2 5 rfl) (H11.box2 12 rfl)))
    clear H9 HD9 H10 hS10 hS11
    clear qpa0 qpa1 qpb0 qpb1 qcw00 qcw01 qbxa0 qbxa1 qbxb0 qbxb1 qcg00 qcg01
    obtain ⟨qpa0, qpa1⟩ := H11.box2 12 rfl
    obtain ⟨qpb0, qpb1⟩ := H11.box2 11 rfl
    obtain ⟨qcw00, qcw01⟩ := H11.box2 7 rfl
    obtain ⟨qbxa0, qbxa1⟩ := H11.box2 5 rfl
    obtain ⟨qbxb0, qbxb1⟩ := H11.box2 3 rfl
    obtain ⟨qcg00, qcg01⟩ := H11.box2 1 rfl
    go_wp2_with fail
    have HD11 := H11.quiet (Below.refl _ _).drew
    go_region_held3 (fun w' : World => (w'.cell? ⟨w7.heap.size, 0, none⟩ = some (.slice xbp b.length xbc) ∧ w'.cell? ⟨w7.heap.size, 1, none⟩ = some (.int .i64 bm)) ∧ (w'.cell? ⟨w.heap.size + 1, 0, none⟩ = some (vb) ∧ w'.cell? ⟨w.heap.size + 1, 1, none⟩ = some (.int .i64 bm)))
      (first | exact ⟨H11.box2 3 rfl, H11.box2 11 rfl⟩ | assumption | exact hS12 | exact hS13)
      (first
        | (go_at_call 44; refine (toD_T HD11 hb hnb).mono ?_; rintro e w12 ⟨yb, rfl, H12⟩; have hS12 := And.intro (H12.box2 4 rfl) (H12.box2 12 rfl))
        | (go_at_call 46; refine (eqD_T H12 (H12.nums 5 rfl) (H12.nums 0 rfl)).mono ?_; rintro e w13 ⟨rfl, H13⟩; have hS13 := And.intro (H13.box2 4 rfl) (H13.box2 12 rfl)))
    clear H11 HD11 H12 hS12 hS13
    clear qpa0 qpa1 qpb0 qpb1 qcw00 qcw01 qbxa0 qbxa1 qbxb0 qbxb1 qcg00 qcg01
    obtain ⟨qpa0, qpa1⟩ := H13.box2 13 rfl
    obtain ⟨qpb0, qpb1⟩ := H13.box2 12 rfl
    obtain ⟨qcw00, qcw01⟩ := H13.box2 8 rfl
    obtain ⟨qbxa0, qbxa1⟩ := H13.box2 6 rfl
    obtain ⟨qbxb0, qbxb1⟩ := H13.box2 4 rfl
    obtain ⟨qcg00, qcg01⟩ := H13.box2 2 rfl
    go_wp2_with fail
    refine (markD_T H13 7 1 rfl (by omega) (by omega)).mono ?_
    rintro e w14 ⟨ka, rfl, hpa, hka, H14⟩
    clear H13
    clear qpa0 qpa1 qpb0 qpb1 qcw00 qcw01 qbxa0 qbxa1 qbxb0 qbxb1 qcg00 qcg01
    obtain ⟨qpa0, qpa1⟩ := H14.box2 13 rfl
    obtain ⟨qpb0, qpb1⟩ := H14.box2 12 rfl
    obtain ⟨qcw00, qcw01⟩ := H14.box2 8 rfl
    obtain ⟨qbxa0, qbxa1⟩ := H14.box2 6 rfl
    obtain ⟨qbxb0, qbxb1⟩ := H14.box2 4 rfl
    obtain ⟨qcg00, qcg01⟩ := H14.box2 2 rfl
    have hka' : ka ≤ 5000000 := by have := hka.out; omega
    have hka'' : 0 < ka := by have := hka.out; omega
    clear hpa
    go_wp2_with fail
    refine (markD_T H14 5 ka rfl (by omega) (by omega)).mono ?_
    rintro e w15 ⟨kb, rfl, hpb, hkb, H15⟩
    clear H14
    clear qpa0 qpa1 qpb0 qpb1 qcw00 qcw01 qbxa0 qbxa1 qbxb0 qbxb1 qcg00 qcg01
    obtain ⟨qpa0, qpa1⟩ := H15.box2 13 rfl
    obtain ⟨qpb0, qpb1⟩ := H15.box2 12 rfl
    obtain ⟨qcw00, qcw01⟩ := H15.box2 8 rfl
    obtain ⟨qbxa0, qbxa1⟩ := H15.box2 6 rfl
    obtain ⟨qbxb0, qbxb1⟩ := H15.box2 4 rfl
    obtain ⟨qcg00, qcg01⟩ := H15.box2 2 rfl
    have hkb' : kb ≤ 10000000 := by have := hkb.out; omega
    have hkb'' : 0 < kb := by have := hkb.out; omega
    go_wp2_with fail
    refine (eqD_T H15 (H15.nums 3 rfl) (H15.nums 9 rfl)).mono ?_
    rintro e w16 ⟨rfl, H16⟩
    clear H15
    clear qpa0 qpa1 qpb0 qpb1 qcw00 qcw01 qbxa0 qbxa1 qbxb0 qbxb1 qcg00 qcg01
    obtain ⟨qpa0, qpa1⟩ := H16.box2 13 rfl
    obtain ⟨qpb0, qpb1⟩ := H16.box2 12 rfl
    obtain ⟨qcw00, qcw01⟩ := H16.box2 8 rfl
    obtain ⟨qbxa0, qbxa1⟩ := H16.box2 6 rfl
    obtain ⟨qbxb0, qbxb1⟩ := H16.box2 4 rfl
    obtain ⟨qcg00, qcg01⟩ := H16.box2 2 rfl
    go_wp2_with fail
    refine (markD_T H16 3 1 rfl (by omega) (by omega)).mono ?_
    rintro e w17 ⟨m, rfl, hpm, hm, H17⟩
    clear H16
    clear qpa0 qpa1 qpb0 qpb1 qcw00 qcw01 qbxa0 qbxa1 qbxb0 qbxb1 qcg00 qcg01
    obtain ⟨qpa0, qpa1⟩ := H17.box2 13 rfl
    obtain ⟨qpb0, qpb1⟩ := H17.box2 12 rfl
    obtain ⟨qcw00, qcw01⟩ := H17.box2 8 rfl
    obtain ⟨qbxa0, qbxa1⟩ := H17.box2 6 rfl
    obtain ⟨qbxb0, qbxb1⟩ := H17.box2 4 rfl
    obtain ⟨qcg00, qcg01⟩ := H17.box2 2 rfl
    go_wp2_with fail
    refine (heldD_T H17 3 rfl (by omega) (by omega) hm).mono ?_
    rintro e w18 ⟨rfl, H18⟩
    clear H17
    clear qpa0 qpa1 qpb0 qpb1 qcw00 qcw01 qbxa0 qbxa1 qbxb0 qbxb1 qcg00 qcg01
    obtain ⟨qpa0, qpa1⟩ := H18.box2 13 rfl
    obtain ⟨qpb0, qpb1⟩ := H18.box2 12 rfl
    obtain ⟨qcw00, qcw01⟩ := H18.box2 8 rfl
    obtain ⟨qbxa0, qbxa1⟩ := H18.box2 6 rfl
    obtain ⟨qbxb0, qbxb1⟩ := H18.box2 4 rfl
    obtain ⟨qcg00, qcg01⟩ := H18.box2 2 rfl
    go_wp2_with fail
    have HD18 := H18.quiet (Below.refl _ _).drew
    have HZ18 : Things w (w18.alloc (.cells #[.slice none 0 0, .int .i64 0] 47)).drew (boxT w18.heap.size 47 [.slice none 0 0, .int .i64 0] :: _) := (H18.boxed 47 [.slice none 0 0, .int .i64 0]).quiet (Below.refl _ _).drew
    go_region_held3 (fun WW : World => (WW.cell? ⟨w.heap.size, 0, none⟩ = some (va) ∧ WW.cell? ⟨w.heap.size, 1, none⟩ = some (.int .i64 am)) ∧ (WW.cell? ⟨w.heap.size + 1, 0, none⟩ = some (vb) ∧ WW.cell? ⟨w.heap.size + 1, 1, none⟩ = some (.int .i64 bm)))
      (first | exact ⟨H18.box2 13 rfl, H18.box2 12 rfl⟩ | exact ⟨HZ18.box2 14 rfl, HZ18.box2 13 rfl⟩ | assumption | exact hS19 | exact hZ19 | exact hS20 | exact hZ20 | exact hS21 | exact ⟨HB21.box2 17 rfl, HB21.box2 16 rfl⟩ | exact ⟨HZ21.box2 17 rfl, HZ21.box2 16 rfl⟩)
      (first
        | (go_at_call 44; with_reducible refine (toD_T HD18 ha hna).mono ?_; rintro e w19 ⟨za, rfl, H19⟩; have hS19 : (w19.cell? ⟨w.heap.size, 0, none⟩ = some (va) ∧ w19.cell? ⟨w.heap.size, 1, none⟩ = some (.int .i64 am)) ∧ (w19.cell? ⟨w.heap.size + 1, 0, none⟩ = some (vb) ∧ w19.cell? ⟨w.heap.size + 1, 1, none⟩ = some (.int .i64 bm)) := ⟨H19.box2 14 rfl, H19.box2 13 rfl⟩; have HZ19 : Things w (w19.alloc (.cells #[.slice none 0 0, .int .i64 0] 47)) (boxT w19.heap.size 47 [.slice none 0 0, .int .i64 0] :: _) := H19.boxed 47 [.slice none 0 0, .int .i64 0]; have hZ19 := And.intro (HZ19.box2 15 rfl) (HZ19.box2 14 rfl))
        | (go_at_call 44; with_reducible refine (toD_T HZ18 ha hna).mono ?_; rintro e w19 ⟨za, rfl, H19z⟩; have hS19 : (w19.cell? ⟨w.heap.size, 0, none⟩ = some (va) ∧ w19.cell? ⟨w.heap.size, 1, none⟩ = some (.int .i64 am)) ∧ (w19.cell? ⟨w.heap.size + 1, 0, none⟩ = some (vb) ∧ w19.cell? ⟨w.heap.size + 1, 1, none⟩ = some (.int .i64 bm)) := ⟨H19z.box2 15 rfl, H19z.box2 14 rfl⟩)
        | (go_at_call 44; with_reducible refine (toD_T H19 hb hnb).mono ?_; rintro e w20 ⟨zb, rfl, H20⟩; have hS20 : (w20.cell? ⟨w.heap.size, 0, none⟩ = some (va) ∧ w20.cell? ⟨w.heap.size, 1, none⟩ = some (.int .i64 am)) ∧ (w20.cell? ⟨w.heap.size + 1, 0, none⟩ = some (vb) ∧ w20.cell? ⟨w.heap.size + 1, 1, none⟩ = some (.int .i64 bm)) := ⟨H20.box2 15 rfl, H20.box2 14 rfl⟩; have HZ20 : Things w (w20.alloc (.cells #[.slice none 0 0, .int .i64 0] 47)) (boxT w20.heap.size 47 [.slice none 0 0, .int .i64 0] :: _) := H20.boxed 47 [.slice none 0 0, .int .i64 0]; have hZ20 := And.intro (HZ20.box2 16 rfl) (HZ20.box2 15 rfl))
        | (go_at_call 44; with_reducible refine (toD_T HZ19 hb hnb).mono ?_; rintro e w20 ⟨zb, rfl, H20z⟩; have HC20 := Things.swap [] H20z; have hS20 : (w20.cell? ⟨w.heap.size, 0, none⟩ = some (va) ∧ w20.cell? ⟨w.heap.size, 1, none⟩ = some (.int .i64 am)) ∧ (w20.cell? ⟨w.heap.size + 1, 0, none⟩ = some (vb) ∧ w20.cell? ⟨w.heap.size + 1, 1, none⟩ = some (.int .i64 bm)) := ⟨H20z.box2 16 rfl, H20z.box2 15 rfl⟩)
        | (go_at_call 44; with_reducible refine (toD_T H19z hb hnb).mono ?_; rintro e w20 ⟨zb, rfl, H20z⟩; have HC20 := Things.swap [] (Things.swap [_] H20z); have hS20 : (w20.cell? ⟨w.heap.size, 0, none⟩ = some (va) ∧ w20.cell? ⟨w.heap.size, 1, none⟩ = some (.int .i64 am)) ∧ (w20.cell? ⟨w.heap.size + 1, 0, none⟩ = some (vb) ∧ w20.cell? ⟨w.heap.size + 1, 1, none⟩ = some (.int .i64 bm)) := ⟨H20z.box2 16 rfl, H20z.box2 15 rfl⟩)
        | (go_at_call 92; (with_reducible refine (hi _ _ _ (H20.nums 1 rfl) (H20.nums 0 rfl)).mono ?_); rintro e w21 ⟨h0, rfl, ho, hbl⟩; have H21 := H20.newN ho hbl; obtain ⟨h0p, h0c, rfl, _, _⟩ := (H21.nums 0 rfl).slice; have hS21 : (w21.cell? ⟨w.heap.size, 0, none⟩ = some (va) ∧ w21.cell? ⟨w.heap.size, 1, none⟩ = some (.int .i64 am)) ∧ (w21.cell? ⟨w.heap.size + 1, 0, none⟩ = some (vb) ∧ w21.cell? ⟨w.heap.size + 1, 1, none⟩ = some (.int .i64 bm)) := ⟨H21.box2 16 rfl, H21.box2 15 rfl⟩; have HB21 := H21.boxed 47 [.slice h0p G0.length h0c, .int .i64 dm0]; have HZ21 := H21.boxed 47 [.slice none 0 0, .int .i64 0])
        | (go_at_call 92; (with_reducible refine (hi _ _ _ (HZ20.nums 2 rfl) (HZ20.nums 1 rfl)).mono ?_); rintro e w21 ⟨h0, rfl, ho, hbl⟩; have H21z := HZ20.newN ho hbl; have HC21 := Things.swap [] H21z; obtain ⟨h0p, h0c, rfl, _, _⟩ := (H21z.nums 0 rfl).slice; have hS21 : (w21.cell? ⟨w.heap.size, 0, none⟩ = some (va) ∧ w21.cell? ⟨w.heap.size, 1, none⟩ = some (.int .i64 am)) ∧ (w21.cell? ⟨w.heap.size + 1, 0, none⟩ = some (vb) ∧ w21.cell? ⟨w.heap.size + 1, 1, none⟩ = some (.int .i64 bm)) := ⟨H21z.box2 17 rfl, H21z.box2 16 rfl⟩; obtain ⟨zc0, zc1⟩ := HC21.box2 0 rfl; have zf0 := HC21.boxfree 0 rfl 0; have zf1 := HC21.boxfree 0 rfl 1; have HB21 := HC21.store2 (.slice h0p G0.length h0c) (.int .i64 dm0))
        | (go_at_call 92; (with_reducible refine (hi _ _ _ (HC20.nums 2 rfl) (HC20.nums 1 rfl)).mono ?_); rintro e w21 ⟨h0, rfl, ho, hbl⟩; have H21z := HC20.newN ho hbl; have HC21 := Things.swap [] H21z; obtain ⟨h0p, h0c, rfl, _, _⟩ := (H21z.nums 0 rfl).slice; have hS21 : (w21.cell? ⟨w.heap.size, 0, none⟩ = some (va) ∧ w21.cell? ⟨w.heap.size, 1, none⟩ = some (.int .i64 am)) ∧ (w21.cell? ⟨w.heap.size + 1, 0, none⟩ = some (vb) ∧ w21.cell? ⟨w.heap.size + 1, 1, none⟩ = some (.int .i64 bm)) := ⟨H21z.box2 17 rfl, H21z.box2 16 rfl⟩; obtain ⟨zc0, zc1⟩ := HC21.box2 0 rfl; have zf0 := HC21.boxfree 0 rfl 0; have zf1 := HC21.boxfree 0 rfl 1; have HB21 := HC21.store2 (.slice h0p G0.length h0c) (.int .i64 dm0)))
    clear qpa0 qpa1 qpb0 qpb1 qcw00 qcw01 qbxa0 qbxa1 qbxb0 qbxb1 qcg00 qcg01
    all_goals
      obtain ⟨qpa0, qpa1⟩ := HB21.box2 17 rfl
      obtain ⟨qpb0, qpb1⟩ := HB21.box2 16 rfl
      obtain ⟨qcw00, qcw01⟩ := HB21.box2 12 rfl
      obtain ⟨qbxa0, qbxa1⟩ := HB21.box2 10 rfl
      obtain ⟨qbxb0, qbxb1⟩ := HB21.box2 8 rfl
      obtain ⟨qcg00, qcg01⟩ := HB21.box2 6 rfl
      obtain ⟨qch00, qch01⟩ := HB21.box2 0 rfl
      go_wp2_with fail
      refine (eqD_T HB21 (HB21.nums 1 rfl) (HB21.nums 13 rfl)).mono ?_
      rintro e w22 ⟨rfl, H22⟩
      clear HB21
      clear qpa0 qpa1 qpb0 qpb1 qcw00 qcw01 qbxa0 qbxa1 qbxb0 qbxb1 qcg00 qcg01 qch00 qch01
      obtain ⟨qpa0, qpa1⟩ := H22.box2 17 rfl
      obtain ⟨qpb0, qpb1⟩ := H22.box2 16 rfl
      obtain ⟨qcw00, qcw01⟩ := H22.box2 12 rfl
      obtain ⟨qbxa0, qbxa1⟩ := H22.box2 10 rfl
      obtain ⟨qbxb0, qbxb1⟩ := H22.box2 8 rfl
      obtain ⟨qcg00, qcg01⟩ := H22.box2 6 rfl
      obtain ⟨qch00, qch01⟩ := H22.box2 0 rfl
      go_wp2_with fail
      refine (heldD_T H22 7 rfl (by omega) (by omega) hm).mono ?_
      rintro e w23 ⟨rfl, H23⟩
      clear H22
      clear qpa0 qpa1 qpb0 qpb1 qcw00 qcw01 qbxa0 qbxa1 qbxb0 qbxb1 qcg00 qcg01 qch00 qch01
      obtain ⟨qpa0, qpa1⟩ := H23.box2 17 rfl
      obtain ⟨qpb0, qpb1⟩ := H23.box2 16 rfl
      obtain ⟨qcw00, qcw01⟩ := H23.box2 12 rfl
      obtain ⟨qbxa0, qbxa1⟩ := H23.box2 10 rfl
      obtain ⟨qbxb0, qbxb1⟩ := H23.box2 8 rfl
      obtain ⟨qcg00, qcg01⟩ := H23.box2 6 rfl
      obtain ⟨qch00, qch01⟩ := H23.box2 0 rfl
      go_wp2
      go_ret
      exact ⟨rfl, H23.below⟩

theorem FnExactAddDeques_walk (va : Value) (a : List Int) (am : Int) (vb : Value) (b : List Int) (bm : Int) (w : World) (ha : Nums w va a) (ham : -9223372036854775808 ≤ am ∧ am ≤ 9223372036854775807) (hb : Nums w vb b) (hbm : -9223372036854775808 ≤ bm ∧ bm ≤ 9223372036854775807) :
    Calls Try.prog 21 #[.agg #[va, .int .i64 am], .agg #[vb, .int .i64 bm]] w fun e w' => e = .returned (.bool true) ∧ Below w.heap.size w w' :=
  FnExactAddDeques_gen va a am vb b bm w ha ham hb hbm _ _ _ (ad_le a b am bm) (fun va' vb' w' h h' => sAddDeques_any va' vb' a b am bm w' h h') (fun va' vb' w' h h' => AddDeques_any va' vb' a b am bm w' h h')

set_option maxRecDepth 100000 in
theorem FnExactAddDeques_lifted (os : Os) (started : os.Started) (H : Type) (enc : TypeId × Value → H) :
    ReturnsInHanded {} Try.checked os 21 .any (Rows.fnExactAddDequesSpec.pre6 enc Try.prog Try.f21 Rows.fnExactAddDequesRow.domain false) (Rows.fnExactAddDequesSpec.post enc Try.prog Try.f21 false true false false) := by
  refine returnsInHanded_of_change (C := Try.checked) own started (by kernel_rfl) Try.func21
    (ChangeSpec.witness6 (enc := enc) (C := Try.checked) false ⟨#[], #[.agg #[.slice none 0 0, .int .i64 0], .agg #[.slice none 0 0, .int .i64 0]], []⟩ 8 (by kernel_rfl) (by kernel_rfl) (by kernel_rfl) (by kernel_rfl)) ?_
  intro W base args ds gs before hval0 hW _ _
  have hval : ∀ (j : Nat) t v, Try.f21.params[j]? = some t → args[j]? = some v → Value.okWide Try.prog W .any base t v := hval0
  have hW' := hW
  obtain ⟨p, q, hA0, hV, rfl, _, _⟩ := hW
  have hA : DataW.TrodAll enc Try.prog W 0 (fun _ => true) true Try.f21.params.toList args.toList ds p := hA0
  rw [Try.params21] at hA hval
  obtain ⟨v0, vs0, d0, ds0, p0, q0, hargs, rfl, rfl, h0, r0⟩ := trodAll_cons hA
  obtain ⟨v1, vs1, d1, ds1, p1, q1, rfl, rfl, rfl, h1, r1⟩ := trodAll_cons r0
  obtain ⟨rfl, rfl, rfl⟩ := trodAll_nil r1
  obtain rfl : args = #[v0, v1] := by cases args; simp_all
  obtain ⟨rfl, rfl⟩ := trodVars_none hV
  obtain ⟨u0, xs0, m0, rfl, hI0, hm0⟩ := open_deque (hval 0 _ v0 rfl rfl) h0
  obtain ⟨u1, xs1, m1, rfl, hI1, hm1⟩ := open_deque (hval 1 _ v1 rfl rfl) h1
  refine (FnExactAddDeques_walk u0 xs0 m0 u1 xs1 m1 W hI0 hm0 hI1 hm1).mono fun e W' ⟨he, hb⟩ => ⟨_, he, ?_⟩
  exact law_end rfl (by rw [Try.params21]; decide +kernel) rfl hW' rfl rfl rfl hb

theorem FnExactAddDeques_facts : joinedFacts Try.prog 21 Try.f21 Rows.fnExactAddDequesSpec Rows.fnExactAddDequesRow = true :=
  facts_of (by kernel_rfl) q2 q3 (by kernel_rfl) (by kernel_rfl) (by kernel_rfl) q7 (by kernel_rfl) q9 (by kernel_rfl) (by kernel_rfl) (by kernel_rfl) (by kernel_rfl) (by kernel_rfl) (by kernel_rfl) (by kernel_rfl) (by kernel_rfl) (by kernel_rfl) (by kernel_rfl) (by kernel_rfl) (by kernel_rfl) (by kernel_rfl)
    (by rw [q22]; kernel_rfl) (by kernel_rfl) q23 head_enter (by kernel_rfl) head_lifts head_make (by kernel_rfl) (by kernel_rfl) (by kernel_rfl) (by kernel_rfl) (by kernel_rfl)

theorem FnExactAddDeques_holds : Rows.FnExactAddDequesSaid :=
  OpenClaim.holds_of_wide 21 Try.f21 rfl rfl rfl rfl rfl rfl rfl ⟨rfl, rfl, rfl, rfl, rfl⟩ rfl rfl rfl rfl rfl (by kernel_rfl) Try.func21 FnExactAddDeques_facts
    (of_decide_eq_true (by kernel_rfl)) (by unfold Func.isWrapper; first | (rw [if_pos (by decide +kernel)]; kernel_rfl) | (rw [if_neg (by decide +kernel)]; exact ⟨rfl, rfl⟩))
    (fun os started H enc _ => FnExactAddDeques_lifted os started H enc)
end Go.Proofs.Ytigiliakcmpekaa
