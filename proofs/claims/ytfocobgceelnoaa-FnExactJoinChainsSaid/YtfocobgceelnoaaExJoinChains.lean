/-
  FnExactJoinChains: true, for every argument.
-/
import Derived.Test.YtfocobgceelnoaaOpen
import Derived.Deep.RegionHeld3
import Derived.Test.YtfocobgceelnoaaThing2
import Derived.Test.YtfocobgceelnoaaJnS
import Derived.Test.YtfocobgceelnoaaOpenM
import Derived.Test.YtfocobgceelnoaaChnO
namespace Go.Proofs.Ytfocobgceelnoaa
open Go.ChangeShapes Go.WideShapes Go.ChangeAt Go.RowKit Go.Deep
open Go.ChangeMaps (open_string)

set_option maxHeartbeats 40000000 in
set_option maxRecDepth 100000 in
theorem FnExactJoinChains_gen (va : Value) (a : List (List Itm)) (vb : Value) (b : List (List Itm)) (w : World) (ha : Maps w va a) (hb : Maps w vb b) (G0 : List (List Itm)) (K1 : Bool) (hG : tot G0 ≤ 10000000) 
    (hs : ∀ va' vb' w', Maps w' va' a → Maps w' vb' b → Calls Try.prog 24 #[.agg #[va'], .agg #[vb']] w' (NewMR (fun v => .tuple #[.agg #[v], .bool K1]) G0 w'))
    (hi : ∀ va' vb' w', Maps w' va' a → Maps w' vb' b → Calls Try.prog 25 #[.agg #[va'], .agg #[vb']] w' (NewM (fun v => .tuple #[.agg #[v], .bool K1]) G0 w')) :
    Calls Try.prog 4 #[.agg #[va], .agg #[vb]] w fun e w' => e = .returned (.bool true) ∧ Below w.heap.size w w' := by
  have H := Things.nil w
  go_enter Try.func4, Try.ntmps4
  have HB0 := H.boxed 24 [va]
  clear H
  have qpa0 := HB0.box1 0 rfl
  have HB0x1 := HB0.boxedAs (w.heap.size + 1) (by simp) 24 [vb]
  clear HB0
  clear qpa0
  have qpa0 := HB0x1.box1 1 rfl
  have qpb0 := HB0x1.box1 0 rfl
  go_wp2_with fail
  refine (szM_T HB0x1 ha (by omega) (by omega)).mono ?_
  rintro e w1 ⟨ra, rfl, hua, hla, H1⟩
  clear HB0x1
  clear qpa0 qpb0
  have qpa0 := H1.box1 1 rfl
  have qpb0 := H1.box1 0 rfl
  by_cases hra : ra < 0
  · go_wp2
    go_ret
    exact ⟨rfl, H1.below⟩
  have hna := hla hra
  clear hla
  go_wp2_with fail
  refine (szM_T H1 hb (by omega) hua).mono ?_
  rintro e w2 ⟨rb, rfl, hub, hlb, H2⟩
  clear H1
  clear qpa0 qpb0
  have qpa0 := H2.box1 1 rfl
  have qpb0 := H2.box1 0 rfl
  by_cases hrb : rb < 0
  · go_wp2
    go_ret
    exact ⟨rfl, H2.below⟩
  have hnb := hlb hrb
  clear hlb
  go_wp2_with fail
  have HD2 := H2.quiet (Below.refl _ _).drew
  have HZ2 : Things w (w2.alloc (.cells #[.slice none 0 0] 30)).drew (boxT w2.heap.size 30 [.slice none 0 0] :: _) := (H2.boxed 30 [.slice none 0 0]).quiet (Below.refl _ _).drew
  go_region_held3 (fun WW : World => (WW.cell? ⟨w.heap.size, 0, none⟩ = some (va)) ∧ (WW.cell? ⟨w.heap.size + 1, 0, none⟩ = some (vb)))
    (first | exact ⟨H2.box1 1 rfl, H2.box1 0 rfl⟩ | exact ⟨HZ2.box1 2 rfl, HZ2.box1 1 rfl⟩ | assumption | exact hS3 | exact hZ3 | exact hS4 | exact hZ4 | exact hS5 | exact ⟨HB5.box1 5 rfl, HB5.box1 4 rfl⟩ | exact ⟨HZ5.box1 5 rfl, HZ5.box1 4 rfl⟩)
    (first
      | (go_at_call 16; with_reducible refine (toM_T HD2 ha hna.1 hna.2).mono ?_; rintro e w3 ⟨sa, rfl, H3⟩; have hS3 : (w3.cell? ⟨w.heap.size, 0, none⟩ = some (va)) ∧ (w3.cell? ⟨w.heap.size + 1, 0, none⟩ = some (vb)) := ⟨H3.box1 2 rfl, H3.box1 1 rfl⟩; have HZ3 : Things w (w3.alloc (.cells #[.slice none 0 0] 30)) (boxT w3.heap.size 30 [.slice none 0 0] :: _) := H3.boxed 30 [.slice none 0 0]; have hZ3 : ((w3.alloc (.cells #[.slice none 0 0] 30)).cell? ⟨w.heap.size, 0, none⟩ = some (va)) ∧ ((w3.alloc (.cells #[.slice none 0 0] 30)).cell? ⟨w.heap.size + 1, 0, none⟩ = some (vb)) := ⟨HZ3.box1 3 rfl, HZ3.box1 2 rfl⟩)
      | (go_at_call 16; with_reducible refine (toM_T HZ2 ha hna.1 hna.2).mono ?_; rintro e w3 ⟨sa, rfl, H3z⟩; have hS3 : (w3.cell? ⟨w.heap.size, 0, none⟩ = some (va)) ∧ (w3.cell? ⟨w.heap.size + 1, 0, none⟩ = some (vb)) := ⟨H3z.box1 3 rfl, H3z.box1 2 rfl⟩)
      | (go_at_call 16; with_reducible refine (toM_T H3 hb hnb.1 hnb.2).mono ?_; rintro e w4 ⟨sb, rfl, H4⟩; have hS4 : (w4.cell? ⟨w.heap.size, 0, none⟩ = some (va)) ∧ (w4.cell? ⟨w.heap.size + 1, 0, none⟩ = some (vb)) := ⟨H4.box1 3 rfl, H4.box1 2 rfl⟩; have HZ4 : Things w (w4.alloc (.cells #[.slice none 0 0] 30)) (boxT w4.heap.size 30 [.slice none 0 0] :: _) := H4.boxed 30 [.slice none 0 0]; have hZ4 : ((w4.alloc (.cells #[.slice none 0 0] 30)).cell? ⟨w.heap.size, 0, none⟩ = some (va)) ∧ ((w4.alloc (.cells #[.slice none 0 0] 30)).cell? ⟨w.heap.size + 1, 0, none⟩ = some (vb)) := ⟨HZ4.box1 4 rfl, HZ4.box1 3 rfl⟩)
      | (go_at_call 16; with_reducible refine (toM_T HZ3 hb hnb.1 hnb.2).mono ?_; rintro e w4 ⟨sb, rfl, H4z⟩; have HC4 := Things.swap [] H4z; have hS4 : (w4.cell? ⟨w.heap.size, 0, none⟩ = some (va)) ∧ (w4.cell? ⟨w.heap.size + 1, 0, none⟩ = some (vb)) := ⟨H4z.box1 4 rfl, H4z.box1 3 rfl⟩)
      | (go_at_call 16; with_reducible refine (toM_T H3z hb hnb.1 hnb.2).mono ?_; rintro e w4 ⟨sb, rfl, H4z⟩; have HC4 := Things.swap [] (Things.swap [_] H4z); have hS4 : (w4.cell? ⟨w.heap.size, 0, none⟩ = some (va)) ∧ (w4.cell? ⟨w.heap.size + 1, 0, none⟩ = some (vb)) := ⟨H4z.box1 4 rfl, H4z.box1 3 rfl⟩)
      | (go_at_call 24; (with_reducible refine (hs _ _ _ (H4.mapsO 1 rfl) (H4.mapsO 0 rfl)).mono ?_); rintro e w5 ⟨w0, rfl, ho, hbl⟩; have H5 := H4.newMR ho hbl; obtain ⟨w0p, w0c, rfl, _, _⟩ := (H5.mapsR 0 rfl).slice; have hS5 : (w5.cell? ⟨w.heap.size, 0, none⟩ = some (va)) ∧ (w5.cell? ⟨w.heap.size + 1, 0, none⟩ = some (vb)) := ⟨H5.box1 4 rfl, H5.box1 3 rfl⟩; have HB5 := H5.boxed 30 [.slice w0p G0.length w0c]; have HZ5 := H5.boxed 30 [.slice none 0 0])
      | (go_at_call 24; (with_reducible refine (hs _ _ _ (HZ4.mapsO 2 rfl) (HZ4.mapsO 1 rfl)).mono ?_); rintro e w5 ⟨w0, rfl, ho, hbl⟩; have H5z := HZ4.newMR ho hbl; have HC5 := Things.swap [] H5z; obtain ⟨w0p, w0c, rfl, _, _⟩ := (H5z.mapsR 0 rfl).slice; have hS5 : (w5.cell? ⟨w.heap.size, 0, none⟩ = some (va)) ∧ (w5.cell? ⟨w.heap.size + 1, 0, none⟩ = some (vb)) := ⟨H5z.box1 5 rfl, H5z.box1 4 rfl⟩; have zc0 := HC5.box1 0 rfl; have zf0 := HC5.boxfree 0 rfl 0; have HB5 := HC5.store1 (.slice w0p G0.length w0c))
      | (go_at_call 24; (with_reducible refine (hs _ _ _ (HC4.mapsO 2 rfl) (HC4.mapsO 1 rfl)).mono ?_); rintro e w5 ⟨w0, rfl, ho, hbl⟩; have H5z := HC4.newMR ho hbl; have HC5 := Things.swap [] H5z; obtain ⟨w0p, w0c, rfl, _, _⟩ := (H5z.mapsR 0 rfl).slice; have hS5 : (w5.cell? ⟨w.heap.size, 0, none⟩ = some (va)) ∧ (w5.cell? ⟨w.heap.size + 1, 0, none⟩ = some (vb)) := ⟨H5z.box1 5 rfl, H5z.box1 4 rfl⟩; have zc0 := HC5.box1 0 rfl; have zf0 := HC5.boxfree 0 rfl 0; have HB5 := HC5.store1 (.slice w0p G0.length w0c)))
  clear qpa0 qpb0
  all_goals
    have qpa0 := HB5.box1 5 rfl
    have qpb0 := HB5.box1 4 rfl
    have qcw00 := HB5.box1 0 rfl
    go_wp2_with fail
    refine (toM_T HB5 ha hna.1 hna.2).mono ?_
    rintro e w6 ⟨xa, rfl, H6⟩
    clear HB5
    clear qpa0 qpb0 qcw00
    have qpa0 := H6.box1 6 rfl
    have qpb0 := H6.box1 5 rfl
    have qcw00 := H6.box1 1 rfl
    obtain ⟨xap, xac, rfl, _, _⟩ := (H6.mapsO 0 rfl).slice
    have HB6 := H6.boxed 30 [.slice xap a.length xac]
    clear H6
    clear qpa0 qpb0 qcw00
    have qpa0 := HB6.box1 7 rfl
    have qpb0 := HB6.box1 6 rfl
    have qcw00 := HB6.box1 2 rfl
    have qbxa0 := HB6.box1 0 rfl
    go_wp2_with fail
    refine (toM_T HB6 hb hnb.1 hnb.2).mono ?_
    rintro e w7 ⟨xb, rfl, H7⟩
    clear HB6
    clear qpa0 qpb0 qcw00 qbxa0
    have qpa0 := H7.box1 8 rfl
    have qpb0 := H7.box1 7 rfl
    have qcw00 := H7.box1 3 rfl
    have qbxa0 := H7.box1 1 rfl
    obtain ⟨xbp, xbc, rfl, _, _⟩ := (H7.mapsO 0 rfl).slice
    have HB7 := H7.boxed 30 [.slice xbp b.length xbc]
    clear H7
    clear qpa0 qpb0 qcw00 qbxa0
    have qpa0 := HB7.box1 9 rfl
    have qpb0 := HB7.box1 8 rfl
    have qcw00 := HB7.box1 4 rfl
    have qbxa0 := HB7.box1 2 rfl
    have qbxb0 := HB7.box1 0 rfl
    go_wp2_with fail
    refine (hi _ _ _ (HB7.mapsO 3 rfl) (HB7.mapsO 1 rfl)).mono ?_
    rintro e w8 ⟨g0, rfl, ho, hbl⟩
    have H8 := HB7.newM ho hbl
    clear ho hbl HB7
    clear qpa0 qpb0 qcw00 qbxa0 qbxb0
    have qpa0 := H8.box1 10 rfl
    have qpb0 := H8.box1 9 rfl
    have qcw00 := H8.box1 5 rfl
    have qbxa0 := H8.box1 3 rfl
    have qbxb0 := H8.box1 1 rfl
    obtain ⟨g0p, g0c, rfl, _, _⟩ := (H8.mapsO 0 rfl).slice
    have HB8 := H8.boxed 30 [.slice g0p G0.length g0c]
    clear H8
    clear qpa0 qpb0 qcw00 qbxa0 qbxb0
    have qpa0 := HB8.box1 11 rfl
    have qpb0 := HB8.box1 10 rfl
    have qcw00 := HB8.box1 6 rfl
    have qbxa0 := HB8.box1 4 rfl
    have qbxb0 := HB8.box1 2 rfl
    have qcg00 := HB8.box1 0 rfl
    go_wp2_with fail
    refine (eqM_T HB8 (HB8.mapsO 1 rfl) (HB8.mapsR 7 rfl)).mono ?_
    rintro e w9 ⟨rfl, H9⟩
    clear HB8
    clear qpa0 qpb0 qcw00 qbxa0 qbxb0 qcg00
    have qpa0 := H9.box1 11 rfl
    have qpb0 := H9.box1 10 rfl
    have qcw00 := H9.box1 6 rfl
    have qbxa0 := H9.box1 4 rfl
    have qbxb0 := H9.box1 2 rfl
    have qcg00 := H9.box1 0 rfl
    go_wp2_with fail
    have HD9 := H9.quiet (Below.refl _ _).drew
    go_region_held3 (fun w' : World => (w'.cell? ⟨w6.heap.size, 0, none⟩ = some (.slice xap a.length xac)) ∧ (w'.cell? ⟨w.heap.size, 0, none⟩ = some (va)))
      (first | exact ⟨H9.box1 4 rfl, H9.box1 11 rfl⟩ | assumption | exact hS10 | exact hS11)
      (first
        | (go_at_call 16; refine (toM_T HD9 ha hna.1 hna.2).mono ?_; rintro e w10 ⟨ya, rfl, H10⟩; have hS10 := And.intro (H10.box1 5 rfl) (H10.box1 12 rfl))
        | (go_at_call 19; refine (eqM_T H10 (H10.mapsO 6 rfl) (H10.mapsO 0 rfl)).mono ?_; rintro e w11 ⟨rfl, H11⟩; have hS11 := And.intro (H11.box1 5 rfl) (H11.box1 12 rfl)))
    clear H9 HD9 H10 hS10 hS11
    clear qpa0 qpb0 qcw00 qbxa0 qbxb0 qcg00
    have qpa0 := H11.box1 12 rfl
    have qpb0 := H11.box1 11 rfl
    have qcw00 := H11.box1 7 rfl
    have qbxa0 := H11.box1 5 rfl
    have qbxb0 := H11.box1 3 rfl
    have qcg00 := H11.box1 1 rfl
    go_wp2_with fail
    have HD11 := H11.quiet (Below.refl _ _).drew
    go_region_held3 (fun w' : World => (w'.cell? ⟨w7.heap.size, 0, none⟩ = some (.slice xbp b.length xbc)) ∧ (w'.cell? ⟨w.heap.size + 1, 0, none⟩ = some (vb)))
      (first | exact ⟨H11.box1 3 rfl, H11.box1 11 rfl⟩ | assumption | exact hS12 | exact hS13)
      (first
        | (go_at_call 16; refine (toM_T HD11 hb hnb.1 hnb.2).mono ?_; rintro e w12 ⟨yb, rfl, H12⟩; have hS12 := And.intro (H12.box1 4 rfl) (H12.box1 12 rfl))
        | (go_at_call 19; refine (eqM_T H12 (H12.mapsO 5 rfl) (H12.mapsO 0 rfl)).mono ?_; rintro e w13 ⟨rfl, H13⟩; have hS13 := And.intro (H13.box1 4 rfl) (H13.box1 12 rfl)))
    clear H11 HD11 H12 hS12 hS13
    clear qpa0 qpb0 qcw00 qbxa0 qbxb0 qcg00
    have qpa0 := H13.box1 13 rfl
    have qpb0 := H13.box1 12 rfl
    have qcw00 := H13.box1 8 rfl
    have qbxa0 := H13.box1 6 rfl
    have qbxb0 := H13.box1 4 rfl
    have qcg00 := H13.box1 2 rfl
    go_wp2_with fail
    refine (markM_T H13 7 1 rfl (by omega) (by omega)).mono ?_
    rintro e w14 ⟨ka, rfl, hpa, hka, H14⟩
    clear H13
    clear qpa0 qpb0 qcw00 qbxa0 qbxb0 qcg00
    have qpa0 := H14.box1 13 rfl
    have qpb0 := H14.box1 12 rfl
    have qcw00 := H14.box1 8 rfl
    have qbxa0 := H14.box1 6 rfl
    have qbxb0 := H14.box1 4 rfl
    have qcg00 := H14.box1 2 rfl
    have hka' : ka ≤ 5000000 := by have := hka.out; omega
    have hka'' : 0 < ka := by have := hka.out; omega
    clear hpa
    go_wp2_with fail
    refine (markM_T H14 5 ka rfl (by omega) (by omega)).mono ?_
    rintro e w15 ⟨kb, rfl, hpb, hkb, H15⟩
    clear H14
    clear qpa0 qpb0 qcw00 qbxa0 qbxb0 qcg00
    have qpa0 := H15.box1 13 rfl
    have qpb0 := H15.box1 12 rfl
    have qcw00 := H15.box1 8 rfl
    have qbxa0 := H15.box1 6 rfl
    have qbxb0 := H15.box1 4 rfl
    have qcg00 := H15.box1 2 rfl
    have hkb' : kb ≤ 10000000 := by have := hkb.out; omega
    have hkb'' : 0 < kb := by have := hkb.out; omega
    go_wp2_with fail
    refine (eqM_T H15 (H15.mapsO 3 rfl) (H15.mapsR 9 rfl)).mono ?_
    rintro e w16 ⟨rfl, H16⟩
    clear H15
    clear qpa0 qpb0 qcw00 qbxa0 qbxb0 qcg00
    have qpa0 := H16.box1 13 rfl
    have qpb0 := H16.box1 12 rfl
    have qcw00 := H16.box1 8 rfl
    have qbxa0 := H16.box1 6 rfl
    have qbxb0 := H16.box1 4 rfl
    have qcg00 := H16.box1 2 rfl
    go_wp2_with fail
    refine (markM_T H16 3 1 rfl (by omega) (by omega)).mono ?_
    rintro e w17 ⟨m, rfl, hpm, hm, H17⟩
    clear H16
    clear qpa0 qpb0 qcw00 qbxa0 qbxb0 qcg00
    have qpa0 := H17.box1 13 rfl
    have qpb0 := H17.box1 12 rfl
    have qcw00 := H17.box1 8 rfl
    have qbxa0 := H17.box1 6 rfl
    have qbxb0 := H17.box1 4 rfl
    have qcg00 := H17.box1 2 rfl
    go_wp2_with fail
    refine (heldM_T H17 3 rfl (by omega) (by omega) hm).mono ?_
    rintro e w18 ⟨rfl, H18⟩
    clear H17
    clear qpa0 qpb0 qcw00 qbxa0 qbxb0 qcg00
    have qpa0 := H18.box1 13 rfl
    have qpb0 := H18.box1 12 rfl
    have qcw00 := H18.box1 8 rfl
    have qbxa0 := H18.box1 6 rfl
    have qbxb0 := H18.box1 4 rfl
    have qcg00 := H18.box1 2 rfl
    go_wp2_with fail
    have HD18 := H18.quiet (Below.refl _ _).drew
    have HZ18 : Things w (w18.alloc (.cells #[.slice none 0 0] 30)).drew (boxT w18.heap.size 30 [.slice none 0 0] :: _) := (H18.boxed 30 [.slice none 0 0]).quiet (Below.refl _ _).drew
    go_region_held3 (fun WW : World => (WW.cell? ⟨w.heap.size, 0, none⟩ = some (va)) ∧ (WW.cell? ⟨w.heap.size + 1, 0, none⟩ = some (vb)))
      (first | exact ⟨H18.box1 13 rfl, H18.box1 12 rfl⟩ | exact ⟨HZ18.box1 14 rfl, HZ18.box1 13 rfl⟩ | assumption | exact hS19 | exact hZ19 | exact hS20 | exact hZ20 | exact hS21 | exact ⟨HB21.box1 17 rfl, HB21.box1 16 rfl⟩ | exact ⟨HZ21.box1 17 rfl, HZ21.box1 16 rfl⟩)
      (first
        | (go_at_call 16; with_reducible refine (toM_T HD18 ha hna.1 hna.2).mono ?_; rintro e w19 ⟨za, rfl, H19⟩; have hS19 : (w19.cell? ⟨w.heap.size, 0, none⟩ = some (va)) ∧ (w19.cell? ⟨w.heap.size + 1, 0, none⟩ = some (vb)) := ⟨H19.box1 14 rfl, H19.box1 13 rfl⟩; have HZ19 : Things w (w19.alloc (.cells #[.slice none 0 0] 30)) (boxT w19.heap.size 30 [.slice none 0 0] :: _) := H19.boxed 30 [.slice none 0 0]; have hZ19 : ((w19.alloc (.cells #[.slice none 0 0] 30)).cell? ⟨w.heap.size, 0, none⟩ = some (va)) ∧ ((w19.alloc (.cells #[.slice none 0 0] 30)).cell? ⟨w.heap.size + 1, 0, none⟩ = some (vb)) := ⟨HZ19.box1 15 rfl, HZ19.box1 14 rfl⟩)
        | (go_at_call 16; with_reducible refine (toM_T HZ18 ha hna.1 hna.2).mono ?_; rintro e w19 ⟨za, rfl, H19z⟩; have hS19 : (w19.cell? ⟨w.heap.size, 0, none⟩ = some (va)) ∧ (w19.cell? ⟨w.heap.size + 1, 0, none⟩ = some (vb)) := ⟨H19z.box1 15 rfl, H19z.box1 14 rfl⟩)
        | (go_at_call 16; with_reducible refine (toM_T H19 hb hnb.1 hnb.2).mono ?_; rintro e w20 ⟨zb, rfl, H20⟩; have hS20 : (w20.cell? ⟨w.heap.size, 0, none⟩ = some (va)) ∧ (w20.cell? ⟨w.heap.size + 1, 0, none⟩ = some (vb)) := ⟨H20.box1 15 rfl, H20.box1 14 rfl⟩; have HZ20 : Things w (w20.alloc (.cells #[.slice none 0 0] 30)) (boxT w20.heap.size 30 [.slice none 0 0] :: _) := H20.boxed 30 [.slice none 0 0]; have hZ20 : ((w20.alloc (.cells #[.slice none 0 0] 30)).cell? ⟨w.heap.size, 0, none⟩ = some (va)) ∧ ((w20.alloc (.cells #[.slice none 0 0] 30)).cell? ⟨w.heap.size + 1, 0, none⟩ = some (vb)) := ⟨HZ20.box1 16 rfl, HZ20.box1 15 rfl⟩)
        | (go_at_call 16; with_reducible refine (toM_T HZ19 hb hnb.1 hnb.2).mono ?_; rintro e w20 ⟨zb, rfl, H20z⟩; have HC20 := Things.swap [] H20z; have hS20 : (w20.cell? ⟨w.heap.size, 0, none⟩ = some (va)) ∧ (w20.cell? ⟨w.heap.size + 1, 0, none⟩ = some (vb)) := ⟨H20z.box1 16 rfl, H20z.box1 15 rfl⟩)
        | (go_at_call 16; with_reducible refine (toM_T H19z hb hnb.1 hnb.2).mono ?_; rintro e w20 ⟨zb, rfl, H20z⟩; have HC20 := Things.swap [] (Things.swap [_] H20z); have hS20 : (w20.cell? ⟨w.heap.size, 0, none⟩ = some (va)) ∧ (w20.cell? ⟨w.heap.size + 1, 0, none⟩ = some (vb)) := ⟨H20z.box1 16 rfl, H20z.box1 15 rfl⟩)
        | (go_at_call 25; (with_reducible refine (hi _ _ _ (H20.mapsO 1 rfl) (H20.mapsO 0 rfl)).mono ?_); rintro e w21 ⟨h0, rfl, ho, hbl⟩; have H21 := H20.newM ho hbl; obtain ⟨h0p, h0c, rfl, _, _⟩ := (H21.mapsO 0 rfl).slice; have hS21 : (w21.cell? ⟨w.heap.size, 0, none⟩ = some (va)) ∧ (w21.cell? ⟨w.heap.size + 1, 0, none⟩ = some (vb)) := ⟨H21.box1 16 rfl, H21.box1 15 rfl⟩; have HB21 := H21.boxed 30 [.slice h0p G0.length h0c]; have HZ21 := H21.boxed 30 [.slice none 0 0])
        | (go_at_call 25; (with_reducible refine (hi _ _ _ (HZ20.mapsO 2 rfl) (HZ20.mapsO 1 rfl)).mono ?_); rintro e w21 ⟨h0, rfl, ho, hbl⟩; have H21z := HZ20.newM ho hbl; have HC21 := Things.swap [] H21z; obtain ⟨h0p, h0c, rfl, _, _⟩ := (H21z.mapsO 0 rfl).slice; have hS21 : (w21.cell? ⟨w.heap.size, 0, none⟩ = some (va)) ∧ (w21.cell? ⟨w.heap.size + 1, 0, none⟩ = some (vb)) := ⟨H21z.box1 17 rfl, H21z.box1 16 rfl⟩; have zc0 := HC21.box1 0 rfl; have zf0 := HC21.boxfree 0 rfl 0; have HB21 := HC21.store1 (.slice h0p G0.length h0c))
        | (go_at_call 25; (with_reducible refine (hi _ _ _ (HC20.mapsO 2 rfl) (HC20.mapsO 1 rfl)).mono ?_); rintro e w21 ⟨h0, rfl, ho, hbl⟩; have H21z := HC20.newM ho hbl; have HC21 := Things.swap [] H21z; obtain ⟨h0p, h0c, rfl, _, _⟩ := (H21z.mapsO 0 rfl).slice; have hS21 : (w21.cell? ⟨w.heap.size, 0, none⟩ = some (va)) ∧ (w21.cell? ⟨w.heap.size + 1, 0, none⟩ = some (vb)) := ⟨H21z.box1 17 rfl, H21z.box1 16 rfl⟩; have zc0 := HC21.box1 0 rfl; have zf0 := HC21.boxfree 0 rfl 0; have HB21 := HC21.store1 (.slice h0p G0.length h0c)))
    clear qpa0 qpb0 qcw00 qbxa0 qbxb0 qcg00
    all_goals
      have qpa0 := HB21.box1 17 rfl
      have qpb0 := HB21.box1 16 rfl
      have qcw00 := HB21.box1 12 rfl
      have qbxa0 := HB21.box1 10 rfl
      have qbxb0 := HB21.box1 8 rfl
      have qcg00 := HB21.box1 6 rfl
      have qch00 := HB21.box1 0 rfl
      go_wp2_with fail
      refine (eqM_T HB21 (HB21.mapsO 1 rfl) (HB21.mapsR 13 rfl)).mono ?_
      rintro e w22 ⟨rfl, H22⟩
      clear HB21
      clear qpa0 qpb0 qcw00 qbxa0 qbxb0 qcg00 qch00
      have qpa0 := H22.box1 17 rfl
      have qpb0 := H22.box1 16 rfl
      have qcw00 := H22.box1 12 rfl
      have qbxa0 := H22.box1 10 rfl
      have qbxb0 := H22.box1 8 rfl
      have qcg00 := H22.box1 6 rfl
      have qch00 := H22.box1 0 rfl
      go_wp2_with fail
      refine (heldM_T H22 7 rfl (by omega) (by omega) hm).mono ?_
      rintro e w23 ⟨rfl, H23⟩
      clear H22
      clear qpa0 qpb0 qcw00 qbxa0 qbxb0 qcg00 qch00
      have qpa0 := H23.box1 17 rfl
      have qpb0 := H23.box1 16 rfl
      have qcw00 := H23.box1 12 rfl
      have qbxa0 := H23.box1 10 rfl
      have qbxb0 := H23.box1 8 rfl
      have qcg00 := H23.box1 6 rfl
      have qch00 := H23.box1 0 rfl
      go_wp2
      go_ret
      exact ⟨rfl, H23.below⟩

theorem FnExactJoinChains_walk (va : Value) (a : List (List Itm)) (vb : Value) (b : List (List Itm)) (w : World) (ha : Maps w va a) (hb : Maps w vb b) :
    Calls Try.prog 4 #[.agg #[va], .agg #[vb]] w fun e w' => e = .returned (.bool true) ∧ Below w.heap.size w w' :=
  FnExactJoinChains_gen va a vb b w ha hb _ _ (jn_le a b) (fun va' vb' w' h h' => (sJoinChains_any va' vb' a b w' h h').mono fun _ _ h => h.weak) (fun va' vb' w' h h' => JoinChains_any va' vb' a b w' h h')

set_option maxRecDepth 100000 in
theorem FnExactJoinChains_lifted (os : Os) (started : os.Started) (H : Type) (enc : TypeId × Value → H) :
    ReturnsInHanded {} Try.checked os 4 .any (Rows.fnExactJoinChainsSpec.pre6 enc Try.prog Try.f4 Rows.fnExactJoinChainsRow.domain false) (Rows.fnExactJoinChainsSpec.post enc Try.prog Try.f4 false true false false) := by
  refine returnsInHanded_of_change (C := Try.checked) own started (by kernel_rfl) Try.func4
    (ChangeSpec.witness6 (enc := enc) (C := Try.checked) false ⟨#[], #[.agg #[.slice none 0 0], .agg #[.slice none 0 0]], []⟩ 8 (by kernel_rfl) (by kernel_rfl) (by kernel_rfl) (by kernel_rfl)) ?_
  intro W base args ds gs before hval0 hW _ _
  have hval : ∀ (j : Nat) t v, Try.f4.params[j]? = some t → args[j]? = some v → Value.okWide Try.prog W .any base t v := hval0
  have hW' := hW
  obtain ⟨p, q, hA0, hV, rfl, _, _⟩ := hW
  have hA : DataW.TrodAll enc Try.prog W 0 (fun _ => true) true Try.f4.params.toList args.toList ds p := hA0
  rw [Try.params4] at hA hval
  obtain ⟨v0, vs0, d0, ds0, p0, q0, hargs, rfl, rfl, h0, r0⟩ := trodAll_cons hA
  obtain ⟨v1, vs1, d1, ds1, p1, q1, rfl, rfl, rfl, h1, r1⟩ := trodAll_cons r0
  obtain ⟨rfl, rfl, rfl⟩ := trodAll_nil r1
  obtain rfl : args = #[v0, v1] := by cases args; simp_all
  obtain ⟨rfl, rfl⟩ := trodVars_none hV
  obtain ⟨u0, xs0, rfl, hI0⟩ := open_chain (hval 0 _ v0 rfl rfl) h0
  obtain ⟨u1, xs1, rfl, hI1⟩ := open_chain (hval 1 _ v1 rfl rfl) h1
  refine (FnExactJoinChains_walk u0 xs0 u1 xs1 W hI0 hI1).mono fun e W' ⟨he, hb⟩ => ⟨_, he, ?_⟩
  exact law_end rfl (by rw [Try.params4]; decide +kernel) rfl hW' rfl rfl rfl hb

theorem FnExactJoinChains_facts : joinedFacts Try.prog 4 Try.f4 Rows.fnExactJoinChainsSpec Rows.fnExactJoinChainsRow = true :=
  facts_of (by kernel_rfl) q2 q3 (by kernel_rfl) (by kernel_rfl) (by kernel_rfl) q7 (by kernel_rfl) q9 (by kernel_rfl) (by kernel_rfl) (by kernel_rfl) (by kernel_rfl) (by kernel_rfl) (by kernel_rfl) (by kernel_rfl) (by kernel_rfl) (by kernel_rfl) (by kernel_rfl) (by kernel_rfl) (by kernel_rfl) (by kernel_rfl)
    (by rw [q22]; kernel_rfl) (by kernel_rfl) q23 head_enter (by kernel_rfl) head_lifts head_make (by kernel_rfl) (by kernel_rfl) (by kernel_rfl) (by kernel_rfl) (by kernel_rfl)

theorem FnExactJoinChains_holds : Rows.FnExactJoinChainsSaid :=
  OpenClaim.holds_of_wide 4 Try.f4 rfl rfl rfl rfl rfl rfl rfl ⟨rfl, rfl, rfl, rfl, rfl⟩ rfl rfl rfl rfl rfl (by kernel_rfl) Try.func4 FnExactJoinChains_facts
    (of_decide_eq_true (by kernel_rfl)) (by unfold Func.isWrapper; first | (rw [if_pos (by decide +kernel)]; kernel_rfl) | (rw [if_neg (by decide +kernel)]; exact ⟨rfl, rfl⟩))
    (fun os started H enc _ => FnExactJoinChains_lifted os started H enc)
end Go.Proofs.Ytfocobgceelnoaa
