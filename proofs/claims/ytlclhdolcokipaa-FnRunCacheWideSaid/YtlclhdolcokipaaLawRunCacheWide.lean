/-
  FnRunCacheWide: true, for every code.
-/
import Derived.Deep.RegionHeld3
import Derived.Test.YtlclhdolcokipaaH11
import Derived.Test.YtlclhdolcokipaaH15
import Derived.Test.YtlclhdolcokipaaH16
import Derived.Test.YtlclhdolcokipaaH20
import Derived.Test.YtlclhdolcokipaaH21
namespace Go.Proofs.Ytlclhdolcokipaa
open Go.RowKit
open Go.ChangeShapes Go.WideShapes Go.ChangeAt Go.Deep

theorem wide_parts {xs : List Itm} {m g s : Int} {ks : List ByteArray} (h : rkB xs m g s ks = true) : rzB xs m g s 8 = true ∧ rzL xs m g s 8 = xs ∧ rzM xs m g s 8 = 8 ∧ rzG xs m g s 8 = g ∧ rzS xs m g s 8 = s ∧ rkB xs 8 g s ks = true ∧ ∃ k : Nat, (rcR 8 (xs, g, s) ks).1.length = k + (rcR m (xs, g, s) ks).1.length ∧ keysL ((rcR 8 (xs, g, s) ks).1.drop k) = keysL (rcR m (xs, g, s) ks).1 ∧ (rcR m (xs, g, s) ks).2.1 ≤ (rcR 8 (xs, g, s) ks).2.1 ∧ (rcR 8 (xs, g, s) ks).1.length ≤ 8 := by
  obtain ⟨hv, hl, hk⟩ := rk_parts h
  obtain ⟨hvi, hm, hlm, hg, hs⟩ := vc_yes hv
  have h8 : (vcB xs m g s && rgB 8 1 8) = true := by rw [hv]; rfl
  obtain ⟨r1, r2, r3, r4, r5⟩ := rz_yes h8
  have hv8 : vcB xs 8 g s = true := vc_mk hvi (by omega) (by omega) hg hs
  have hw := wide_all hm ks (xs, g, s) (xs, g, s) hv hv8 hk ⟨⟨[], rfl, .inl rfl⟩, Int.le_refl _, hg.2, hg.2⟩
  have hv8r := rk_all (m := 8) ks (xs, g, s) hv8 hk
  obtain ⟨⟨A, hA, _⟩, hgg, _, _⟩ := hw
  refine ⟨r5, ?_, r2, r3, r4, ?_, A.length, ?_, ?_, hgg, ((validI_iff _).1 (vc_yes hv8r).1).2.2⟩
  · rw [r1, show xs.length - (8 : Int).toNat = 0 by have : (8 : Int).toNat = 8 := rfl; omega, List.drop_zero]
  · unfold rkB
    rw [hv8, decide_eq_true hl, hk]
    rfl
  · rw [← keys_len, hA, List.length_append, keys_len]
  · rw [keys_drop, hA, List.drop_left]

set_option maxHeartbeats 4000000 in
set_option maxRecDepth 100000 in
theorem FnRunCacheWide_walk (v : Value) (bs : List Int) (w : World) (h : Bytes w v bs) :
    Calls Try.prog 8 #[v] w fun e w' => e = .returned (.bool true) ∧ Below w.heap.size w w' := by
  have h0 := h
  obtain ⟨ao, cap, rfl, hl, hc, hok, hcell⟩ := h0
  clear hcell hok
  go_enter Try.func8, Try.ntmps8
  by_cases hbig : (1048576 : Int) < (bs.length : Int)
  · go_wp2
    go_ret
    exact ⟨rfl, Below.refl _ _⟩
  go_wp2_with fail
  refine (DrawRunCache_any _ bs w h).mono ?_
  rintro e w1 ⟨vc, xs, m, g, s, vk, ks, rfl, hbd, hkl, hxa, hta, hb1⟩
  obtain ⟨cp, cc, rfl, hcc, hcm⟩ := Items.shape0 hxa
  obtain ⟨kp, kc, rfl, hkc, hkm⟩ := Texts.shape hta
  have HXc := Lib.hid hxa
  have HXk := Lib.hid hta
  have H1 := Things.nil w1
  have H2 := H1.boxed 25 [.slice cp xs.length cc, .int .i64 m, .int .i64 g, .int .i64 s]
  clear hxa hta H1 h
  obtain ⟨G, hG⟩ : ∃ G, Hid (G = rkL xs m g s ks) := ⟨_, Lib.hid rfl⟩
  obtain ⟨gm, hgm⟩ : ∃ gm, Hid (gm = rkZ xs m g s ks m) := ⟨_, Lib.hid rfl⟩
  obtain ⟨gg, hgg⟩ : ∃ gg, Hid (gg = rkZ xs m g s ks (rcR m (xs, g, s) ks).2.1) := ⟨_, Lib.hid rfl⟩
  obtain ⟨gs, hgs⟩ : ∃ gs, Hid (gs = rkZ xs m g s ks (rcR m (xs, g, s) ks).2.2) := ⟨_, Lib.hid rfl⟩
  obtain ⟨B, hB⟩ : ∃ B, Hid (B = rkB xs m g s ks) := ⟨_, Lib.hid rfl⟩
  have cI := Lib.hid (fun (v0 v1 : Value) (w : World) (h0 : Items w v0 xs) (h1 : Texts w v1 ks) => (show Calls Try.prog 32 #[.agg #[v0, .int .i64 m, .int .i64 g, .int .i64 s], v1] w (NewL (fun v => .tuple #[.agg #[v, .int .i64 gm, .int .i64 gg, .int .i64 gs], .bool B]) G w) by rw [hG.out, hgm.out, hgg.out, hgs.out, hB.out]; exact RunCache_any v0 v1 xs m g s ks w h0 h1))
  have cS := Lib.hid (fun (v0 v1 : Value) (w : World) (h0 : Items w v0 xs) (h1 : Texts w v1 ks) => (show Calls Try.prog 33 #[.agg #[v0, .int .i64 m, .int .i64 g, .int .i64 s], v1] w (NewL (fun v => .tuple #[.agg #[v, .int .i64 gm, .int .i64 gg, .int .i64 gs], .bool B]) G w) by rw [hG.out, hgm.out, hgg.out, hgs.out, hB.out]; exact sRunCache_any v0 v1 xs m g s ks w h0 h1))
  obtain ⟨c0_, c1_, c2_, c3_⟩ := H2.box4 0 rfl
  go_wp2_with fail
  refine (cI.out _ _ _ (H2.arg HXc.out) (H2.argT HXk.out)).mono ?_
  rintro e w3 ⟨vo, rfl, ho, hbl⟩
  have H3 := H2.newI ho hbl
  obtain ⟨op, oc, rfl, hoc, hom⟩ := Items.shape0 (H3.items 0 rfl)
  clear c0_ c1_ c2_ c3_
  have H4 := H3.boxed 25 [.slice op G.length oc, .int .i64 gm, .int .i64 gg, .int .i64 gs]
  clear H2 H3 ho hbl
  obtain ⟨c0_, c1_, c2_, c3_⟩ := H4.box4 2 rfl
  go_wp2_with fail
  refine (cS.out _ _ _ (H4.arg HXc.out) (H4.argT HXk.out)).mono ?_
  rintro e w5 ⟨vw, rfl, ho, hbl⟩
  have H5 := H4.newI ho hbl
  obtain ⟨wp, wc, rfl, hwc, hwm⟩ := Items.shape0 (H5.items 0 rfl)
  clear c0_ c1_ c2_ c3_
  have H6 := H5.boxed 25 [.slice wp G.length wc, .int .i64 gm, .int .i64 gg, .int .i64 gs]
  clear H4 H5 ho hbl
  clear cI cS
  obtain ⟨o0_, o1_, o2_, o3_⟩ := H6.box4 2 rfl
  obtain ⟨w0_, w1_, w2_, w3_⟩ := H6.box4 0 rfl
  go_wp2_with fail
  refine (equalK_T H6 (H6.items 3 rfl) (H6.items 1 rfl)).mono ?_
  rintro e w7 ⟨rfl, H7⟩
  clear o0_ o1_ o2_ o3_ w0_ w1_ w2_ w3_
  clear H6
  cases B
  · skip
    obtain ⟨o0_, o1_, o2_, o3_⟩ := H7.box4 2 rfl
    obtain ⟨w0_, w1_, w2_, w3_⟩ := H7.box4 0 rfl
    go_wp2_with fail
    refine (equalK_T H7 (H7.items 3 rfl) (H7.items 1 rfl)).mono ?_
    rintro e w8 ⟨rfl, H8⟩
    clear o0_ o1_ o2_ o3_ w0_ w1_ w2_ w3_
    clear H7
    go_wp2
    go_ret
    exact ⟨rfl, hb1.trans (H8.below.mono hb1.size)⟩
  · have hb := hB.out.symm
    obtain ⟨z1, z2, z3, z4, z5, z6, k, k1, k2, k3, k4⟩ := wide_parts hb
    obtain ⟨y1, y2⟩ := rk_yes hb
    obtain ⟨x1, x2⟩ := rk_yes z6
    have hGe : G = (rcR m (xs, g, s) ks).1 := by rw [hG.out, y1]
    obtain rfl : gm = m := by rw [hgm.out, y2]
    have hgge : gg = (rcR gm (xs, g, s) ks).2.1 := by rw [hgg.out, y2]
    obtain ⟨Y, hY⟩ : ∃ Y, Hid (Y = (rcR 8 (xs, g, s) ks).1) := ⟨_, Lib.hid rfl⟩
    obtain ⟨yg, hyg⟩ : ∃ yg, Hid (yg = (rcR 8 (xs, g, s) ks).2.1) := ⟨_, Lib.hid rfl⟩
    obtain ⟨ys, hys⟩ : ∃ ys, Hid (ys = (rcR 8 (xs, g, s) ks).2.2) := ⟨_, Lib.hid rfl⟩
    rw [← hY.out, ← hGe] at k1 k2
    rw [← hY.out] at k4
    rw [← hyg.out, ← hgge] at k3
    have cR := Lib.hid (fun (v0 : Value) (w : World) (h0 : Items w v0 xs) => (show Calls Try.prog 29 #[.agg #[v0, .int .i64 gm, .int .i64 g, .int .i64 s], .int .i64 8] w (NewL (fun v => .tuple #[.agg #[v, .int .i64 8, .int .i64 g, .int .i64 s], .bool true]) xs w) by have h1 := ResizeCache_any v0 xs gm g s 8 w h0; rw [z1, z2, z3, z4, z5] at h1; exact h1))
    have cW := Lib.hid (fun (v0 v1 : Value) (w : World) (h0 : Items w v0 xs) (h1 : Texts w v1 ks) => (show Calls Try.prog 32 #[.agg #[v0, .int .i64 8, .int .i64 g, .int .i64 s], v1] w (NewL (fun v => .tuple #[.agg #[v, .int .i64 8, .int .i64 yg, .int .i64 ys], .bool true]) Y w) by have h2 := RunCache_any v0 v1 xs 8 g s ks w h0 h1; rw [x1, x2, x2, x2, z6, ← hY.out, ← hyg.out, ← hys.out] at h2; exact h2))
    have hkeys : Hid (keysL (Y.drop k) = keysL G) := k2
    have hYl := Lib.hid k1
    clear hG hgm hgg hgs hB hb z1 z2 z3 z4 z5 z6 y1 y2 x1 x2 hGe hgge hY hyg hys k1 k2 hbd
    obtain ⟨c0_, c1_, c2_, c3_⟩ := H7.box4 4 rfl
    go_wp2_with fail
    refine (cR.out _ _ (H7.arg HXc.out)).mono ?_
    rintro e w8 ⟨vx, rfl, ho, hbl⟩
    have H8 := H7.newI ho hbl
    obtain ⟨xp, xc, rfl, hxc, hxm⟩ := Items.shape0 (H8.items 0 rfl)
    clear c0_ c1_ c2_ c3_
    have H9 := H8.boxed 25 [.slice xp xs.length xc, .int .i64 8, .int .i64 g, .int .i64 s]
    clear H7 H8 ho hbl
    clear cR
    obtain ⟨x0_, x1_, x2_, x3_⟩ := H9.box4 0 rfl
    go_wp2_with fail
    refine (cW.out _ _ _ (H9.items 1 rfl) (H9.argT HXk.out)).mono ?_
    rintro e w10 ⟨vy, rfl, ho, hbl⟩
    have H10 := H9.newI ho hbl
    obtain ⟨yp, yc, rfl, hyc, hym⟩ := Items.shape0 (H10.items 0 rfl)
    clear x0_ x1_ x2_ x3_
    have H11 := H10.boxed 25 [.slice yp Y.length yc, .int .i64 8, .int .i64 yg, .int .i64 ys]
    clear H9 H10 ho hbl
    clear cW
    have hw1 : IntKind.i64.wrap ((Y.length : Int) - (G.length : Int)) = (k : Int) := by have := hYl.out; rw [IntWalk.i64_in _ (by omega)]; omega
    have hk0 : (0 : Int) ≤ (k : Int) := by omega
    have hky : (k : Int) ≤ (Y.length : Int) := by have := hYl.out; omega
    have hyc : (Y.length : Int) ≤ (yc : Int) := by omega
    obtain ⟨KG, hKG⟩ : ∃ KG, Hid (KG = keysL G) := ⟨_, Lib.hid rfl⟩
    have cK1 := Lib.hid (fun (v0 : Value) (w : World) (h0 : Items w v0 (Y.drop k)) => (show Calls Try.prog 35 #[v0] w (NewT (fun v => v) KG w) by have h1 := lkeys_any v0 (Y.drop k) w h0 (by rw [List.length_drop]; omega); rw [hkeys.out, ← hKG.out] at h1; exact h1))
    have cK2 := Lib.hid (fun (v0 : Value) (w : World) (h0 : Items w v0 G) => (show Calls Try.prog 35 #[v0] w (NewT (fun v => v) KG w) by have h1 := lkeys_any v0 G w h0 (by have := hYl.out; omega); rw [← hKG.out] at h1; exact h1))
    rcases Nat.eq_zero_or_pos Y.length with hz | hz
    · obtain rfl : k = 0 := by have := hYl.out; omega
      have hG0 : G.length = 0 := by have := hYl.out; omega
      have hGn : G = [] := List.eq_nil_of_length_eq_zero hG0
      have hYn : Y = [] := List.eq_nil_of_length_eq_zero hz
      subst hGn hYn
      clear hG0 hz hYl hkeys hKG
      simp only [List.length_nil] at H11
      have D11 := H11.quiet (Below.refl _ _).drew
      obtain ⟨y0_, y1_, y2_, y3_⟩ := H11.box4 0 rfl
      obtain ⟨o0_, o1_, o2_, o3_⟩ := H11.box4 6 rfl
      go_wp2_with fail
      go_region_held3 (fun w' : World => (w'.cell? ⟨w10.heap.size, 0, none⟩ = some (.slice yp 0 yc) ∧ w'.cell? ⟨w10.heap.size, 1, none⟩ = some (.int .i64 8) ∧ w'.cell? ⟨w10.heap.size, 2, none⟩ = some (.int .i64 yg) ∧ w'.cell? ⟨w10.heap.size, 3, none⟩ = some (.int .i64 ys)) ∧ (w'.cell? ⟨w3.heap.size, 0, none⟩ = some (.slice op 0 oc) ∧ w'.cell? ⟨w3.heap.size, 1, none⟩ = some (.int .i64 gm) ∧ w'.cell? ⟨w3.heap.size, 2, none⟩ = some (.int .i64 gg) ∧ w'.cell? ⟨w3.heap.size, 3, none⟩ = some (.int .i64 gs)))
        (first | exact And.intro (H11.box4 0 rfl) (H11.box4 6 rfl) | assumption | exact hS1 | exact hS2 | exact hS3)
        (first
          | (go_at_call 35; (refine (cK1.out _ _ (show Items _ _ (List.drop 0 []) from Items_none hym)).mono ?_); rintro e wa ⟨va, rfl, ho, hbl⟩; have HA := D11.newT ho hbl; clear ho hbl cK1; have hS1 := And.intro (HA.box4 1 rfl) (HA.box4 7 rfl))
          | (go_at_call 35; refine (cK2.out _ _ (HA.items 8 rfl)).mono ?_; rintro e wb ⟨vb, rfl, ho, hbl⟩; have HB := HA.newT ho hbl; clear ho hbl cK2; have hS2 := And.intro (HB.box4 2 rfl) (HB.box4 8 rfl))
          | (go_at_call 34; refine (equalT_T HB (HB.texts 1 rfl) (HB.texts 0 rfl)).mono ?_; rintro e wc ⟨rfl, HC⟩; have hS3 := And.intro (HC.box4 2 rfl) (HC.box4 8 rfl); clear HB))
      go_wp2
      go_ret
      exact ⟨rfl, hb1.trans (HC.below.mono hb1.size)⟩
    · skip
      obtain ⟨b, o, hye, -, -, -⟩ := Items.cellAt (H11.items 1 rfl) hz
      subst hye
      have D11 := H11.quiet (Below.refl _ _).drew
      by_cases hck : yc = k
      · subst hck
        have HT : Hid (∀ w' : World, Items w' (.slice (some ⟨b, o, none⟩) 0 0) (Y.drop yc)) := fun w' => by rw [List.drop_eq_nil_of_le (by omega)]; exact Items_none (by omega)
        obtain ⟨y0_, y1_, y2_, y3_⟩ := H11.box4 0 rfl
        obtain ⟨o0_, o1_, o2_, o3_⟩ := H11.box4 6 rfl
        go_wp2_with fail
        go_region_held3 (fun w' : World => (w'.cell? ⟨w10.heap.size, 0, none⟩ = some (.slice (some ⟨b, o, none⟩) Y.length yc) ∧ w'.cell? ⟨w10.heap.size, 1, none⟩ = some (.int .i64 8) ∧ w'.cell? ⟨w10.heap.size, 2, none⟩ = some (.int .i64 yg) ∧ w'.cell? ⟨w10.heap.size, 3, none⟩ = some (.int .i64 ys)) ∧ (w'.cell? ⟨w3.heap.size, 0, none⟩ = some (.slice op G.length oc) ∧ w'.cell? ⟨w3.heap.size, 1, none⟩ = some (.int .i64 gm) ∧ w'.cell? ⟨w3.heap.size, 2, none⟩ = some (.int .i64 gg) ∧ w'.cell? ⟨w3.heap.size, 3, none⟩ = some (.int .i64 gs)))
          (first | exact And.intro (H11.box4 0 rfl) (H11.box4 6 rfl) | assumption | exact hS1 | exact hS2 | exact hS3)
          (first
            | (go_at_call 35; (refine (cK1.out _ _ (HT.out _)).mono ?_); rintro e wa ⟨va, rfl, ho, hbl⟩; have HA := D11.newT ho hbl; clear ho hbl cK1; have hS1 := And.intro (HA.box4 1 rfl) (HA.box4 7 rfl))
            | (go_at_call 35; refine (cK2.out _ _ (HA.items 8 rfl)).mono ?_; rintro e wb ⟨vb, rfl, ho, hbl⟩; have HB := HA.newT ho hbl; clear ho hbl cK2; have hS2 := And.intro (HB.box4 2 rfl) (HB.box4 8 rfl))
            | (go_at_call 34; refine (equalT_T HB (HB.texts 1 rfl) (HB.texts 0 rfl)).mono ?_; rintro e wc ⟨rfl, HC⟩; have hS3 := And.intro (HC.box4 2 rfl) (HC.box4 8 rfl); clear HB))
        go_wp2
        go_ret
        exact ⟨rfl, hb1.trans (HC.below.mono hb1.size)⟩
      · skip
        have HT := Lib.hid (Items.drop (D11.items 1 rfl) (k := k) (by omega))
        obtain ⟨y0_, y1_, y2_, y3_⟩ := H11.box4 0 rfl
        obtain ⟨o0_, o1_, o2_, o3_⟩ := H11.box4 6 rfl
        go_wp2_with fail
        go_region_held3 (fun w' : World => (w'.cell? ⟨w10.heap.size, 0, none⟩ = some (.slice (some ⟨b, o, none⟩) Y.length yc) ∧ w'.cell? ⟨w10.heap.size, 1, none⟩ = some (.int .i64 8) ∧ w'.cell? ⟨w10.heap.size, 2, none⟩ = some (.int .i64 yg) ∧ w'.cell? ⟨w10.heap.size, 3, none⟩ = some (.int .i64 ys)) ∧ (w'.cell? ⟨w3.heap.size, 0, none⟩ = some (.slice op G.length oc) ∧ w'.cell? ⟨w3.heap.size, 1, none⟩ = some (.int .i64 gm) ∧ w'.cell? ⟨w3.heap.size, 2, none⟩ = some (.int .i64 gg) ∧ w'.cell? ⟨w3.heap.size, 3, none⟩ = some (.int .i64 gs)))
          (first | exact And.intro (H11.box4 0 rfl) (H11.box4 6 rfl) | assumption | exact hS1 | exact hS2 | exact hS3)
          (first
            | (go_at_call 35; (refine (cK1.out _ _ HT.out).mono ?_); rintro e wa ⟨va, rfl, ho, hbl⟩; have HA := D11.newT ho hbl; clear ho hbl cK1; have hS1 := And.intro (HA.box4 1 rfl) (HA.box4 7 rfl))
            | (go_at_call 35; refine (cK2.out _ _ (HA.items 8 rfl)).mono ?_; rintro e wb ⟨vb, rfl, ho, hbl⟩; have HB := HA.newT ho hbl; clear ho hbl cK2; have hS2 := And.intro (HB.box4 2 rfl) (HB.box4 8 rfl))
            | (go_at_call 34; refine (equalT_T HB (HB.texts 1 rfl) (HB.texts 0 rfl)).mono ?_; rintro e wc ⟨rfl, HC⟩; have hS3 := And.intro (HC.box4 2 rfl) (HC.box4 8 rfl); clear HB))
        go_wp2
        go_ret
        exact ⟨rfl, hb1.trans (HC.below.mono hb1.size)⟩

set_option maxRecDepth 100000 in
theorem FnRunCacheWide_lifted (os : Os) (started : os.Started) (H : Type) (enc : TypeId × Value → H) :
    ReturnsInHanded {} Try.checked os 8 .any (Rows.fnRunCacheWideSpec.pre6 enc Try.prog Try.f8 Rows.fnRunCacheWideRow.domain false) (Rows.fnRunCacheWideSpec.post enc Try.prog Try.f8 false true false false) := by
  refine returnsInHanded_of_change (C := Try.checked) own started (by kernel_rfl) Try.func8
    (ChangeSpec.witness6 (enc := enc) (C := Try.checked) false ⟨#[], #[.slice none 0 0], []⟩ 8 (by kernel_rfl) (by kernel_rfl) (by kernel_rfl) (by kernel_rfl)) ?_
  intro W base args ds gs before hval0 hW _ _
  have hval : ∀ (j : Nat) t v, Try.f8.params[j]? = some t → args[j]? = some v → Value.okWide Try.prog W .any base t v := hval0
  have hW' := hW
  obtain ⟨p, q, hA0, hV, rfl, _, _⟩ := hW
  have hA : DataW.TrodAll enc Try.prog W 0 (fun _ => true) true Try.f8.params.toList args.toList ds p := hA0
  rw [Try.params8] at hA hval
  obtain ⟨v0, vs0, d0, ds0, p0, q0, hargs, rfl, rfl, h0, r0⟩ := trodAll_cons hA
  obtain ⟨rfl, rfl, rfl⟩ := trodAll_nil r0
  obtain rfl : args = #[v0] := by cases args; simp_all
  obtain ⟨rfl, rfl⟩ := trodVars_none hV
  obtain ⟨xs0, hI0⟩ := open_bytes (hval 0 _ v0 rfl rfl) h0
  refine (FnRunCacheWide_walk v0 xs0 W hI0).mono fun e W' ⟨he, hb⟩ => ⟨_, he, ?_⟩
  exact law_end rfl (by rw [Try.params8]; decide +kernel) rfl hW' rfl rfl rfl hb

theorem FnRunCacheWide_facts : joinedFacts Try.prog 8 Try.f8 Rows.fnRunCacheWideSpec Rows.fnRunCacheWideRow = true :=
  facts_of (by kernel_rfl) q2 q3 (by kernel_rfl) (by kernel_rfl) (by kernel_rfl) q7 (by kernel_rfl) q9 (by kernel_rfl) (by kernel_rfl) (by kernel_rfl) (by kernel_rfl) (by kernel_rfl) (by kernel_rfl) (by kernel_rfl) (by kernel_rfl) (by kernel_rfl) (by kernel_rfl) (by kernel_rfl) (by kernel_rfl) (by kernel_rfl)
    (by rw [q22]; kernel_rfl) (by kernel_rfl) q23 head_enter (by kernel_rfl) head_lifts head_make (by kernel_rfl) (by kernel_rfl) (by kernel_rfl) (by kernel_rfl) (by kernel_rfl)

theorem FnRunCacheWide_holds : Rows.FnRunCacheWideSaid :=
  OpenClaim.holds_of_wide 8 Try.f8 rfl rfl rfl rfl rfl rfl rfl ⟨rfl, rfl, rfl, rfl, rfl⟩ rfl rfl rfl rfl rfl (by kernel_rfl) Try.func8 FnRunCacheWide_facts
    (of_decide_eq_true (by kernel_rfl)) (by unfold Func.isWrapper; first | (rw [if_pos (by decide +kernel)]; kernel_rfl) | (rw [if_neg (by decide +kernel)]; exact ⟨rfl, rfl⟩))
    (fun os started H enc _ => FnRunCacheWide_lifted os started H enc)
end Go.Proofs.Ytlclhdolcokipaa
