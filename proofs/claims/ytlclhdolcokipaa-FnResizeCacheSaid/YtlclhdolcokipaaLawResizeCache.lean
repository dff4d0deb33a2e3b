/-
  FnResizeCache: true, for every code.
-/
import Derived.Test.YtlclhdolcokipaaD11
import Derived.Test.YtlclhdolcokipaaD15
import Derived.Test.YtlclhdolcokipaaD16
import Derived.Test.YtlclhdolcokipaaD20
import Derived.Test.YtlclhdolcokipaaD21
namespace Go.Proofs.Ytlclhdolcokipaa
open Go.RowKit
open Go.ChangeShapes Go.WideShapes Go.ChangeAt Go.Deep

theorem rz_parts {xs : List Itm} {m g s q : Int} (h : rzB xs m g s q = true) : (1 ≤ q ∧ q ≤ 8) ∧ (1 ≤ m ∧ m ≤ 8) ∧ (xs.length : Int) ≤ m ∧ ∃ k : Nat, k = xs.length - q.toNat ∧ rzL xs m g s q = xs.drop k ∧ rzM xs m g s q = q ∧ rzG xs m g s q = g ∧ rzS xs m g s q = s ∧ rzB (xs.drop k) q g s m = true ∧ rzL (xs.drop k) q g s m = (xs.drop k).drop ((xs.drop k).length - m.toNat) := by
  have h' : (vcB xs m g s && rgB q 1 8) = true := h
  obtain ⟨e1, e2, e3, e4, -⟩ := rz_yes h'
  rw [Bool.and_eq_true] at h'
  obtain ⟨hv, hm, hl, hg, hs⟩ := vc_yes h'.1
  have hq := rg_yes h'.2
  have hb : (vcB (xs.drop (xs.length - q.toNat)) q g s && rgB m 1 8) = true := by
    rw [Bool.and_eq_true]
    refine ⟨vc_mk (valid_drop hv _) hq (by rw [List.length_drop]; omega) hg hs, ?_⟩
    unfold rgB
    rw [decide_eq_true hm.1, decide_eq_true hm.2]
    rfl
  exact ⟨hq, hm, hl, _, rfl, e1, e2, e3, e4, hb, (rz_yes hb).1⟩

set_option maxHeartbeats 4000000 in
set_option maxRecDepth 100000 in
theorem FnResizeCache_walk (v : Value) (bs : List Int) (w : World) (h : Bytes w v bs) :
    Calls Try.prog 6 #[v] w fun e w' => e = .returned (.bool true) ∧ Below w.heap.size w w' := by
  have h0 := h
  obtain ⟨ao, cap, rfl, hl, hc, hok, hcell⟩ := h0
  clear hcell hok
  go_enter Try.func6, Try.ntmps6
  by_cases hbig : (1048576 : Int) < (bs.length : Int)
  · go_wp2
    go_ret
    exact ⟨rfl, Below.refl _ _⟩
  go_wp2_with fail
  refine (DrawResizeCache_any _ bs w h).mono ?_
  rintro e w1 ⟨vc, xs, m, g, s, q, rfl, hbd, hq, hit, hik, hbl⟩
  have H1 := (Things.nil w).new (t := readT w.heap.size w1.heap.size vc xs) (Nat.le_refl _) (Nat.le_refl _) ⟨hit, hik⟩ hbl
  obtain ⟨cp, cc, rfl, hcc, hcm⟩ := Items.shape0 (H1.ritems 0 rfl)
  have H2 := H1.boxed 25 [.slice cp xs.length cc, .int .i64 m, .int .i64 g, .int .i64 s]
  clear hit hik hbl H1 h
  obtain ⟨G, hG⟩ : ∃ G, Hid (G = rzL xs m g s q) := ⟨_, Lib.hid rfl⟩
  obtain ⟨gm, hgm⟩ : ∃ gm, Hid (gm = rzM xs m g s q) := ⟨_, Lib.hid rfl⟩
  obtain ⟨gg, hgg⟩ : ∃ gg, Hid (gg = rzG xs m g s q) := ⟨_, Lib.hid rfl⟩
  obtain ⟨gs, hgs⟩ : ∃ gs, Hid (gs = rzS xs m g s q) := ⟨_, Lib.hid rfl⟩
  obtain ⟨B, hB⟩ : ∃ B, Hid (B = rzB xs m g s q) := ⟨_, Lib.hid rfl⟩
  have cI := Lib.hid (fun (v0 : Value) (w : World) (h0 : Items w v0 xs) => (show Calls Try.prog 29 #[.agg #[v0, .int .i64 m, .int .i64 g, .int .i64 s], .int .i64 q] w (NewL (fun v => .tuple #[.agg #[v, .int .i64 gm, .int .i64 gg, .int .i64 gs], .bool B]) G w) by rw [hG.out, hgm.out, hgg.out, hgs.out, hB.out]; exact ResizeCache_any v0 xs m g s q w h0))
  have cS := Lib.hid (fun (v0 : Value) (w : World) (h0 : Items w v0 xs) => (show Calls Try.prog 30 #[.agg #[v0, .int .i64 m, .int .i64 g, .int .i64 s], .int .i64 q] w (NewW (fun v => .tuple #[.agg #[v, .int .i64 gm, .int .i64 gg, .int .i64 gs], .bool B]) G w) by rw [hG.out, hgm.out, hgg.out, hgs.out, hB.out]; exact sResizeCache_any v0 xs m g s q w h0))
  obtain ⟨c0_, c1_, c2_, c3_⟩ := H2.box4 0 rfl
  go_wp2_with fail
  refine (cI.out _ _ (H2.ritems 1 rfl)).mono ?_
  rintro e w3 ⟨vo, rfl, ho, hbl⟩
  have H3 := H2.newI ho hbl
  obtain ⟨op, oc, rfl, hoc, hom⟩ := Items.shape0 (H3.items 0 rfl)
  clear c0_ c1_ c2_ c3_
  have H4 := H3.boxed 25 [.slice op G.length oc, .int .i64 gm, .int .i64 gg, .int .i64 gs]
  clear H2 H3 ho hbl
  obtain ⟨c0_, c1_, c2_, c3_⟩ := H4.box4 2 rfl
  go_wp2_with fail
  refine (cS.out _ _ (H4.ritems 3 rfl)).mono ?_
  rintro e w5 ⟨vw, Vw, ysw, rfl, ho, huw, hbl⟩
  have H5 := H4.newI ho hbl
  obtain ⟨wp, wc, rfl, hwc, hwm⟩ := Items.shape0 (huw.out _ (H5.items 0 rfl))
  clear c0_ c1_ c2_ c3_
  have H6 := H5.boxed 25 [.slice wp G.length wc, .int .i64 gm, .int .i64 gg, .int .i64 gs]
  clear H4 H5 ho hbl
  clear cI cS
  obtain ⟨o0_, o1_, o2_, o3_⟩ := H6.box4 2 rfl
  obtain ⟨w0_, w1_, w2_, w3_⟩ := H6.box4 0 rfl
  go_wp2_with fail
  refine (equalK_T H6 (H6.items 3 rfl) (huw.out _ (H6.items 1 rfl))).mono ?_
  rintro e w7 ⟨rfl, H7⟩
  clear o0_ o1_ o2_ o3_ w0_ w1_ w2_ w3_
  clear H6
  cases B
  · skip
    obtain ⟨o0_, o1_, o2_, o3_⟩ := H7.box4 2 rfl
    obtain ⟨w0_, w1_, w2_, w3_⟩ := H7.box4 0 rfl
    go_wp2_with fail
    refine (equalK_T H7 (H7.items 3 rfl) (huw.out _ (H7.items 1 rfl))).mono ?_
    rintro e w8 ⟨rfl, H8⟩
    clear o0_ o1_ o2_ o3_ w0_ w1_ w2_ w3_
    clear H7
    go_wp2
    go_ret
    exact ⟨rfl, H8.below⟩
  · obtain ⟨hq2, hm2, hlm, k, hk, e1, e2, e3, e4, e5, e6⟩ := rz_parts hB.out.symm
    rw [← hG.out] at e1
    rw [← e1] at e5 e6
    obtain rfl : gm = q := by rw [hgm.out, e2]
    obtain rfl : gg = g := by rw [hgg.out, e3]
    obtain rfl : gs = s := by rw [hgs.out, e4]
    obtain ⟨Y, hY⟩ : ∃ Y, Hid (Y = rzL G gm gg gs m) := ⟨_, Lib.hid rfl⟩
    have hGl : G.length + k = xs.length := by rw [e1, List.length_drop]; omega
    have hYe : Hid (k = 0 → Y = xs) := fun h => by rw [hY.out, e6, e1, h, List.drop_zero, show xs.length - m.toNat = 0 by omega, List.drop_zero]
    have hb' : (vcB G gm gg gs && rgB m 1 8) = true := e5
    have cB := Lib.hid (fun (v0 : Value) (w : World) (h0 : Items w v0 G) => (show Calls Try.prog 29 #[.agg #[v0, .int .i64 gm, .int .i64 gg, .int .i64 gs], .int .i64 m] w (NewL (fun v => .tuple #[.agg #[v, .int .i64 m, .int .i64 gg, .int .i64 gs], .bool true]) Y w) by have h1 := ResizeCache_any v0 G gm gg gs m w h0; rw [e5, ← hY.out, (rz_yes hb').2.1, (rz_yes hb').2.2.1, (rz_yes hb').2.2.2.1] at h1; exact h1))
    have hwr : IntKind.i64.wrap ((xs.length : Int) - (G.length : Int)) = (k : Int) := by have := hbd.1; rw [IntWalk.i64_in _ (by omega)]; omega
    have hGd := Lib.hid e1
    have hx9 := hbd.1
    have hkq : ((xs.length : Int) ≤ gm ↔ k = 0) ∧ (gm < (xs.length : Int) → (k : Int) = xs.length - gm) := by omega
    clear hk
    clear hG hgm hgg hgs hB hY e1 e2 e3 e4 e5 e6 hb' hbd
    obtain ⟨c0_, c1_, c2_, c3_⟩ := H7.box4 4 rfl
    obtain ⟨o0_, o1_, o2_, o3_⟩ := H7.box4 2 rfl
    go_wp2_with fail
    refine (cB.out _ _ (H7.items 3 rfl)).mono ?_
    rintro e w8 ⟨vk, rfl, ho, hbl⟩
    have H8 := H7.newI ho hbl
    obtain ⟨kp, kc, rfl, hkc, hkm⟩ := Items.shape0 (H8.items 0 rfl)
    clear c0_ c1_ c2_ c3_ o0_ o1_ o2_ o3_
    have H9 := H8.boxed 25 [.slice kp Y.length kc, .int .i64 m, .int .i64 gg, .int .i64 gs]
    clear H7 H8 ho hbl
    clear cB
    by_cases hlq : (xs.length : Int) ≤ gm
    · obtain rfl : k = 0 := hkq.1.1 hlq
      obtain rfl : G = xs := by rw [hGd.out, List.drop_zero]
      obtain rfl : Y = G := hYe.out rfl
      clear hGd hYe hGl hlm hm2 hq2 hq hx9 hkq
      obtain ⟨c0_, c1_, c2_, c3_⟩ := H9.box4 6 rfl
      obtain ⟨o0_, o1_, o2_, o3_⟩ := H9.box4 4 rfl
      obtain ⟨k0_, k1_, k2_, k3_⟩ := H9.box4 0 rfl
      have c0f := fresh_cell c0_
      have c1f := fresh_cell c1_
      have c2f := fresh_cell c2_
      have c3f := fresh_cell c3_
      have o0f := fresh_cell o0_
      have o1f := fresh_cell o1_
      have o2f := fresh_cell o2_
      have o3f := fresh_cell o3_
      have k0f := fresh_cell k0_
      have k1f := fresh_cell k1_
      have k2f := fresh_cell k2_
      have k3f := fresh_cell k3_
      go_wp2_with fail
      have hng : ¬ gm < (Y.length : Int) := Int.not_lt.2 hlq
      refine region_fresh (by kernel_rfl) (by kernel_rfl) ?_
      repeat (with_reducible refine wpQuiet_step ?_; intro K hK; go_simp; first | (refine hK _ ?_; clear hK K) | (apply Exists.intro; refine ⟨fun _ => ?_, hK _ ?_⟩; (first | (go_at_call 22; exact fresh_of (equalI_q ((Things.quiet H9 (Fresh.is _)).items 5 rfl) ((Things.quiet H9 (Fresh.is _)).ritems 7 rfl))) | (go_at_call 20; exact fresh_of (equalK_q ((Things.quiet H9 (Fresh.is _)).items 1 rfl) ((Things.quiet H9 (Fresh.is _)).ritems 7 rfl)))); clear hK K))
      with_reducible refine wpQuiet_nil ?_
      intro _ hw'
      obtain ⟨⟨wq9, hq9⟩, hw''⟩ := hw'
      subst hw''
      have H10 := H9.quiet hq9
      go_wp2
      go_ret
      exact ⟨rfl, H10.below⟩
    · have hk0 : (0 : Int) < (k : Int) := by omega
      have hk0n : 0 < k := by omega
      have hz : 0 < xs.length := by omega
      obtain ⟨b, o, hce, -, -, -⟩ := Items.cellAt (H9.ritems 7 rfl) hz
      subst hce
      have hGq : ((G.length : Int) == gm) = true := by rw [beq_iff_eq]; omega
      have i1 : (0 : Int) ≤ (k : Int) := by omega
      have i2 : (k : Int) ≤ (xs.length : Int) := by omega
      have i3 : (xs.length : Int) ≤ (cc : Int) := by omega
      have hck : ¬ cc = k := by omega
      have HT := Lib.hid (fun p : Fresh (w8.alloc (.cells #[.slice kp Y.length kc, .int .i64 m, .int .i64 gg, .int .i64 gs] 25)) => (Items.castE (Items.drop ((Things.quiet H9 p.is).ritems 7 rfl) (k := k) (by omega)) hGd.out.symm))
      clear hGd hYe hGl hkq hlm hm2 hq2 hq hx9 hz
      obtain ⟨c0_, c1_, c2_, c3_⟩ := H9.box4 6 rfl
      obtain ⟨o0_, o1_, o2_, o3_⟩ := H9.box4 4 rfl
      obtain ⟨k0_, k1_, k2_, k3_⟩ := H9.box4 0 rfl
      have c0f := fresh_cell c0_
      have c1f := fresh_cell c1_
      have c2f := fresh_cell c2_
      have c3f := fresh_cell c3_
      have o0f := fresh_cell o0_
      have o1f := fresh_cell o1_
      have o2f := fresh_cell o2_
      have o3f := fresh_cell o3_
      have k0f := fresh_cell k0_
      have k1f := fresh_cell k1_
      have k2f := fresh_cell k2_
      have k3f := fresh_cell k3_
      go_wp2_with fail
      refine region_fresh (by kernel_rfl) (by kernel_rfl) ?_
      repeat (with_reducible refine wpQuiet_step ?_; intro K hK; go_simp; first | (refine hK _ ?_; clear hK K) | (apply Exists.intro; refine ⟨fun _ => ?_, hK _ ?_⟩; ((go_at_call 22; exact fresh_of (equalI_q ((Things.quiet H9 (Fresh.is _)).items 5 rfl) (HT.out _)))); clear hK K))
      with_reducible refine wpQuiet_nil ?_
      intro _ hw'
      obtain ⟨⟨wq9, hq9⟩, hw''⟩ := hw'
      subst hw''
      have H10 := H9.quiet hq9
      go_wp2
      go_ret
      exact ⟨rfl, H10.below⟩

set_option maxRecDepth 100000 in
theorem FnResizeCache_lifted (os : Os) (started : os.Started) (H : Type) (enc : TypeId × Value → H) :
    ReturnsInHanded {} Try.checked os 6 .any (Rows.fnResizeCacheSpec.pre6 enc Try.prog Try.f6 Rows.fnResizeCacheRow.domain false) (Rows.fnResizeCacheSpec.post enc Try.prog Try.f6 false true false false) := by
  refine returnsInHanded_of_change (C := Try.checked) own started (by kernel_rfl) Try.func6
    (ChangeSpec.witness6 (enc := enc) (C := Try.checked) false ⟨#[], #[.slice none 0 0], []⟩ 8 (by kernel_rfl) (by kernel_rfl) (by kernel_rfl) (by kernel_rfl)) ?_
  intro W base args ds gs before hval0 hW _ _
  have hval : ∀ (j : Nat) t v, Try.f6.params[j]? = some t → args[j]? = some v → Value.okWide Try.prog W .any base t v := hval0
  have hW' := hW
  obtain ⟨p, q, hA0, hV, rfl, _, _⟩ := hW
  have hA : DataW.TrodAll enc Try.prog W 0 (fun _ => true) true Try.f6.params.toList args.toList ds p := hA0
  rw [Try.params6] at hA hval
  obtain ⟨v0, vs0, d0, ds0, p0, q0, hargs, rfl, rfl, h0, r0⟩ := trodAll_cons hA
  obtain ⟨rfl, rfl, rfl⟩ := trodAll_nil r0
  obtain rfl : args = #[v0] := by cases args; simp_all
  obtain ⟨rfl, rfl⟩ := trodVars_none hV
  obtain ⟨xs0, hI0⟩ := open_bytes (hval 0 _ v0 rfl rfl) h0
  refine (FnResizeCache_walk v0 xs0 W hI0).mono fun e W' ⟨he, hb⟩ => ⟨_, he, ?_⟩
  exact law_end rfl (by rw [Try.params6]; decide +kernel) rfl hW' rfl rfl rfl hb

theorem FnResizeCache_facts : joinedFacts Try.prog 6 Try.f6 Rows.fnResizeCacheSpec Rows.fnResizeCacheRow = true :=
  facts_of (by kernel_rfl) q2 q3 (by kernel_rfl) (by kernel_rfl) (by kernel_rfl) q7 (by kernel_rfl) q9 (by kernel_rfl) (by kernel_rfl) (by kernel_rfl) (by kernel_rfl) (by kernel_rfl) (by kernel_rfl) (by kernel_rfl) (by kernel_rfl) (by kernel_rfl) (by kernel_rfl) (by kernel_rfl) (by kernel_rfl) (by kernel_rfl)
    (by rw [q22]; kernel_rfl) (by kernel_rfl) q23 head_enter (by kernel_rfl) head_lifts head_make (by kernel_rfl) (by kernel_rfl) (by kernel_rfl) (by kernel_rfl) (by kernel_rfl)

theorem FnResizeCache_holds : Rows.FnResizeCacheSaid :=
  OpenClaim.holds_of_wide 6 Try.f6 rfl rfl rfl rfl rfl rfl rfl ⟨rfl, rfl, rfl, rfl, rfl⟩ rfl rfl rfl rfl rfl (by kernel_rfl) Try.func6 FnResizeCache_facts
    (of_decide_eq_true (by kernel_rfl)) (by unfold Func.isWrapper; first | (rw [if_pos (by decide +kernel)]; kernel_rfl) | (rw [if_neg (by decide +kernel)]; exact ⟨rfl, rfl⟩))
    (fun os started H enc _ => FnResizeCache_lifted os started H enc)
end Go.Proofs.Ytlclhdolcokipaa
