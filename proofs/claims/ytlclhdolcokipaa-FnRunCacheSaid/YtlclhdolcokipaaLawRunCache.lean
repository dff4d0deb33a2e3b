/-
  FnRunCache: true, for every code.
-/
import Derived.Test.YtlclhdolcokipaaD11
import Derived.Test.YtlclhdolcokipaaD15
import Derived.Test.YtlclhdolcokipaaD16
import Derived.Test.YtlclhdolcokipaaD20
import Derived.Test.YtlclhdolcokipaaD21
namespace Go.Proofs.Ytlclhdolcokipaa
open Go.RowKit
open Go.ChangeShapes Go.WideShapes Go.ChangeAt Go.Deep

set_option maxHeartbeats 4000000 in
set_option maxRecDepth 100000 in
theorem FnRunCache_walk (v : Value) (bs : List Int) (w : World) (h : Bytes w v bs) :
    Calls Try.prog 7 #[v] w fun e w' => e = .returned (.bool true) ∧ Below w.heap.size w w' := by
  have h0 := h
  obtain ⟨ao, cap, rfl, hl, hc, hok, hcell⟩ := h0
  clear hcell hok
  go_enter Try.func7, Try.ntmps7
  by_cases hbig : (1048576 : Int) < (bs.length : Int)
  · go_wp2
    go_ret
    exact ⟨rfl, Below.refl _ _⟩
  go_wp2_with fail
  refine (DrawRunCache_any _ bs w h).mono ?_
  rintro e w1 ⟨vc, xs, m, g, s, vk, ks, rfl, hbd, hkl, hxa, hta, hb1⟩
  obtain ⟨cp, cc, rfl, hcc, hcm⟩ := Items.shape0 hxa
  obtain ⟨kp, kc, rfl, hkc, hkm⟩ := Texts.shape hta
  have HXc := Lib.hid hxa
  have HXk := Lib.hid hta
  have H1 := Things.nil w1
  have H2 := H1.boxed 25 [.slice cp xs.length cc, .int .i64 m, .int .i64 g, .int .i64 s]
  clear hxa hta H1 h
  obtain ⟨G, hG⟩ : ∃ G, Hid (G = rkL xs m g s ks) := ⟨_, Lib.hid rfl⟩
  obtain ⟨gm, hgm⟩ : ∃ gm, Hid (gm = rkZ xs m g s ks m) := ⟨_, Lib.hid rfl⟩
  obtain ⟨gg, hgg⟩ : ∃ gg, Hid (gg = rkZ xs m g s ks (rcR m (xs, g, s) ks).2.1) := ⟨_, Lib.hid rfl⟩
  obtain ⟨gs, hgs⟩ : ∃ gs, Hid (gs = rkZ xs m g s ks (rcR m (xs, g, s) ks).2.2) := ⟨_, Lib.hid rfl⟩
  obtain ⟨B, hB⟩ : ∃ B, Hid (B = rkB xs m g s ks) := ⟨_, Lib.hid rfl⟩
  have cI := Lib.hid (fun (v0 v1 : Value) (w : World) (h0 : Items w v0 xs) (h1 : Texts w v1 ks) => (show Calls Try.prog 32 #[.agg #[v0, .int .i64 m, .int .i64 g, .int .i64 s], v1] w (NewL (fun v => .tuple #[.agg #[v, .int .i64 gm, .int .i64 gg, .int .i64 gs], .bool B]) G w) by rw [hG.out, hgm.out, hgg.out, hgs.out, hB.out]; exact RunCache_any v0 v1 xs m g s ks w h0 h1))
  have cS := Lib.hid (fun (v0 v1 : Value) (w : World) (h0 : Items w v0 xs) (h1 : Texts w v1 ks) => (show Calls Try.prog 33 #[.agg #[v0, .int .i64 m, .int .i64 g, .int .i64 s], v1] w (NewL (fun v => .tuple #[.agg #[v, .int .i64 gm, .int .i64 gg, .int .i64 gs], .bool B]) G w) by rw [hG.out, hgm.out, hgg.out, hgs.out, hB.out]; exact sRunCache_any v0 v1 xs m g s ks w h0 h1))
  obtain ⟨c0_, c1_, c2_, c3_⟩ := H2.box4 0 rfl
  go_wp2_with fail
  refine (cI.out _ _ _ (H2.arg HXc.out) (H2.argT HXk.out)).mono ?_
  rintro e w3 ⟨vo, rfl, ho, hbl⟩
  have H3 := H2.newI ho hbl
  obtain ⟨op, oc, rfl, hoc, hom⟩ := Items.shape0 (H3.items 0 rfl)
  clear c0_ c1_ c2_ c3_
  have H4 := H3.boxed 25 [.slice op G.length oc, .int .i64 gm, .int .i64 gg, .int .i64 gs]
  clear H2 H3 ho hbl
  obtain ⟨c0_, c1_, c2_, c3_⟩ := H4.box4 2 rfl
  go_wp2_with fail
  refine (cS.out _ _ _ (H4.arg HXc.out) (H4.argT HXk.out)).mono ?_
  rintro e w5 ⟨vw, rfl, ho, hbl⟩
  have H5 := H4.newI ho hbl
  obtain ⟨wp, wc, rfl, hwc, hwm⟩ := Items.shape0 (H5.items 0 rfl)
  clear c0_ c1_ c2_ c3_
  have H6 := H5.boxed 25 [.slice wp G.length wc, .int .i64 gm, .int .i64 gg, .int .i64 gs]
  clear H4 H5 ho hbl
  clear cI cS
  obtain ⟨o0_, o1_, o2_, o3_⟩ := H6.box4 2 rfl
  obtain ⟨w0_, w1_, w2_, w3_⟩ := H6.box4 0 rfl
  go_wp2_with fail
  refine (equalK_T H6 (H6.items 3 rfl) (H6.items 1 rfl)).mono ?_
  rintro e w7 ⟨rfl, H7⟩
  clear o0_ o1_ o2_ o3_ w0_ w1_ w2_ w3_
  clear H6
  cases B
  · skip
    obtain ⟨o0_, o1_, o2_, o3_⟩ := H7.box4 2 rfl
    obtain ⟨w0_, w1_, w2_, w3_⟩ := H7.box4 0 rfl
    go_wp2_with fail
    refine (equalK_T H7 (H7.items 3 rfl) (H7.items 1 rfl)).mono ?_
    rintro e w8 ⟨rfl, H8⟩
    clear o0_ o1_ o2_ o3_ w0_ w1_ w2_ w3_
    clear H7
    go_wp2
    go_ret
    exact ⟨rfl, hb1.trans (H8.below.mono hb1.size)⟩
  · have hb := hB.out.symm
    obtain ⟨hv, hkl2, hka⟩ := rk_parts hb
    obtain ⟨y1, y2⟩ := rk_yes hb
    obtain ⟨_, hm, hlm, hg, hs⟩ := vc_yes hv
    have hall := rk_all (m := m) ks (xs, g, s) hv hka
    have hsum := rc_sum m ks (xs, g, s) hg.2 hs.2
    have hGe : G = (rcR m (xs, g, s) ks).1 := by rw [hG.out, y1]
    obtain rfl : gm = m := by rw [hgm.out, y2]
    have hgge : gg = (rcR gm (xs, g, s) ks).2.1 := by rw [hgg.out, y2]
    have hgse : gs = (rcR gm (xs, g, s) ks).2.2 := by rw [hgs.out, y2]
    have hvG : vcB G gm gg gs = true := by rw [hGe, hgge, hgse]; exact hall
    rw [← hgge, ← hgse] at hsum
    obtain ⟨⟨u1, u2⟩, ⟨u3, u4⟩, hsum⟩ := hsum
    dsimp only at u1 u3 hsum
    have hg0 := hg.1
    have hs0 := hs.1
    have hEmp : Hid (ks.length = 0 → G = xs ∧ gg = g ∧ gs = s) := fun h0 => by rw [hGe, hgge, hgse, List.eq_nil_of_length_eq_zero h0]; exact ⟨rfl, rfl, rfl⟩
    have hLast : Hid (∀ j, ks.length = j + 1 → ∃ p, ∃ hp : p < G.length, G.length = p + 1 ∧ ∃ hj : j < ks.length, G[p].1 = ks[j]) := fun j hj => by
      have h1 := rc_last hm.1 (xs, g, s) hj
      rw [← hGe] at h1
      obtain ⟨p, h2, h3, h4⟩ := h1
      exact ⟨p, h2, h3, by omega, h4⟩
    have hGl : G.length ≤ 8 := ((validI_iff _).1 (vc_yes hvG).1).2.2
    have cV := Lib.hid (fun (v0 : Value) (w : World) (h0 : Items w v0 G) => (show Calls Try.prog 15 #[.agg #[v0, .int .i64 gm, .int .i64 gg, .int .i64 gs]] w (RetQ (.bool true) w) by exact VC_v w h0 hvG))
    clear hG hgm hgg hgs hB hb hv hkl hka y1 y2 hm hlm hg hs hall hGe hgge hgse hvG hbd
    rcases Nat.eq_zero_or_pos ks.length with hk0 | hk0
    · obtain ⟨rfl, rfl, rfl⟩ := hEmp.out hk0
      have hkI : ((ks.length : Int) == 0) = true := by rw [hk0]; rfl
      clear hLast hEmp hsum cV
      obtain ⟨o0_, o1_, o2_, o3_⟩ := H7.box4 2 rfl
      obtain ⟨c0_, c1_, c2_, c3_⟩ := H7.box4 4 rfl
      go_wp2_with fail
      refine (equalK_T H7 (H7.items 3 rfl) (H7.arg HXc.out)).mono ?_
      rintro e w8 ⟨rfl, H8⟩
      clear o0_ o1_ o2_ o3_ c0_ c1_ c2_ c3_
      clear H7
      go_wp2
      go_ret
      exact ⟨rfl, hb1.trans (H8.below.mono hb1.size)⟩
    · obtain ⟨j, hj⟩ : ∃ j, ks.length = j + 1 := ⟨ks.length - 1, by omega⟩
      obtain ⟨p, hp, hpl, hjl, hpk⟩ := hLast.out j hj
      have hkI : ((ks.length : Int) == 0) = false := by rw [beq_eq_false_iff_ne]; omega
      obtain ⟨E, hE⟩ : ∃ E, Hid (E = gg + gs - g - s) := ⟨_, Lib.hid rfl⟩
      have hEe := hE.out
      have hw1 : IntKind.i64.wrap (gg + gs) = gg + gs := IntWalk.i64_in _ (by omega)
      have hw2 : IntKind.i64.wrap (gg + gs - g) = gg + gs - g := IntWalk.i64_in _ (by omega)
      have hw3 : IntKind.i64.wrap (gg + gs - g - s) = E := by rw [IntWalk.i64_in _ (by omega)]; omega
      have hw4 : IntKind.i64.wrap ((G.length : Int) - 1) = (p : Int) := by rw [IntWalk.i64_in _ (by omega)]; omega
      have hw5 : IntKind.i64.wrap ((ks.length : Int) - 1) = (j : Int) := by rw [IntWalk.i64_in _ (by omega)]; omega
      have hsum2 : E = (ks.length : Int) ∨ gg = 9999 ∨ gs = 9999 := by
        rcases hsum with h | h | h
        · left; omega
        · exact .inr (.inl h)
        · exact .inr (.inr h)
      have hp0 : (0 : Int) ≤ (p : Int) := by omega
      have hp1 : (p : Int) < (G.length : Int) := by omega
      have hj0 : (0 : Int) ≤ (j : Int) := by omega
      have hj1 : (j : Int) < (ks.length : Int) := by omega
      obtain ⟨b4, o4, hoe, hb4, y0, y1⟩ := Items.cellAt (H7.items 3 rfl) hp
      subst hoe
      obtain ⟨b5, o5, kc2, hke, hb5, z0, _⟩ := Texts.at (H7.argT HXk.out) hjl
      simp only [Value.slice.injEq] at hke
      obtain ⟨rfl, _, rfl⟩ := hke
      rw [hpk] at y0
      obtain ⟨kk, hkk⟩ : ∃ kk, Hid (kk = ks[j]) := ⟨_, Lib.hid rfl⟩
      rw [← hkk.out] at y0 z0
      have HEM := Lib.hid hEmp
      clear hEmp hLast hsum hE hEe hj hpl hpk hkk y1 hk0 u1 u2 u3 u4 hg0 hs0
      obtain ⟨o0_, o1_, o2_, o3_⟩ := H7.box4 2 rfl
      obtain ⟨c0_, c1_, c2_, c3_⟩ := H7.box4 4 rfl
      have o0f := fresh_cell o0_
      have o1f := fresh_cell o1_
      have o2f := fresh_cell o2_
      have o3f := fresh_cell o3_
      have c0f := fresh_cell c0_
      have c1f := fresh_cell c1_
      have c2f := fresh_cell c2_
      have c3f := fresh_cell c3_
      have y0f := fresh_cell y0
      have z0f := fresh_cell z0
      by_cases hE1 : E = (ks.length : Int)
      · have hE2 : (E == (ks.length : Int)) = true := by rw [beq_iff_eq]; exact hE1
        clear hE1 hsum2
        go_wp2_with fail
        refine region_fresh (by kernel_rfl) (by kernel_rfl) ?_
        repeat (with_reducible refine wpQuiet_step ?_; intro K hK; go_simp; first | (refine hK _ ?_; clear hK K) | (apply Exists.intro; refine ⟨fun _ => ?_, hK _ ?_⟩; ((go_at_call 15; exact fresh_Q (cV.out _ _ ((Things.quiet H7 (Fresh.is _)).items 3 rfl)))); clear hK K))
        with_reducible refine wpQuiet_nil ?_
        intro _ hw'
        obtain ⟨⟨wq7, hq7⟩, hw''⟩ := hw'
        subst hw''
        have H8 := H7.quiet hq7
        go_wp2
        go_ret
        exact ⟨rfl, hb1.trans (H8.below.mono hb1.size)⟩
      · have hE2 : (E == (ks.length : Int)) = false := by rw [beq_eq_false_iff_ne]; exact hE1
        by_cases hg9 : gg = 9999
        · have hg2 : (gg == 9999) = true := by rw [beq_iff_eq]; exact hg9
          clear hE1 hsum2 hg9
          go_wp2_with fail
          refine region_fresh (by kernel_rfl) (by kernel_rfl) ?_
          repeat (with_reducible refine wpQuiet_step ?_; intro K hK; go_simp; first | (refine hK _ ?_; clear hK K) | (apply Exists.intro; refine ⟨fun _ => ?_, hK _ ?_⟩; ((go_at_call 15; exact fresh_Q (cV.out _ _ ((Things.quiet H7 (Fresh.is _)).items 3 rfl)))); clear hK K))
          with_reducible refine wpQuiet_nil ?_
          intro _ hw'
          obtain ⟨⟨wq7, hq7⟩, hw''⟩ := hw'
          subst hw''
          have H8 := H7.quiet hq7
          go_wp2
          go_ret
          exact ⟨rfl, hb1.trans (H8.below.mono hb1.size)⟩
        · have hg2 : (gg == 9999) = false := by rw [beq_eq_false_iff_ne]; exact hg9
          have hs2 : (gs == 9999) = true := by rw [beq_iff_eq]; rcases hsum2 with h | h | h; exact absurd h hE1; exact absurd h hg9; exact h
          clear hE1 hsum2 hg9
          go_wp2_with fail
          refine region_fresh (by kernel_rfl) (by kernel_rfl) ?_
          repeat (with_reducible refine wpQuiet_step ?_; intro K hK; go_simp; first | (refine hK _ ?_; clear hK K) | (apply Exists.intro; refine ⟨fun _ => ?_, hK _ ?_⟩; ((go_at_call 15; exact fresh_Q (cV.out _ _ ((Things.quiet H7 (Fresh.is _)).items 3 rfl)))); clear hK K))
          with_reducible refine wpQuiet_nil ?_
          intro _ hw'
          obtain ⟨⟨wq7, hq7⟩, hw''⟩ := hw'
          subst hw''
          have H8 := H7.quiet hq7
          go_wp2
          go_ret
          exact ⟨rfl, hb1.trans (H8.below.mono hb1.size)⟩

set_option maxRecDepth 100000 in
theorem FnRunCache_lifted (os : Os) (started : os.Started) (H : Type) (enc : TypeId × Value → H) :
    ReturnsInHanded {} Try.checked os 7 .any (Rows.fnRunCacheSpec.pre6 enc Try.prog Try.f7 Rows.fnRunCacheRow.domain false) (Rows.fnRunCacheSpec.post enc Try.prog Try.f7 false true false false) := by
  refine returnsInHanded_of_change (C := Try.checked) own started (by kernel_rfl) Try.func7
    (ChangeSpec.witness6 (enc := enc) (C := Try.checked) false ⟨#[], #[.slice none 0 0], []⟩ 8 (by kernel_rfl) (by kernel_rfl) (by kernel_rfl) (by kernel_rfl)) ?_
  intro W base args ds gs before hval0 hW _ _
  have hval : ∀ (j : Nat) t v, Try.f7.params[j]? = some t → args[j]? = some v → Value.okWide Try.prog W .any base t v := hval0
  have hW' := hW
  obtain ⟨p, q, hA0, hV, rfl, _, _⟩ := hW
  have hA : DataW.TrodAll enc Try.prog W 0 (fun _ => true) true Try.f7.params.toList args.toList ds p := hA0
  rw [Try.params7] at hA hval
  obtain ⟨v0, vs0, d0, ds0, p0, q0, hargs, rfl, rfl, h0, r0⟩ := trodAll_cons hA
  obtain ⟨rfl, rfl, rfl⟩ := trodAll_nil r0
  obtain rfl : args = #[v0] := by cases args; simp_all
  obtain ⟨rfl, rfl⟩ := trodVars_none hV
  obtain ⟨xs0, hI0⟩ := open_bytes (hval 0 _ v0 rfl rfl) h0
  refine (FnRunCache_walk v0 xs0 W hI0).mono fun e W' ⟨he, hb⟩ => ⟨_, he, ?_⟩
  exact law_end rfl (by rw [Try.params7]; decide +kernel) rfl hW' rfl rfl rfl hb

theorem FnRunCache_facts : joinedFacts Try.prog 7 Try.f7 Rows.fnRunCacheSpec Rows.fnRunCacheRow = true :=
  facts_of (by kernel_rfl) q2 q3 (by kernel_rfl) (by kernel_rfl) (by kernel_rfl) q7 (by kernel_rfl) q9 (by kernel_rfl) (by kernel_rfl) (by kernel_rfl) (by kernel_rfl) (by kernel_rfl) (by kernel_rfl) (by kernel_rfl) (by kernel_rfl) (by kernel_rfl) (by kernel_rfl) (by kernel_rfl) (by kernel_rfl) (by kernel_rfl)
    (by rw [q22]; kernel_rfl) (by kernel_rfl) q23 head_enter (by kernel_rfl) head_lifts head_make (by kernel_rfl) (by kernel_rfl) (by kernel_rfl) (by kernel_rfl) (by kernel_rfl)

theorem FnRunCache_holds : Rows.FnRunCacheSaid :=
  OpenClaim.holds_of_wide 7 Try.f7 rfl rfl rfl rfl rfl rfl rfl ⟨rfl, rfl, rfl, rfl, rfl⟩ rfl rfl rfl rfl rfl (by kernel_rfl) Try.func7 FnRunCache_facts
    (of_decide_eq_true (by kernel_rfl)) (by unfold Func.isWrapper; first | (rw [if_pos (by decide +kernel)]; kernel_rfl) | (rw [if_neg (by decide +kernel)]; exact ⟨rfl, rfl⟩))
    (fun os started H enc _ => FnRunCache_lifted os started H enc)
end Go.Proofs.Ytlclhdolcokipaa
