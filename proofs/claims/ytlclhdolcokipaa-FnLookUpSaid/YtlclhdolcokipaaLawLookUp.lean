/-
  FnLookUp: true, for every code.
-/
import Derived.Test.YtlclhdolcokipaaD5
import Derived.Test.YtlclhdolcokipaaD11
import Derived.Test.YtlclhdolcokipaaD15
import Derived.Test.YtlclhdolcokipaaD16
import Derived.Test.YtlclhdolcokipaaD18
import Derived.Test.YtlclhdolcokipaaD20
namespace Go.Proofs.Ytlclhdolcokipaa
open Go.RowKit
open Go.ChangeShapes Go.WideShapes Go.ChangeAt Go.Deep

theorem cnt_alone {xs : List Itm} (h : validI xs = true) (k : ByteArray) : cnt (sumL xs [] 1) k = cnt xs k := by
  rw [cnt_sum h rfl]
  simp [cnt]

set_option maxHeartbeats 4000000 in
set_option maxRecDepth 100000 in
theorem FnLookUp_walk (v : Value) (bs : List Int) (w : World) (h : Bytes w v bs) :
    Calls Try.prog 4 #[v] w fun e w' => e = .returned (.bool true) ∧ Below w.heap.size w w' := by
  have h0 := h
  obtain ⟨ao, cap, rfl, hl, hc, hok, hcell⟩ := h0
  clear hcell hok
  go_enter Try.func4, Try.ntmps4
  by_cases hbig : (1048576 : Int) < (bs.length : Int)
  · go_wp2
    go_ret
    exact ⟨rfl, Below.refl _ _⟩
  go_wp2_with fail
  refine (DrawLookUp_any _ bs w h).mono ?_
  rintro e w1 ⟨vc, xs, m, g, s, t, rfl, hbd, hts, hit, hik, hbl⟩
  have H1 := (Things.nil w).new (t := readT w.heap.size w1.heap.size vc xs) (Nat.le_refl _) (Nat.le_refl _) ⟨hit, hik⟩ hbl
  obtain ⟨cp, cc, rfl, hcc, hcm⟩ := Items.shape0 (H1.ritems 0 rfl)
  have H2 := H1.boxed 25 [.slice cp xs.length cc, .int .i64 m, .int .i64 g, .int .i64 s]
  clear hit hik hbl H1 h
  obtain ⟨G, hG⟩ : ∃ G, Hid (G = luL xs m g s t) := ⟨_, Lib.hid rfl⟩
  obtain ⟨gm, hgm⟩ : ∃ gm, Hid (gm = luM xs m g s) := ⟨_, Lib.hid rfl⟩
  obtain ⟨gg, hgg⟩ : ∃ gg, Hid (gg = luG xs m g s t) := ⟨_, Lib.hid rfl⟩
  obtain ⟨gs, hgs⟩ : ∃ gs, Hid (gs = luS xs m g s t) := ⟨_, Lib.hid rfl⟩
  obtain ⟨N, hN⟩ : ∃ N, Hid (N = luN xs m g s t) := ⟨_, Lib.hid rfl⟩
  obtain ⟨B, hB⟩ : ∃ B, Hid (B = luB xs m g s t) := ⟨_, Lib.hid rfl⟩
  obtain ⟨V, hV⟩ : ∃ V, Hid (V = vcB xs m g s) := ⟨_, Lib.hid rfl⟩
  have cI := Lib.hid (fun (v0 : Value) (w : World) (h0 : Items w v0 xs) => (show Calls Try.prog 18 #[.agg #[v0, .int .i64 m, .int .i64 g, .int .i64 s], .string t] w (NewL (fun v => .tuple #[.agg #[v, .int .i64 gm, .int .i64 gg, .int .i64 gs], .int .i64 N, .bool B]) G w) by rw [hG.out, hgm.out, hgg.out, hgs.out, hN.out, hB.out]; exact LookUp_any v0 xs m g s t w h0))
  have cS := Lib.hid (fun (v0 : Value) (w : World) (h0 : Items w v0 xs) => (show Calls Try.prog 19 #[.agg #[v0, .int .i64 m, .int .i64 g, .int .i64 s], .string t] w (NewL (fun v => .tuple #[.agg #[v, .int .i64 gm, .int .i64 gg, .int .i64 gs], .int .i64 N, .bool B]) G w) by rw [hG.out, hgm.out, hgg.out, hgs.out, hN.out, hB.out]; exact sLookUp_any v0 xs m g s t w h0))
  have cV := Lib.hid (fun (v0 : Value) (w : World) (h0 : Items w v0 xs) => (show Calls Try.prog 15 #[.agg #[v0, .int .i64 m, .int .i64 g, .int .i64 s]] w (RetQ (.bool V) w) by exact VC_v w h0 hV.out.symm))
  obtain ⟨c0_, c1_, c2_, c3_⟩ := H2.box4 0 rfl
  go_wp2_with fail
  refine (cI.out _ _ (H2.ritems 1 rfl)).mono ?_
  rintro e w3 ⟨vo, rfl, ho, hbl⟩
  have H3 := H2.newI ho hbl
  obtain ⟨op, oc, rfl, hoc, hom⟩ := Items.shape0 (H3.items 0 rfl)
  clear c0_ c1_ c2_ c3_
  have H4 := H3.boxed 25 [.slice op G.length oc, .int .i64 gm, .int .i64 gg, .int .i64 gs]
  clear H2 H3 ho hbl
  obtain ⟨c0_, c1_, c2_, c3_⟩ := H4.box4 2 rfl
  go_wp2_with fail
  refine (cS.out _ _ (H4.ritems 3 rfl)).mono ?_
  rintro e w5 ⟨vw, rfl, ho, hbl⟩
  have H5 := H4.newI ho hbl
  obtain ⟨wp, wc, rfl, hwc, hwm⟩ := Items.shape0 (H5.items 0 rfl)
  clear c0_ c1_ c2_ c3_
  have H6 := H5.boxed 25 [.slice wp G.length wc, .int .i64 gm, .int .i64 gg, .int .i64 gs]
  clear H4 H5 ho hbl
  clear cI cS
  obtain ⟨o0_, o1_, o2_, o3_⟩ := H6.box4 2 rfl
  obtain ⟨w0_, w1_, w2_, w3_⟩ := H6.box4 0 rfl
  go_wp2_with fail
  refine (equalK_T H6 (H6.items 3 rfl) (H6.items 1 rfl)).mono ?_
  rintro e w7 ⟨rfl, H7⟩
  clear o0_ o1_ o2_ o3_ w0_ w1_ w2_ w3_
  clear H6
  obtain ⟨c0_, c1_, c2_, c3_⟩ := H7.box4 4 rfl
  go_wp2_with fail
  refine (cV.out _ _ (H7.ritems 5 rfl)).mono ?_
  rintro e w8 ⟨rfl, hb⟩
  have H8 := H7.quiet hb
  clear c0_ c1_ c2_ c3_
  clear hb H7
  clear cV
  cases V
  · skip
    obtain ⟨o0_, o1_, o2_, o3_⟩ := H8.box4 2 rfl
    obtain ⟨w0_, w1_, w2_, w3_⟩ := H8.box4 0 rfl
    go_wp2_with fail
    refine (equalK_T H8 (H8.items 3 rfl) (H8.items 1 rfl)).mono ?_
    rintro e w9 ⟨rfl, H9⟩
    clear o0_ o1_ o2_ o3_ w0_ w1_ w2_ w3_
    clear H8
    go_wp2
    go_ret
    exact ⟨rfl, H9.below⟩
  · have hv := hV.out.symm
    obtain ⟨l1, l2, l3, l4, l5, l6⟩ := lu_yes (k := t) hv
    have hxv := (vc_yes hv).1
    rw [← hG.out] at l1
    rw [← hgg.out] at l3
    rw [← hgs.out] at l4
    rw [← hN.out] at l5
    rw [← hB.out] at l6
    obtain ⟨Mv, hM⟩ : ∃ Mv, Hid (Mv = movL xs t true) := ⟨_, Lib.hid rfl⟩
    have hMe : hasI xs t = true → Mv = movI xs t true := fun hh => by rw [hM.out]; unfold movL okG; rw [hxv, hh]; rfl
    have cM := Lib.hid (fun (v0 : Value) (w : World) (h0 : Items w v0 xs) => (show Calls Try.prog 21 #[v0, .string t, .bool true] w (NewI2 Mv B w) by rw [hM.out]; have h1 := MoveItem_any v0 xs t true w h0; unfold okG at h1; rw [hxv, Bool.true_and, ← l6] at h1; exact h1))
    have cC := Lib.hid (fun (v0 : Value) (w : World) (h0 : Items w v0 xs) => (show Calls Try.prog 23 #[v0, .string t] w (RetQ (.int .i64 (cnt xs t)) w) by have h1 := CountOf_any v0 xs t w h0 hts; rw [hxv, if_pos rfl, cnt_alone hxv] at h1; exact h1))
    have F0 : Hid (hasI xs t = false → G = xs ∧ gg = g) := fun hh => ⟨by rw [l1]; unfold lkI; rw [hh]; rfl, by rw [l3]; unfold lkG; rw [hh]; rfl⟩
    have F1 : Hid (hasI xs t = true → G = Mv ∧ gs = s ∧ N = cnt xs t) := fun hh => ⟨by rw [l1, hMe hh]; unfold lkI; rw [hh]; rfl, by rw [l4]; unfold lkS; rw [hh]; rfl, by rw [l5]; unfold lkN; rw [hh]; rfl⟩
    have F2 := Lib.hid l6
    clear hG hgm hgg hgs hN hB hV hv hM l1 l2 l3 l4 l5 l6 hMe
    obtain ⟨c0_, c1_, c2_, c3_⟩ := H8.box4 4 rfl
    go_wp2_with fail
    refine (cM.out _ _ (H8.ritems 5 rfl)).mono ?_
    rintro e w9 ⟨vl, rfl, ho, hbl⟩
    have H9 := H8.newI ho hbl
    clear c0_ c1_ c2_ c3_
    clear H8 ho hbl cM
    cases hh : hasI xs t
    · obtain rfl : B = false := by rw [F2.out, hh]
      obtain ⟨rfl, rfl⟩ := F0.out hh
      clear hh F0 F1 F2 cC
      obtain ⟨o0_, o1_, o2_, o3_⟩ := H9.box4 3 rfl
      obtain ⟨c0_, c1_, c2_, c3_⟩ := H9.box4 5 rfl
      go_wp2_with fail
      refine (equalI_T H9 (H9.items 4 rfl) (H9.ritems 6 rfl)).mono ?_
      rintro e w10 ⟨rfl, H10⟩
      clear o0_ o1_ o2_ o3_ c0_ c1_ c2_ c3_
      clear H9
      obtain ⟨o0_, o1_, o2_, o3_⟩ := H10.box4 3 rfl
      obtain ⟨c0_, c1_, c2_, c3_⟩ := H10.box4 5 rfl
      go_wp2
      go_ret
      exact ⟨rfl, H10.below⟩
    · obtain rfl : B = true := by rw [F2.out, hh]
      obtain ⟨rfl, rfl, rfl⟩ := F1.out hh
      clear hh F0 F1 F2
      obtain ⟨o0_, o1_, o2_, o3_⟩ := H9.box4 3 rfl
      obtain ⟨c0_, c1_, c2_, c3_⟩ := H9.box4 5 rfl
      go_wp2_with fail
      refine (equalI_T H9 (H9.items 4 rfl) (H9.items 0 rfl)).mono ?_
      rintro e w10 ⟨rfl, H10⟩
      clear o0_ o1_ o2_ o3_ c0_ c1_ c2_ c3_
      clear H9
      obtain ⟨o0_, o1_, o2_, o3_⟩ := H10.box4 3 rfl
      obtain ⟨c0_, c1_, c2_, c3_⟩ := H10.box4 5 rfl
      go_wp2_with fail
      refine (cC.out _ _ (H10.ritems 6 rfl)).mono ?_
      rintro e w11 ⟨rfl, hb⟩
      have H11 := H10.quiet hb
      clear o0_ o1_ o2_ o3_ c0_ c1_ c2_ c3_
      clear hb H10
      obtain ⟨o0_, o1_, o2_, o3_⟩ := H11.box4 3 rfl
      obtain ⟨c0_, c1_, c2_, c3_⟩ := H11.box4 5 rfl
      go_wp2
      go_ret
      exact ⟨rfl, H11.below⟩

set_option maxRecDepth 100000 in
theorem FnLookUp_lifted (os : Os) (started : os.Started) (H : Type) (enc : TypeId × Value → H) :
    ReturnsInHanded {} Try.checked os 4 .any (Rows.fnLookUpSpec.pre6 enc Try.prog Try.f4 Rows.fnLookUpRow.domain false) (Rows.fnLookUpSpec.post enc Try.prog Try.f4 false true false false) := by
  refine returnsInHanded_of_change (C := Try.checked) own started (by kernel_rfl) Try.func4
    (ChangeSpec.witness6 (enc := enc) (C := Try.checked) false ⟨#[], #[.slice none 0 0], []⟩ 8 (by kernel_rfl) (by kernel_rfl) (by kernel_rfl) (by kernel_rfl)) ?_
  intro W base args ds gs before hval0 hW _ _
  have hval : ∀ (j : Nat) t v, Try.f4.params[j]? = some t → args[j]? = some v → Value.okWide Try.prog W .any base t v := hval0
  have hW' := hW
  obtain ⟨p, q, hA0, hV, rfl, _, _⟩ := hW
  have hA : DataW.TrodAll enc Try.prog W 0 (fun _ => true) true Try.f4.params.toList args.toList ds p := hA0
  rw [Try.params4] at hA hval
  obtain ⟨v0, vs0, d0, ds0, p0, q0, hargs, rfl, rfl, h0, r0⟩ := trodAll_cons hA
  obtain ⟨rfl, rfl, rfl⟩ := trodAll_nil r0
  obtain rfl : args = #[v0] := by cases args; simp_all
  obtain ⟨rfl, rfl⟩ := trodVars_none hV
  obtain ⟨xs0, hI0⟩ := open_bytes (hval 0 _ v0 rfl rfl) h0
  refine (FnLookUp_walk v0 xs0 W hI0).mono fun e W' ⟨he, hb⟩ => ⟨_, he, ?_⟩
  exact law_end rfl (by rw [Try.params4]; decide +kernel) rfl hW' rfl rfl rfl hb

theorem FnLookUp_facts : joinedFacts Try.prog 4 Try.f4 Rows.fnLookUpSpec Rows.fnLookUpRow = true :=
  facts_of (by kernel_rfl) q2 q3 (by kernel_rfl) (by kernel_rfl) (by kernel_rfl) q7 (by kernel_rfl) q9 (by kernel_rfl) (by kernel_rfl) (by kernel_rfl) (by kernel_rfl) (by kernel_rfl) (by kernel_rfl) (by kernel_rfl) (by kernel_rfl) (by kernel_rfl) (by kernel_rfl) (by kernel_rfl) (by kernel_rfl) (by kernel_rfl)
    (by rw [q22]; kernel_rfl) (by kernel_rfl) q23 head_enter (by kernel_rfl) head_lifts head_make (by kernel_rfl) (by kernel_rfl) (by kernel_rfl) (by kernel_rfl) (by kernel_rfl)

theorem FnLookUp_holds : Rows.FnLookUpSaid :=
  OpenClaim.holds_of_wide 4 Try.f4 rfl rfl rfl rfl rfl rfl rfl ⟨rfl, rfl, rfl, rfl, rfl⟩ rfl rfl rfl rfl rfl (by kernel_rfl) Try.func4 FnLookUp_facts
    (of_decide_eq_true (by kernel_rfl)) (by unfold Func.isWrapper; first | (rw [if_pos (by decide +kernel)]; kernel_rfl) | (rw [if_neg (by decide +kernel)]; exact ⟨rfl, rfl⟩))
    (fun os started H enc _ => FnLookUp_lifted os started H enc)
end Go.Proofs.Ytlclhdolcokipaa
