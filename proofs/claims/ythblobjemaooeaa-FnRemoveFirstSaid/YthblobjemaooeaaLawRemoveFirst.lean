/-
  FnRemoveFirst: true, for every code.
-/
import Derived.Test.YthblobjemaooeaaQ9
import Derived.Test.YthblobjemaooeaaQ11
import Derived.Test.YthblobjemaooeaaQ13
import Derived.Test.YthblobjemaooeaaQ16
import Derived.Test.YthblobjemaooeaaQ17
namespace Go.Proofs.Ythblobjemaooeaa
open Go.RowKit
open Go.ChangeShapes Go.WideShapes Go.ChangeAt Go.Deep

theorem rm_cases {xs : List Int} {m x : Int} (h : dlB (idxD xs m x 0 xs.length) = true) :
    ∃ j : Nat, j < xs.length ∧ idxD xs m x 0 xs.length = (j : Int) ∧ validD xs m = true ∧ cntD (delN xs (j : Int)) m x = cntD xs m x - 1 ∧ (delN xs (j : Int)).length + 1 = xs.length ∧ (-1 ≤ cntD xs m x ∧ cntD xs m x ≤ 10) ∧
      (idxD (delN xs (j : Int)) m x 0 (delN xs (j : Int)).length < 0 ∨ (¬ idxD (delN xs (j : Int)) m x 0 (delN xs (j : Int)).length < 0 ∧ (j : Int) ≤ idxD (delN xs (j : Int)) m x 0 (delN xs (j : Int)).length)) := by
  have h0 : 0 ≤ idxD xs m x 0 xs.length := of_decide_eq_true h
  obtain ⟨_, hv⟩ := (idxD_bd xs m x 0 xs.length).2 h0
  have e : idxD xs m x 0 xs.length = scanN xs x xs.length 0 := by
    unfold idxD
    rw [if_pos hv, clp_zero, clp_all]
  rcases scan_spec xs x xs.length _ 0 (Nat.le_refl _) with ⟨e2, _⟩ | ⟨j, e2, _, hj, hx, hno⟩
  · rw [e, e2] at h0; omega
  · have hjx : xs[j] = x := by rw [← getD_at hj]; exact hx
    have hl := del_len hj
    have hdv := del_valid hv hj
    have hc : cntN xs x = cntN (delN xs (j : Int)) x + 1 := by
      unfold cntN delN
      simp only [Int.toNat_natCast]
      conv => lhs; rw [← List.take_append_drop j xs, List.drop_eq_getElem_cons hj]
      rw [List.count_append, List.count_append, List.count_cons, hjx]
      simp
      omega
    have hxl := (validD_iff.1 hv).2.2.1
    have hcl : cntN xs x ≤ xs.length := List.count_le_length
    refine ⟨j, hj, by rw [e, e2], hv, ?_, by omega, ?_, ?_⟩
    · unfold cntD
      rw [if_pos hdv, if_pos hv, hc]
      omega
    · unfold cntD
      rw [if_pos hv]
      omega
    · have e3 : idxD (delN xs (j : Int)) m x 0 (delN xs (j : Int)).length = scanN (delN xs (j : Int)) x (delN xs (j : Int)).length 0 := by
        unfold idxD
        rw [if_pos hdv, clp_zero, clp_all]
      rw [e3]
      rcases scan_spec (delN xs (j : Int)) x (delN xs (j : Int)).length _ 0 (Nat.le_refl _) with ⟨e4, _⟩ | ⟨k, e4, _, hk, hkx, _⟩
      · left; rw [e4]; omega
      · right
        rw [e4]
        refine ⟨by omega, ?_⟩
        rcases Nat.lt_or_ge k j with hlt | hge
        · exfalso
          refine hno k (by omega) hlt ?_
          rw [← hkx, getD_at hk, getD_at (by omega)]
          unfold delN
          simp only [Int.toNat_natCast]
          rw [List.getElem_append_left (by rw [List.length_take]; omega), List.getElem_take]
        · omega

set_option maxHeartbeats 4000000 in
set_option maxRecDepth 100000 in
theorem FnRemoveFirst_walk (v : Value) (bs : List Int) (w : World) (h : Bytes w v bs) :
    Calls Try.prog 10 #[v] w fun e w' => e = .returned (.bool true) ∧ Below w.heap.size w w' := by
  have h0 := h
  obtain ⟨ao, cap, rfl, hl, hc, hok, hcell⟩ := h0
  clear hcell hok
  go_enter Try.func10, Try.ntmps10
  by_cases hbig : (1048576 : Int) < (bs.length : Int)
  · go_wp2
    go_ret
    exact ⟨rfl, Below.refl _ _⟩
  go_wp2_with fail
  refine (DrawRemoveFirst_any _ bs w h).mono ?_
  rintro e w1 ⟨vd, xs, m, x, rfl, ho, hbnd, hx, hbl⟩
  have H1 := (Things.nil w).new (t := numT w.heap.size w1.heap.size vd xs) (Nat.le_refl _) (Nat.le_refl _) ho hbl
  obtain ⟨dp, dc, rfl, hdc, hdm⟩ := (H1.nums 0 rfl).slice
  have H2 := H1.boxed 25 [.slice dp xs.length dc, .int .i64 m]
  clear ho hbl H1 h
  obtain ⟨G, hG⟩ : ∃ G, Hid (G = ifN (dlB (idxD xs m x 0 xs.length)) (delN xs (idxD xs m x 0 xs.length))) := ⟨_, Lib.hid rfl⟩
  obtain ⟨g, hg⟩ : ∃ g, Hid (g = ifI (dlB (idxD xs m x 0 xs.length)) m) := ⟨_, Lib.hid rfl⟩
  obtain ⟨K, hK⟩ : ∃ K, Hid (K = dlB (idxD xs m x 0 xs.length)) := ⟨_, Lib.hid rfl⟩
  have cI := Lib.hid (fun (v0 : Value) (w : World) (h0 : Nums w v0 xs) => (show Calls Try.prog 41 #[.agg #[v0, .int .i64 m], .int .i64 x] w (NewD G g K w) by rw [hG.out, hg.out, hK.out]; exact RemoveFirst_any v0 xs m x w h0))
  have cS := Lib.hid (fun (v0 : Value) (w : World) (h0 : Nums w v0 xs) => (show Calls Try.prog 42 #[.agg #[v0, .int .i64 m], .int .i64 x] w (NewD G g K w) by rw [hG.out, hg.out, hK.out]; exact sRemoveFirst_any v0 xs m x w h0))
  obtain ⟨d0_, d1_⟩ := H2.box2 0 rfl
  go_wp2_with fail
  refine (cI.out _ _ (H2.nums 1 rfl)).mono ?_
  rintro e w3 ⟨vo, rfl, ho, hbl⟩
  have H3 := H2.newN ho hbl
  obtain ⟨op, oc, rfl, hoc, hom⟩ := (H3.nums 0 rfl).slice
  have H4 := H3.boxed 25 [.slice op G.length oc, .int .i64 g]
  clear d0_ d1_
  clear H2 H3 ho hbl
  obtain ⟨d0_, d1_⟩ := H4.box2 2 rfl
  go_wp2_with fail
  refine (cS.out _ _ (H4.nums 3 rfl)).mono ?_
  rintro e w5 ⟨vw, rfl, ho, hbl⟩
  have H5 := H4.newN ho hbl
  obtain ⟨wp, wc, rfl, hwc, hwm⟩ := (H5.nums 0 rfl).slice
  have H6 := H5.boxed 25 [.slice wp G.length wc, .int .i64 g]
  clear d0_ d1_
  clear H4 H5 ho hbl
  clear cI cS
  obtain ⟨o0_, o1_⟩ := H6.box2 2 rfl
  obtain ⟨w0_, w1_⟩ := H6.box2 0 rfl
  go_wp2_with fail
  refine (equalD_T H6 (H6.nums 3 rfl) (H6.nums 1 rfl)).mono ?_
  rintro e w7 ⟨rfl, H7⟩
  clear o0_ o1_ w0_ w1_
  clear H6
  cases K
  · skip
    obtain ⟨o0_, o1_⟩ := H7.box2 2 rfl
    obtain ⟨w0_, w1_⟩ := H7.box2 0 rfl
    go_wp2_with fail
    refine (equalD_T H7 (H7.nums 3 rfl) (H7.nums 1 rfl)).mono ?_
    rintro e w8 ⟨rfl, H8⟩
    clear o0_ o1_ w0_ w1_
    clear H7
    go_wp2
    go_ret
    exact ⟨rfl, H8.below⟩
  · have hk := hK.out.symm
    obtain ⟨j, hj, ej, hv, hcn, hln, hcb, hnx⟩ := rm_cases hk
    have hGe : G = delN xs (j : Int) := by rw [hG.out, hk, ej]; rfl
    obtain rfl : g = m := by rw [hg.out, hk]; rfl
    rw [← hGe] at hcn hln hnx
    have hxl := (validD_iff.1 hv).2.2.1
    obtain ⟨C, hC⟩ : ∃ C, Hid (C = cntD xs g x) := ⟨_, Lib.hid rfl⟩
    obtain ⟨N, hN⟩ : ∃ N, Hid (N = idxD G g x 0 G.length) := ⟨_, Lib.hid rfl⟩
    rw [← hC.out] at hcn hcb
    rw [← hN.out] at hnx
    have c1 := Lib.hid (fun (v0 : Value) (w : World) (h0 : Nums w v0 xs) => (show Calls Try.prog 43 #[.agg #[v0, .int .i64 g], .int .i64 x, .int .i64 0, .int .i64 xs.length] w (RetN (.int .i64 (j : Int)) w) by rw [← ej]; exact IndexIn_any v0 xs g x 0 xs.length w h0 (by omega) (by omega)))
    have c2 := Lib.hid (fun (v0 : Value) (w : World) (h0 : Nums w v0 G) => (show Calls Try.prog 43 #[.agg #[v0, .int .i64 g], .int .i64 x, .int .i64 0, .int .i64 G.length] w (RetN (.int .i64 N) w) by rw [hN.out]; exact IndexIn_any v0 G g x 0 G.length w h0 (by omega) (by omega)))
    have c3 := Lib.hid (fun (v0 : Value) (w : World) (h0 : Nums w v0 G) => (show Calls Try.prog 44 #[.agg #[v0, .int .i64 g], .int .i64 x] w (RetN (.int .i64 (C - 1)) w) by rw [← hcn]; exact CountIn_any v0 G g x w h0))
    have c4 := Lib.hid (fun (v0 : Value) (w : World) (h0 : Nums w v0 xs) => (show Calls Try.prog 44 #[.agg #[v0, .int .i64 g], .int .i64 x] w (RetN (.int .i64 C) w) by rw [hC.out]; exact CountIn_any v0 xs g x w h0))
    have hw1 : IntKind.i64.wrap (C - 1) = C - 1 := IntWalk.i64_in _ (by omega)
    have hw2 : IntKind.i64.wrap ((xs.length : Int) - 1) = (G.length : Int) := by rw [IntWalk.i64_in _ (by omega)]; omega
    clear hG hg hK hk ej hv hcn hGe hC hN hbnd hxl hcb hj hln
    obtain ⟨d0_, d1_⟩ := H7.box2 4 rfl
    go_wp2_with fail
    refine (c1.out _ _ (H7.nums 5 rfl)).mono ?_
    rintro e w8 ⟨rfl, hb⟩
    have H8 := H7.quiet hb
    clear d0_ d1_
    clear hb H7
    obtain ⟨o0_, o1_⟩ := H8.box2 2 rfl
    go_wp2_with fail
    refine (c2.out _ _ (H8.nums 3 rfl)).mono ?_
    rintro e w9 ⟨rfl, hb⟩
    have H9 := H8.quiet hb
    clear o0_ o1_
    clear hb H8
    obtain ⟨d0_, d1_⟩ := H9.box2 4 rfl
    obtain ⟨o0_, o1_⟩ := H9.box2 2 rfl
    have d0f := fresh_cell d0_
    have d1f := fresh_cell d1_
    have o0f := fresh_cell o0_
    have o1f := fresh_cell o1_
    rcases hnx with hn | ⟨hn, hn2⟩
    · skip
      go_wp2_with fail
      refine region_fresh (by kernel_rfl) (by kernel_rfl) ?_
      repeat (with_reducible refine wpQuiet_step ?_; intro K hK; go_simp; first | (refine hK _ ?_; clear hK K) | (apply Exists.intro; refine ⟨fun _ => ?_, hK _ ?_⟩; (first | (go_at_call 44; with_reducible exact fresh_N (c3.out _ _ ((Things.quiet H9 (Fresh.is _)).nums 3 rfl))) | (go_at_call 44; with_reducible exact fresh_N (c4.out _ _ ((Things.quiet H9 (Fresh.is _)).nums 5 rfl)))); clear hK K))
      with_reducible refine wpQuiet_nil ?_
      intro _ hw'
      obtain ⟨⟨wq9, hq9⟩, hw''⟩ := hw'
      subst hw''
      have H10 := H9.quiet hq9
      go_wp2
      go_ret
      exact ⟨rfl, H10.below⟩
    · skip
      go_wp2_with fail
      refine region_fresh (by kernel_rfl) (by kernel_rfl) ?_
      repeat (with_reducible refine wpQuiet_step ?_; intro K hK; go_simp; first | (refine hK _ ?_; clear hK K) | (apply Exists.intro; refine ⟨fun _ => ?_, hK _ ?_⟩; (first | (go_at_call 44; with_reducible exact fresh_N (c3.out _ _ ((Things.quiet H9 (Fresh.is _)).nums 3 rfl))) | (go_at_call 44; with_reducible exact fresh_N (c4.out _ _ ((Things.quiet H9 (Fresh.is _)).nums 5 rfl)))); clear hK K))
      with_reducible refine wpQuiet_nil ?_
      intro _ hw'
      obtain ⟨⟨wq9, hq9⟩, hw''⟩ := hw'
      subst hw''
      have H10 := H9.quiet hq9
      go_wp2
      go_ret
      exact ⟨rfl, H10.below⟩

set_option maxRecDepth 100000 in
theorem FnRemoveFirst_lifted (os : Os) (started : os.Started) (H : Type) (enc : TypeId × Value → H) :
    ReturnsInHanded {} Try.checked os 10 .any (Rows.fnRemoveFirstSpec.pre6 enc Try.prog Try.f10 Rows.fnRemoveFirstRow.domain false) (Rows.fnRemoveFirstSpec.post enc Try.prog Try.f10 false true false false) := by
  refine returnsInHanded_of_change (C := Try.checked) own started (by kernel_rfl) Try.func10
    (ChangeSpec.witness6 (enc := enc) (C := Try.checked) false ⟨#[], #[.slice none 0 0], []⟩ 8 (by kernel_rfl) (by kernel_rfl) (by kernel_rfl) (by kernel_rfl)) ?_
  intro W base args ds gs before hval0 hW _ _
  have hval : ∀ (j : Nat) t v, Try.f10.params[j]? = some t → args[j]? = some v → Value.okWide Try.prog W .any base t v := hval0
  have hW' := hW
  obtain ⟨p, q, hA0, hV, rfl, _, _⟩ := hW
  have hA : DataW.TrodAll enc Try.prog W 0 (fun _ => true) true Try.f10.params.toList args.toList ds p := hA0
  rw [Try.params10] at hA hval
  obtain ⟨v0, vs0, d0, ds0, p0, q0, hargs, rfl, rfl, h0, r0⟩ := trodAll_cons hA
  obtain ⟨rfl, rfl, rfl⟩ := trodAll_nil r0
  obtain rfl : args = #[v0] := by cases args; simp_all
  obtain ⟨rfl, rfl⟩ := trodVars_none hV
  obtain ⟨xs0, hI0⟩ := open_bytes (hval 0 _ v0 rfl rfl) h0
  refine (FnRemoveFirst_walk v0 xs0 W hI0).mono fun e W' ⟨he, hb⟩ => ⟨_, he, ?_⟩
  exact law_end rfl (by rw [Try.params10]; decide +kernel) rfl hW' rfl rfl rfl hb

theorem FnRemoveFirst_facts : joinedFacts Try.prog 10 Try.f10 Rows.fnRemoveFirstSpec Rows.fnRemoveFirstRow = true :=
  facts_of (by kernel_rfl) q2 q3 (by kernel_rfl) (by kernel_rfl) (by kernel_rfl) q7 (by kernel_rfl) q9 (by kernel_rfl) (by kernel_rfl) (by kernel_rfl) (by kernel_rfl) (by kernel_rfl) (by kernel_rfl) (by kernel_rfl) (by kernel_rfl) (by kernel_rfl) (by kernel_rfl) (by kernel_rfl) (by kernel_rfl) (by kernel_rfl)
    (by rw [q22]; kernel_rfl) (by kernel_rfl) q23 head_enter (by kernel_rfl) head_lifts head_make (by kernel_rfl) (by kernel_rfl) (by kernel_rfl) (by kernel_rfl) (by kernel_rfl)

theorem FnRemoveFirst_holds : Rows.FnRemoveFirstSaid :=
  OpenClaim.holds_of_wide 10 Try.f10 rfl rfl rfl rfl rfl rfl rfl ⟨rfl, rfl, rfl, rfl, rfl⟩ rfl rfl rfl rfl rfl (by kernel_rfl) Try.func10 FnRemoveFirst_facts
    (of_decide_eq_true (by kernel_rfl)) (by unfold Func.isWrapper; first | (rw [if_pos (by decide +kernel)]; kernel_rfl) | (rw [if_neg (by decide +kernel)]; exact ⟨rfl, rfl⟩))
    (fun os started H enc _ => FnRemoveFirst_lifted os started H enc)
end Go.Proofs.Ythblobjemaooeaa
