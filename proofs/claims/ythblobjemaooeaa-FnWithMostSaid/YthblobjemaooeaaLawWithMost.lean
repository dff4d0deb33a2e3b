/-
  FnWithMost: true, for every code.
-/
import Derived.Test.YthblobjemaooeaaP11
import Derived.Test.YthblobjemaooeaaP13
import Derived.Test.YthblobjemaooeaaP16
import Derived.Test.YthblobjemaooeaaP17
namespace Go.Proofs.Ythblobjemaooeaa
open Go.RowKit
open Go.ChangeShapes Go.WideShapes Go.ChangeAt Go.Deep

theorem wm_parts {xs : List Int} {m q : Int} (h : wmB xs m q = true) : validD xs m = true ∧ -1 ≤ q ∧ q ≤ 10 := by
  unfold wmB limB at h
  simp only [Bool.and_eq_true, decide_eq_true_eq] at h
  exact ⟨h.1, h.2.1, h.2.2⟩
theorem fitB_drop (xs : List Int) (q : Int) : xs.drop (xs.length - (fitB xs q).length) = fitB xs q ∧ (fitB xs q).length ≤ xs.length := by
  unfold fitB
  split
  · rename_i h
    have e : xs.length - (xs.length - (xs.length - q.toNat)) = xs.length - q.toNat := by omega
    rw [List.length_drop, e]
    exact ⟨rfl, by omega⟩
  · rw [Nat.sub_self]
    exact ⟨rfl, Nat.le_refl _⟩
theorem fit_len {xs : List Int} {q : Int} (h : 0 ≤ q) : ((fitB xs q).length : Int) = min q (xs.length : Int) := by
  unfold fitB
  split
  · rw [List.length_drop]; omega
  · omega
theorem fitB_free (xs : List Int) : fitB xs (-1) = xs := by unfold fitB; rw [if_neg (by omega)]

set_option maxHeartbeats 4000000 in
set_option maxRecDepth 100000 in
theorem FnWithMost_walk (v : Value) (bs : List Int) (w : World) (h : Bytes w v bs) :
    Calls Try.prog 11 #[v] w fun e w' => e = .returned (.bool true) ∧ Below w.heap.size w w' := by
  have h0 := h
  obtain ⟨ao, cap, rfl, hl, hc, hok, hcell⟩ := h0
  clear hcell hok
  go_enter Try.func11, Try.ntmps11
  by_cases hbig : (1048576 : Int) < (bs.length : Int)
  · go_wp2
    go_ret
    exact ⟨rfl, Below.refl _ _⟩
  go_wp2_with fail
  refine (DrawWithMost_any _ bs w h).mono ?_
  rintro e w1 ⟨vd, xs, m, q, rfl, ho, hbnd, hx, hbl⟩
  have H1 := (Things.nil w).new (t := numT w.heap.size w1.heap.size vd xs) (Nat.le_refl _) (Nat.le_refl _) ho hbl
  obtain ⟨dp, dc, rfl, hdc, hdm⟩ := (H1.nums 0 rfl).slice
  have H2 := H1.boxed 25 [.slice dp xs.length dc, .int .i64 m]
  clear ho hbl H1 h
  obtain ⟨G, hG⟩ : ∃ G, Hid (G = ifN (wmB xs m q) (fitB xs q)) := ⟨_, Lib.hid rfl⟩
  obtain ⟨g, hg⟩ : ∃ g, Hid (g = ifI (wmB xs m q) q) := ⟨_, Lib.hid rfl⟩
  obtain ⟨K, hK⟩ : ∃ K, Hid (K = wmB xs m q) := ⟨_, Lib.hid rfl⟩
  have cI := Lib.hid (fun (v0 : Value) (w : World) (h0 : Nums w v0 xs) => (show Calls Try.prog 46 #[.agg #[v0, .int .i64 m], .int .i64 q] w (NewD G g K w) by rw [hG.out, hg.out, hK.out]; exact WithMost_any v0 xs m q w h0))
  have cS := Lib.hid (fun (v0 : Value) (w : World) (h0 : Nums w v0 xs) => (show Calls Try.prog 47 #[.agg #[v0, .int .i64 m], .int .i64 q] w (NewD G g K w) by rw [hG.out, hg.out, hK.out]; exact sWithMost_any v0 xs m q w h0))
  obtain ⟨d0_, d1_⟩ := H2.box2 0 rfl
  go_wp2_with fail
  refine (cI.out _ _ (H2.nums 1 rfl)).mono ?_
  rintro e w3 ⟨vo, rfl, ho, hbl⟩
  have H3 := H2.newN ho hbl
  obtain ⟨op, oc, rfl, hoc, hom⟩ := (H3.nums 0 rfl).slice
  have H4 := H3.boxed 25 [.slice op G.length oc, .int .i64 g]
  clear d0_ d1_
  clear H2 H3 ho hbl
  obtain ⟨d0_, d1_⟩ := H4.box2 2 rfl
  go_wp2_with fail
  refine (cS.out _ _ (H4.nums 3 rfl)).mono ?_
  rintro e w5 ⟨vw, rfl, ho, hbl⟩
  have H5 := H4.newN ho hbl
  obtain ⟨wp, wc, rfl, hwc, hwm⟩ := (H5.nums 0 rfl).slice
  have H6 := H5.boxed 25 [.slice wp G.length wc, .int .i64 g]
  clear d0_ d1_
  clear H4 H5 ho hbl
  clear cI cS
  obtain ⟨o0_, o1_⟩ := H6.box2 2 rfl
  obtain ⟨w0_, w1_⟩ := H6.box2 0 rfl
  go_wp2_with fail
  refine (equalD_T H6 (H6.nums 3 rfl) (H6.nums 1 rfl)).mono ?_
  rintro e w7 ⟨rfl, H7⟩
  clear o0_ o1_ w0_ w1_
  clear H6
  cases K
  · skip
    obtain ⟨o0_, o1_⟩ := H7.box2 2 rfl
    obtain ⟨w0_, w1_⟩ := H7.box2 0 rfl
    go_wp2_with fail
    refine (equalD_T H7 (H7.nums 3 rfl) (H7.nums 1 rfl)).mono ?_
    rintro e w8 ⟨rfl, H8⟩
    clear o0_ o1_ w0_ w1_
    clear H7
    go_wp2
    go_ret
    exact ⟨rfl, H8.below⟩
  · have hk := hK.out.symm
    have hGe : G = fitB xs q := by rw [hG.out, hk]; rfl
    obtain rfl : g = q := by rw [hg.out, hk]; rfl
    obtain ⟨hv, hq1, hq2⟩ := wm_parts hk
    have hw1 : wmB xs m (-1) = true := by unfold wmB limB; rw [hv]; rfl
    have c1 := Lib.hid (fun (v0 : Value) (w : World) (h0 : Nums w v0 xs) => (show Calls Try.prog 46 #[.agg #[v0, .int .i64 m], .int .i64 (-1)] w (NewD xs (-1) true w) by have h1 := WithMost_any v0 xs m (-1) w h0; rw [hw1, fitB_free] at h1; exact h1))
    have hfd := fitB_drop xs g
    rw [← hGe] at hfd
    have hlen := fun h0 : 0 ≤ g => (hGe ▸ fit_len (xs := xs) h0 : (G.length : Int) = min g (xs.length : Int))
    have hxl := (validD_iff.1 hv).2.2.1
    obtain ⟨p, hp⟩ : ∃ p : Nat, xs.length - G.length = p := ⟨_, rfl⟩
    have hdp : xs.drop p = G := by rw [← hp]; exact hfd.1
    have hpl : p ≤ xs.length := by omega
    have hGp : G.length + p = xs.length := by omega
    clear hG hg hK hk hw1 hGe hv hbnd hfd hp
    obtain ⟨d0_, d1_⟩ := H7.box2 4 rfl
    go_wp2_with fail
    refine (c1.out _ _ (H7.nums 5 rfl)).mono ?_
    rintro e w8 ⟨vf, rfl, ho, hbl⟩
    have H8 := H7.newN ho hbl
    obtain ⟨fp, fc, rfl, hfc, hfm⟩ := (H8.nums 0 rfl).slice
    have H9 := H8.boxed 25 [.slice fp xs.length fc, .int .i64 (-1)]
    clear d0_ d1_
    clear H7 H8 ho hbl
    have hwr : IntKind.i64.wrap ((xs.length : Int) - (G.length : Int)) = (p : Int) := by rw [IntWalk.i64_in _ (by omega)]; omega
    have i1 : (0 : Int) ≤ (p : Int) := by omega
    have i2 : (p : Int) ≤ (xs.length : Int) := by omega
    have i3 : (xs.length : Int) ≤ (dc : Int) := by omega
    rcases (by omega : g < 0 ∨ (0 ≤ g ∧ g ≤ (xs.length : Int)) ∨ (0 ≤ g ∧ (xs.length : Int) < g)) with hneg | ⟨hpos, hgl⟩ | ⟨hpos, hgl⟩
    · skip
      clear hlen
      by_cases hck : dc = p
      · have hpx : p = xs.length := by omega
        subst hck
        subst hpx
        have hG0 : G = [] := List.eq_nil_of_length_eq_zero (by omega)
        have HT := Lib.hid (fun (p_ : Fresh (w8.alloc (.cells #[.slice fp xs.length fc, .int .i64 (-1)] 25))) (ao : Option Addr) => ((Nums_none (by omega)).cast hG0.symm : Nums p_.at' (.slice ao 0 0) G))
        clear hdp hG0 hGp
        obtain ⟨d0_, d1_⟩ := H9.box2 6 rfl
        obtain ⟨o0_, o1_⟩ := H9.box2 4 rfl
        obtain ⟨f0_, f1_⟩ := H9.box2 0 rfl
        have d0f := fresh_cell d0_
        have d1f := fresh_cell d1_
        have o0f := fresh_cell o0_
        have o1f := fresh_cell o1_
        have f0f := fresh_cell f0_
        have f1f := fresh_cell f1_
        go_wp2_with fail
        refine region_fresh (by kernel_rfl) (by kernel_rfl) ?_
        repeat (with_reducible refine wpQuiet_step ?_; intro K hK; go_simp; first | (refine hK _ ?_; clear hK K) | (apply Exists.intro; refine ⟨fun _ => ?_, hK _ ?_⟩; (first | (go_at_call 20; with_reducible exact fresh_N (equalN_q ((Things.quiet H9 (Fresh.is _)).nums 5 rfl) (HT.out _ _))) | (go_at_call 20; with_reducible exact fresh_N (equalN_q ((Things.quiet H9 (Fresh.is _)).nums 1 rfl) ((Things.quiet H9 (Fresh.is _)).nums 7 rfl)))); clear hK K))
        with_reducible refine wpQuiet_nil ?_
        intro _ hw'
        obtain ⟨⟨wq9, hq9⟩, hw''⟩ := hw'
        subst hw''
        have H10 := H9.quiet hq9
        go_wp2
        go_ret
        exact ⟨rfl, H10.below⟩
      · skip
        have HT := Lib.hid (fun p_ : Fresh (w8.alloc (.cells #[.slice fp xs.length fc, .int .i64 (-1)] 25)) => ((((Things.quiet H9 p_.is).nums 7 rfl).dropA hpl (fun _ => rfl) : Nums p_.at' (.slice (dp.map fun x => x.add p) (xs.length - p) (dc - p)) (xs.drop p)).cast hdp))
        clear hdp hGp
        obtain ⟨d0_, d1_⟩ := H9.box2 6 rfl
        obtain ⟨o0_, o1_⟩ := H9.box2 4 rfl
        obtain ⟨f0_, f1_⟩ := H9.box2 0 rfl
        have d0f := fresh_cell d0_
        have d1f := fresh_cell d1_
        have o0f := fresh_cell o0_
        have o1f := fresh_cell o1_
        have f0f := fresh_cell f0_
        have f1f := fresh_cell f1_
        go_wp2_with fail
        refine region_fresh (by kernel_rfl) (by kernel_rfl) ?_
        repeat (with_reducible refine wpQuiet_step ?_; intro K hK; go_simp; first | (refine hK _ ?_; clear hK K) | (apply Exists.intro; refine ⟨fun _ => ?_, hK _ ?_⟩; (first | (go_at_call 20; with_reducible exact fresh_N (equalN_q ((Things.quiet H9 (Fresh.is _)).nums 5 rfl) (HT.out _))) | (go_at_call 20; with_reducible exact fresh_N (equalN_q ((Things.quiet H9 (Fresh.is _)).nums 1 rfl) ((Things.quiet H9 (Fresh.is _)).nums 7 rfl)))); clear hK K))
        with_reducible refine wpQuiet_nil ?_
        intro _ hw'
        obtain ⟨⟨wq9, hq9⟩, hw''⟩ := hw'
        subst hw''
        have H10 := H9.quiet hq9
        go_wp2
        go_ret
        exact ⟨rfl, H10.below⟩
    · skip
      have hmin := hlen hpos
      have hn0 : ¬ g < 0 := by omega
      have hmin2 : ((G.length : Int) == g) = true := by rw [beq_iff_eq]; omega
      clear hmin
      clear hlen
      by_cases hck : dc = p
      · have hpx : p = xs.length := by omega
        subst hck
        subst hpx
        have hG0 : G = [] := List.eq_nil_of_length_eq_zero (by omega)
        have HT := Lib.hid (fun (p_ : Fresh (w8.alloc (.cells #[.slice fp xs.length fc, .int .i64 (-1)] 25))) (ao : Option Addr) => ((Nums_none (by omega)).cast hG0.symm : Nums p_.at' (.slice ao 0 0) G))
        clear hdp hG0 hGp
        obtain ⟨d0_, d1_⟩ := H9.box2 6 rfl
        obtain ⟨o0_, o1_⟩ := H9.box2 4 rfl
        obtain ⟨f0_, f1_⟩ := H9.box2 0 rfl
        have d0f := fresh_cell d0_
        have d1f := fresh_cell d1_
        have o0f := fresh_cell o0_
        have o1f := fresh_cell o1_
        have f0f := fresh_cell f0_
        have f1f := fresh_cell f1_
        go_wp2_with fail
        refine region_fresh (by kernel_rfl) (by kernel_rfl) ?_
        repeat (with_reducible refine wpQuiet_step ?_; intro K hK; go_simp; first | (refine hK _ ?_; clear hK K) | (apply Exists.intro; refine ⟨fun _ => ?_, hK _ ?_⟩; (first | (go_at_call 20; with_reducible exact fresh_N (equalN_q ((Things.quiet H9 (Fresh.is _)).nums 5 rfl) (HT.out _ _))) | (go_at_call 20; with_reducible exact fresh_N (equalN_q ((Things.quiet H9 (Fresh.is _)).nums 1 rfl) ((Things.quiet H9 (Fresh.is _)).nums 7 rfl)))); clear hK K))
        with_reducible refine wpQuiet_nil ?_
        intro _ hw'
        obtain ⟨⟨wq9, hq9⟩, hw''⟩ := hw'
        subst hw''
        have H10 := H9.quiet hq9
        go_wp2
        go_ret
        exact ⟨rfl, H10.below⟩
      · skip
        have HT := Lib.hid (fun p_ : Fresh (w8.alloc (.cells #[.slice fp xs.length fc, .int .i64 (-1)] 25)) => ((((Things.quiet H9 p_.is).nums 7 rfl).dropA hpl (fun _ => rfl) : Nums p_.at' (.slice (dp.map fun x => x.add p) (xs.length - p) (dc - p)) (xs.drop p)).cast hdp))
        clear hdp hGp
        obtain ⟨d0_, d1_⟩ := H9.box2 6 rfl
        obtain ⟨o0_, o1_⟩ := H9.box2 4 rfl
        obtain ⟨f0_, f1_⟩ := H9.box2 0 rfl
        have d0f := fresh_cell d0_
        have d1f := fresh_cell d1_
        have o0f := fresh_cell o0_
        have o1f := fresh_cell o1_
        have f0f := fresh_cell f0_
        have f1f := fresh_cell f1_
        go_wp2_with fail
        refine region_fresh (by kernel_rfl) (by kernel_rfl) ?_
        repeat (with_reducible refine wpQuiet_step ?_; intro K hK; go_simp; first | (refine hK _ ?_; clear hK K) | (apply Exists.intro; refine ⟨fun _ => ?_, hK _ ?_⟩; (first | (go_at_call 20; with_reducible exact fresh_N (equalN_q ((Things.quiet H9 (Fresh.is _)).nums 5 rfl) (HT.out _))) | (go_at_call 20; with_reducible exact fresh_N (equalN_q ((Things.quiet H9 (Fresh.is _)).nums 1 rfl) ((Things.quiet H9 (Fresh.is _)).nums 7 rfl)))); clear hK K))
        with_reducible refine wpQuiet_nil ?_
        intro _ hw'
        obtain ⟨⟨wq9, hq9⟩, hw''⟩ := hw'
        subst hw''
        have H10 := H9.quiet hq9
        go_wp2
        go_ret
        exact ⟨rfl, H10.below⟩
    · skip
      have hmin := hlen hpos
      have hn0 : ¬ g < 0 := by omega
      have hmin2 : ((G.length : Int) == (xs.length : Int)) = true := by rw [beq_iff_eq]; omega
      have hgl2 : ¬ g ≤ (xs.length : Int) := by omega
      clear hmin
      clear hlen
      by_cases hck : dc = p
      · have hpx : p = xs.length := by omega
        subst hck
        subst hpx
        have hG0 : G = [] := List.eq_nil_of_length_eq_zero (by omega)
        have HT := Lib.hid (fun (p_ : Fresh (w8.alloc (.cells #[.slice fp xs.length fc, .int .i64 (-1)] 25))) (ao : Option Addr) => ((Nums_none (by omega)).cast hG0.symm : Nums p_.at' (.slice ao 0 0) G))
        clear hdp hG0 hGp
        obtain ⟨d0_, d1_⟩ := H9.box2 6 rfl
        obtain ⟨o0_, o1_⟩ := H9.box2 4 rfl
        obtain ⟨f0_, f1_⟩ := H9.box2 0 rfl
        have d0f := fresh_cell d0_
        have d1f := fresh_cell d1_
        have o0f := fresh_cell o0_
        have o1f := fresh_cell o1_
        have f0f := fresh_cell f0_
        have f1f := fresh_cell f1_
        go_wp2_with fail
        refine region_fresh (by kernel_rfl) (by kernel_rfl) ?_
        repeat (with_reducible refine wpQuiet_step ?_; intro K hK; go_simp; first | (refine hK _ ?_; clear hK K) | (apply Exists.intro; refine ⟨fun _ => ?_, hK _ ?_⟩; (first | (go_at_call 20; with_reducible exact fresh_N (equalN_q ((Things.quiet H9 (Fresh.is _)).nums 5 rfl) (HT.out _ _))) | (go_at_call 20; with_reducible exact fresh_N (equalN_q ((Things.quiet H9 (Fresh.is _)).nums 1 rfl) ((Things.quiet H9 (Fresh.is _)).nums 7 rfl)))); clear hK K))
        with_reducible refine wpQuiet_nil ?_
        intro _ hw'
        obtain ⟨⟨wq9, hq9⟩, hw''⟩ := hw'
        subst hw''
        have H10 := H9.quiet hq9
        go_wp2
        go_ret
        exact ⟨rfl, H10.below⟩
      · skip
        have HT := Lib.hid (fun p_ : Fresh (w8.alloc (.cells #[.slice fp xs.length fc, .int .i64 (-1)] 25)) => ((((Things.quiet H9 p_.is).nums 7 rfl).dropA hpl (fun _ => rfl) : Nums p_.at' (.slice (dp.map fun x => x.add p) (xs.length - p) (dc - p)) (xs.drop p)).cast hdp))
        clear hdp hGp
        obtain ⟨d0_, d1_⟩ := H9.box2 6 rfl
        obtain ⟨o0_, o1_⟩ := H9.box2 4 rfl
        obtain ⟨f0_, f1_⟩ := H9.box2 0 rfl
        have d0f := fresh_cell d0_
        have d1f := fresh_cell d1_
        have o0f := fresh_cell o0_
        have o1f := fresh_cell o1_
        have f0f := fresh_cell f0_
        have f1f := fresh_cell f1_
        go_wp2_with fail
        refine region_fresh (by kernel_rfl) (by kernel_rfl) ?_
        repeat (with_reducible refine wpQuiet_step ?_; intro K hK; go_simp; first | (refine hK _ ?_; clear hK K) | (apply Exists.intro; refine ⟨fun _ => ?_, hK _ ?_⟩; (first | (go_at_call 20; with_reducible exact fresh_N (equalN_q ((Things.quiet H9 (Fresh.is _)).nums 5 rfl) (HT.out _))) | (go_at_call 20; with_reducible exact fresh_N (equalN_q ((Things.quiet H9 (Fresh.is _)).nums 1 rfl) ((Things.quiet H9 (Fresh.is _)).nums 7 rfl)))); clear hK K))
        with_reducible refine wpQuiet_nil ?_
        intro _ hw'
        obtain ⟨⟨wq9, hq9⟩, hw''⟩ := hw'
        subst hw''
        have H10 := H9.quiet hq9
        go_wp2
        go_ret
        exact ⟨rfl, H10.below⟩

set_option maxRecDepth 100000 in
theorem FnWithMost_lifted (os : Os) (started : os.Started) (H : Type) (enc : TypeId × Value → H) :
    ReturnsInHanded {} Try.checked os 11 .any (Rows.fnWithMostSpec.pre6 enc Try.prog Try.f11 Rows.fnWithMostRow.domain false) (Rows.fnWithMostSpec.post enc Try.prog Try.f11 false true false false) := by
  refine returnsInHanded_of_change (C := Try.checked) own started (by kernel_rfl) Try.func11
    (ChangeSpec.witness6 (enc := enc) (C := Try.checked) false ⟨#[], #[.slice none 0 0], []⟩ 8 (by kernel_rfl) (by kernel_rfl) (by kernel_rfl) (by kernel_rfl)) ?_
  intro W base args ds gs before hval0 hW _ _
  have hval : ∀ (j : Nat) t v, Try.f11.params[j]? = some t → args[j]? = some v → Value.okWide Try.prog W .any base t v := hval0
  have hW' := hW
  obtain ⟨p, q, hA0, hV, rfl, _, _⟩ := hW
  have hA : DataW.TrodAll enc Try.prog W 0 (fun _ => true) true Try.f11.params.toList args.toList ds p := hA0
  rw [Try.params11] at hA hval
  obtain ⟨v0, vs0, d0, ds0, p0, q0, hargs, rfl, rfl, h0, r0⟩ := trodAll_cons hA
  obtain ⟨rfl, rfl, rfl⟩ := trodAll_nil r0
  obtain rfl : args = #[v0] := by cases args; simp_all
  obtain ⟨rfl, rfl⟩ := trodVars_none hV
  obtain ⟨xs0, hI0⟩ := open_bytes (hval 0 _ v0 rfl rfl) h0
  refine (FnWithMost_walk v0 xs0 W hI0).mono fun e W' ⟨he, hb⟩ => ⟨_, he, ?_⟩
  exact law_end rfl (by rw [Try.params11]; decide +kernel) rfl hW' rfl rfl rfl hb

theorem FnWithMost_facts : joinedFacts Try.prog 11 Try.f11 Rows.fnWithMostSpec Rows.fnWithMostRow = true :=
  facts_of (by kernel_rfl) q2 q3 (by kernel_rfl) (by kernel_rfl) (by kernel_rfl) q7 (by kernel_rfl) q9 (by kernel_rfl) (by kernel_rfl) (by kernel_rfl) (by kernel_rfl) (by kernel_rfl) (by kernel_rfl) (by kernel_rfl) (by kernel_rfl) (by kernel_rfl) (by kernel_rfl) (by kernel_rfl) (by kernel_rfl) (by kernel_rfl)
    (by rw [q22]; kernel_rfl) (by kernel_rfl) q23 head_enter (by kernel_rfl) head_lifts head_make (by kernel_rfl) (by kernel_rfl) (by kernel_rfl) (by kernel_rfl) (by kernel_rfl)

theorem FnWithMost_holds : Rows.FnWithMostSaid :=
  OpenClaim.holds_of_wide 11 Try.f11 rfl rfl rfl rfl rfl rfl rfl ⟨rfl, rfl, rfl, rfl, rfl⟩ rfl rfl rfl rfl rfl (by kernel_rfl) Try.func11 FnWithMost_facts
    (of_decide_eq_true (by kernel_rfl)) (by unfold Func.isWrapper; first | (rw [if_pos (by decide +kernel)]; kernel_rfl) | (rw [if_neg (by decide +kernel)]; exact ⟨rfl, rfl⟩))
    (fun os started H enc _ => FnWithMost_lifted os started H enc)
end Go.Proofs.Ythblobjemaooeaa
