/-
  FnRotateDequeTurn: true, for every code.
-/
import Derived.Deep.RegionHeld3
import Derived.Test.YthblobjemaooeaaR11
import Derived.Test.YthblobjemaooeaaR13
import Derived.Test.YthblobjemaooeaaR16
import Derived.Test.YthblobjemaooeaaR17
namespace Go.Proofs.Ythblobjemaooeaa
open Go.RowKit
open Go.ChangeShapes Go.WideShapes Go.ChangeAt Go.Deep

theorem rotJ_neg (n : Int) {L : Nat} (h : 0 < L) : (rotJ n L = 0 ∧ rotJ (-n) L = 0) ∨ rotJ (-n) L + rotJ n L = L := by
  have hb := rot_bd n h
  unfold rotJ
  rw [Int.neg_tmod]
  obtain ⟨t, ht⟩ : ∃ t, t = n.tmod L := ⟨_, rfl⟩
  rw [← ht] at hb ⊢
  split <;> split <;> (try split) <;> (try split) <;> omega
theorem rotL_rev (xs : List Int) (j : Nat) : (rotL xs j).reverse = rotL xs.reverse (xs.length - j) := by
  unfold rotL
  rw [List.reverse_append, List.reverse_take, List.reverse_drop]
theorem rd_rev (xs : List Int) (n : Int) : rdL xs.reverse (-n) = (rdL xs n).reverse := by
  cases hx : xs with
  | nil => rw [List.reverse_nil, rd_nil, rd_nil, List.reverse_nil]
  | cons y r =>
    rw [← hx]
    have h : 0 < xs.length := by rw [hx]; simp
    rw [rd_rot, rd_rot, rotL_rev, List.length_reverse]
    rcases rotJ_neg n h with ⟨h1, h2⟩ | h1
    · rw [h1, h2]
      unfold rotL
      rw [Nat.sub_zero, List.drop_zero, List.take_zero, List.drop_of_length_le (by rw [List.length_reverse]; omega), List.take_of_length_le (by rw [List.length_reverse]; omega), List.append_nil, List.nil_append]
    · rw [show rotJ (-n) xs.length = xs.length - rotJ n xs.length by omega]
theorem vD_rev {xs : List Int} {m : Int} (h : validD xs m = true) : validD xs.reverse m = true := by
  have h1 := validD_iff.1 h
  exact validD_iff.2 ⟨allN_iff.2 fun x hx => allN_iff.1 h1.1 x (List.mem_reverse.1 hx), h1.2.1, by rw [List.length_reverse]; exact h1.2.2.1, by rw [List.length_reverse]; exact h1.2.2.2⟩
set_option maxRecDepth 100000 in
theorem sRot_no {v : Value} {xs : List Int} {m n : Int} (w : World) (h : Nums w v xs) (hv : validD xs m = false) :
    Calls Try.prog 31 #[.agg #[v, .int .i64 m], .int .i64 n] w (RetN (.agg #[.slice none 0 0, .int .i64 0]) w) := by
  have HX := Lib.hid h
  have HV := Lib.hid hv
  obtain ⟨ao, cap, rfl, hlc, hcm⟩ := h.slice
  clear h hv
  go_enter Try.func31, Try.ntmps31
  have D := DFrame.new w (.slice ao xs.length cap) m
  have c0 := D.c0
  have c1 := D.c1
  go_wp2_with fail
  refine (svD_v _ (D.nums HX.out) HV.out).mono ?_
  rintro e w2 ⟨rfl, hb⟩
  have D2 := D.step hb
  clear hb c0 c1
  have c0 := D2.c0
  have c1 := D2.c1
  have r0 := D2.r0
  have r1 := D2.r1
  have f0 := D2.free 0
  have f1 := D2.free 1
  go_wp2
  exact bodyPost_ret (v := .agg #[.slice none 0 0, .int .i64 0]) (by simp [results, Try.results31, go_sem, r0, r1]) rfl ⟨rfl, D2.done _ _⟩

set_option maxHeartbeats 8000000 in
set_option maxRecDepth 100000 in
theorem FnRotateDequeTurn_walk (v : Value) (bs : List Int) (w : World) (h : Bytes w v bs) :
    Calls Try.prog 7 #[v] w fun e w' => e = .returned (.bool true) ∧ Below w.heap.size w w' := by
  have h0 := h
  obtain ⟨ao, cap, rfl, hl, hc, hok, hcell⟩ := h0
  clear hcell hok
  go_enter Try.func7, Try.ntmps7
  by_cases hbig : (1048576 : Int) < (bs.length : Int)
  · go_wp2
    go_ret
    exact ⟨rfl, Below.refl _ _⟩
  go_wp2_with fail
  refine (DrawRotateDeque_any _ bs w h).mono ?_
  rintro e w1 ⟨vd, xs, m, n, rfl, ho, hbnd, hnb, hbl⟩
  have H1 := (Things.nil w).new (t := numT w.heap.size w1.heap.size vd xs) (Nat.le_refl _) (Nat.le_refl _) ho hbl
  obtain ⟨dp, dc, rfl, hdc, hdm⟩ := (H1.nums 0 rfl).slice
  have H2 := H1.boxed 25 [.slice dp xs.length dc, .int .i64 m]
  clear ho hbl H1 h
  obtain ⟨G, hG⟩ : ∃ G, Hid (G = ifN (tdB xs m) (rdL xs n)) := ⟨_, Lib.hid rfl⟩
  obtain ⟨g, hg⟩ : ∃ g, Hid (g = ifI (tdB xs m) m) := ⟨_, Lib.hid rfl⟩
  have cI := Lib.hid (fun (v0 : Value) (w : World) (h0 : Nums w v0 xs) => (show Calls Try.prog 30 #[.agg #[v0, .int .i64 m], .int .i64 n] w (NewE G g w) by rw [hG.out, hg.out]; exact RotateDeque_any v0 xs m n w h0 hnb))
  have cS := Lib.hid (fun (v0 : Value) (w : World) (h0 : Nums w v0 xs) => (show Calls Try.prog 31 #[.agg #[v0, .int .i64 m], .int .i64 n] w (NewE G g w) by rw [hG.out, hg.out]; exact sRotateDeque_any v0 xs m n w h0 hnb))
  obtain ⟨d0_, d1_⟩ := H2.box2 0 rfl
  go_wp2_with fail
  refine (cI.out _ _ (H2.nums 1 rfl)).mono ?_
  rintro e w3 ⟨vo, rfl, ho, hbl⟩
  have H3 := H2.newN ho hbl
  obtain ⟨op, oc, rfl, hoc, hom⟩ := (H3.nums 0 rfl).slice
  have H4 := H3.boxed 25 [.slice op G.length oc, .int .i64 g]
  clear d0_ d1_
  clear H2 H3 ho hbl
  cases hv : validD xs m
  · obtain rfl : G = [] := by rw [hG.out]; unfold ifN tdB; rw [hv]; rfl
    obtain rfl : g = 0 := by rw [hg.out]; unfold ifI tdB; rw [hv]; rfl
    have cN := Lib.hid (fun (v0 : Value) (w : World) (h0 : Nums w v0 xs) => (show Calls Try.prog 31 #[.agg #[v0, .int .i64 m], .int .i64 n] w (RetN (.agg #[.slice none 0 0, .int .i64 0]) w) by exact sRot_no w h0 hv))
    have cV := Lib.hid (fun (v0 : Value) (w : World) (h0 : Nums w v0 xs) => (show Calls Try.prog 32 #[.agg #[v0, .int .i64 m]] w (RetN (.bool false) w) by exact VD_v w h0 hv))
    clear cI cS hG hg hv hbnd hnb
    obtain ⟨d0_, d1_⟩ := H4.box2 2 rfl
    obtain ⟨o0_, o1_⟩ := H4.box2 0 rfl
    have d0f := fresh_cell d0_
    have d1f := fresh_cell d1_
    have o0f := fresh_cell o0_
    have o1f := fresh_cell o1_
    go_wp2_with fail
    refine region_fresh (by kernel_rfl) (by kernel_rfl) ?_
    repeat (with_reducible refine wpQuiet_step ?_; intro K hK; go_simp; (try rw [if_neg (by simp [undef])]); first | (refine hK _ ?_; clear hK K) | (apply Exists.intro; refine ⟨fun _ => ?_, hK _ ?_⟩; (first | (go_at_call 31; exact fresh_N (cN.out _ _ ((Things.quiet H4 (Fresh.is _)).nums 3 rfl))) | (go_at_call 18; exact fresh_N (equalD_q ((Things.quiet H4 (Fresh.is _)).nums 1 rfl) (Nums.nil _))) | (go_at_call 32; exact fresh_N (cV.out _ _ ((Things.quiet H4 (Fresh.is _)).nums 3 rfl)))); clear hK K))
    with_reducible refine wpQuiet_nil ?_
    intro _ hw'
    obtain ⟨⟨wq4, hq4⟩, hw''⟩ := hw'
    subst hw''
    have H5 := H4.quiet hq4
    clear d0_ d1_ o0_ o1_
    obtain ⟨d0_, d1_⟩ := H5.box2 2 rfl
    obtain ⟨o0_, o1_⟩ := H5.box2 0 rfl
    have d0f := fresh_cell d0_
    have d1f := fresh_cell d1_
    have o0f := fresh_cell o0_
    have o1f := fresh_cell o1_
    go_wp2_with fail
    refine region_fresh (by kernel_rfl) (by kernel_rfl) ?_
    repeat (with_reducible refine wpQuiet_step ?_; intro K hK; go_simp; (try rw [if_neg (by simp [undef])]); first | (refine hK _ ?_; clear hK K) | (apply Exists.intro; refine ⟨fun _ => ?_, hK _ ?_⟩; (first | (go_at_call 31; exact fresh_N (cN.out _ _ ((Things.quiet H5 (Fresh.is _)).nums 3 rfl))) | (go_at_call 18; exact fresh_N (equalD_q ((Things.quiet H5 (Fresh.is _)).nums 1 rfl) (Nums.nil _)))); clear hK K))
    with_reducible refine wpQuiet_nil ?_
    intro _ hw'
    obtain ⟨⟨wq5, hq5⟩, hw''⟩ := hw'
    subst hw''
    have H6 := H5.quiet hq5
    go_wp2
    go_ret
    exact ⟨rfl, H6.below⟩
  · have hGe : G = rdL xs n := by rw [hG.out]; unfold ifN tdB; rw [hv, if_pos rfl]
    obtain rfl : g = m := by rw [hg.out]; unfold ifI tdB; rw [hv, if_pos rfl]
    obtain ⟨A, hA⟩ : ∃ A, Hid (A = (rdL xs n).reverse) := ⟨_, Lib.hid rfl⟩
    have cV := Lib.hid (fun (v0 : Value) (w : World) (h0 : Nums w v0 xs) => (show Calls Try.prog 32 #[.agg #[v0, .int .i64 g]] w (RetN (.bool true) w) by exact VD_v w h0 hv))
    have c1 := Lib.hid (fun (v0 : Value) (w : World) (h0 : Nums w v0 G) => (show Calls Try.prog 24 #[.agg #[v0, .int .i64 g]] w (NewE A g w) by subst hGe; have h1 := TurnDeque_any v0 (rdL xs n) g w h0; rw [show tdB (rdL xs n) g = true from rd_valid hv n, ← hA.out] at h1; exact h1))
    have c2 := Lib.hid (fun (v0 : Value) (w : World) (h0 : Nums w v0 xs) => (show Calls Try.prog 24 #[.agg #[v0, .int .i64 g]] w (NewE xs.reverse g w) by have h1 := TurnDeque_any v0 xs g w h0; rw [show tdB xs g = true from hv] at h1; exact h1))
    have c3 := Lib.hid (fun (hn : ¬ n < -1000) (v0 : Value) (w : World) (h0 : Nums w v0 xs.reverse) => (show Calls Try.prog 30 #[.agg #[v0, .int .i64 g], .int .i64 (-n)] w (NewE A g w) by have h1 := RotateDeque_any v0 xs.reverse g (-n) w h0 (by omega); rw [show tdB xs.reverse g = true from vD_rev hv, rd_rev, ← hA.out] at h1; exact h1))
    have hw2 : ¬ n < -1000 → IntKind.i64.wrap (-n) = -n := fun hn => IntWalk.i64_in _ (by omega)
    clear cI hG hg hv hGe hA hbnd hnb
    have D4 := H4.quiet (Below.refl _ _).drew
    by_cases hn : n < -1000
    · clear c1 c2 c3 hw2
      go_wp2_with fail
      go_region_held3 (fun w' : World => (w'.cell? ⟨w3.heap.size, 0, none⟩ = some (.slice op G.length oc) ∧ w'.cell? ⟨w3.heap.size, 1, none⟩ = some (.int .i64 g)) ∧ (w'.cell? ⟨w1.heap.size, 0, none⟩ = some (.slice dp xs.length dc) ∧ w'.cell? ⟨w1.heap.size, 1, none⟩ = some (.int .i64 g)))
        (first | exact ⟨H4.box2 0 rfl, H4.box2 2 rfl⟩ | assumption | exact hS5 | exact hS6 | exact hS7)
        (first
          | (go_at_call 31; refine (cS.out _ _ ((D4).nums 3 rfl)).mono ?_; rintro e w5 ⟨v5, rfl, ho, hbl⟩; have H5 := (D4).newN ho hbl; clear ho hbl ; have hS5 := And.intro (H5.box2 1 rfl) (H5.box2 3 rfl))
          | (go_at_call 18; refine (equalD_T H5 (H5.nums 2 rfl) (H5.nums 0 rfl)).mono ?_; rintro e w6 ⟨rfl, H6⟩; have hS6 := And.intro (H6.box2 1 rfl) (H6.box2 3 rfl); clear H5)
          | (go_at_call 32; refine (cV.out _ _ (H6.nums 4 rfl)).mono ?_; rintro e w7 ⟨rfl, hb7⟩; have H7 := H6.quiet hb7; clear hb7 H6 cV; have hS7 := And.intro (H7.box2 1 rfl) (H7.box2 3 rfl)))
      clear H4 D4 hS5 hS6 hS7
      have D7 := H7.quiet (Below.refl _ _).drew
      go_wp2_with fail
      go_region_held3 (fun w' : World => (w'.cell? ⟨w3.heap.size, 0, none⟩ = some (.slice op G.length oc) ∧ w'.cell? ⟨w3.heap.size, 1, none⟩ = some (.int .i64 g)) ∧ (w'.cell? ⟨w1.heap.size, 0, none⟩ = some (.slice dp xs.length dc) ∧ w'.cell? ⟨w1.heap.size, 1, none⟩ = some (.int .i64 g)))
        (first | exact ⟨H7.box2 1 rfl, H7.box2 3 rfl⟩ | assumption | exact hS8 | exact hS9)
        (first
          | (go_at_call 31; refine (cS.out _ _ ((D7).nums 4 rfl)).mono ?_; rintro e w8 ⟨v8, rfl, ho, hbl⟩; have H8 := (D7).newN ho hbl; clear ho hbl ; have hS8 := And.intro (H8.box2 2 rfl) (H8.box2 4 rfl))
          | (go_at_call 18; refine (equalD_T H8 (H8.nums 3 rfl) (H8.nums 0 rfl)).mono ?_; rintro e w9 ⟨rfl, H9⟩; have hS9 := And.intro (H9.box2 2 rfl) (H9.box2 4 rfl); clear H8))
      go_wp2
      go_ret
      exact ⟨rfl, H9.below⟩
    · have hw3 := hw2 hn
      have c4 := Lib.hid (c3.out hn)
      clear hw2 c3
      go_wp2_with fail
      go_region_held3 (fun w' : World => (w'.cell? ⟨w3.heap.size, 0, none⟩ = some (.slice op G.length oc) ∧ w'.cell? ⟨w3.heap.size, 1, none⟩ = some (.int .i64 g)) ∧ (w'.cell? ⟨w1.heap.size, 0, none⟩ = some (.slice dp xs.length dc) ∧ w'.cell? ⟨w1.heap.size, 1, none⟩ = some (.int .i64 g)))
        (first | exact ⟨H4.box2 0 rfl, H4.box2 2 rfl⟩ | assumption | exact hS5 | exact hS6 | exact hS7)
        (first
          | (go_at_call 31; refine (cS.out _ _ ((D4).nums 3 rfl)).mono ?_; rintro e w5 ⟨v5, rfl, ho, hbl⟩; have H5 := (D4).newN ho hbl; clear ho hbl ; have hS5 := And.intro (H5.box2 1 rfl) (H5.box2 3 rfl))
          | (go_at_call 18; refine (equalD_T H5 (H5.nums 2 rfl) (H5.nums 0 rfl)).mono ?_; rintro e w6 ⟨rfl, H6⟩; have hS6 := And.intro (H6.box2 1 rfl) (H6.box2 3 rfl); clear H5)
          | (go_at_call 32; refine (cV.out _ _ (H6.nums 4 rfl)).mono ?_; rintro e w7 ⟨rfl, hb7⟩; have H7 := H6.quiet hb7; clear hb7 H6 cV; have hS7 := And.intro (H7.box2 1 rfl) (H7.box2 3 rfl)))
      clear H4 D4 hS5 hS6 hS7
      have D7 := H7.quiet (Below.refl _ _).drew
      go_wp2_with fail
      go_region_held3 (fun w' : World => (w'.cell? ⟨w3.heap.size, 0, none⟩ = some (.slice op G.length oc) ∧ w'.cell? ⟨w3.heap.size, 1, none⟩ = some (.int .i64 g)) ∧ (w'.cell? ⟨w1.heap.size, 0, none⟩ = some (.slice dp xs.length dc) ∧ w'.cell? ⟨w1.heap.size, 1, none⟩ = some (.int .i64 g)))
        (first | exact ⟨H7.box2 1 rfl, H7.box2 3 rfl⟩ | assumption | exact hS8 | exact hS9 | exact hS10 | exact hS11)
        (first
          | (go_at_call 24; refine (c1.out _ _ ((D7).nums 2 rfl)).mono ?_; rintro e w8 ⟨v8, rfl, ho, hbl⟩; have H8 := (D7).newN ho hbl; clear ho hbl c1; have hS8 := And.intro (H8.box2 2 rfl) (H8.box2 4 rfl))
          | (go_at_call 24; refine (c2.out _ _ ((H8).nums 5 rfl)).mono ?_; rintro e w9 ⟨v9, rfl, ho, hbl⟩; have H9 := (H8).newN ho hbl; clear ho hbl c2; have hS9 := And.intro (H9.box2 3 rfl) (H9.box2 5 rfl))
          | (go_at_call 30; refine (c4.out _ _ ((H9).nums 0 rfl)).mono ?_; rintro e w10 ⟨v10, rfl, ho, hbl⟩; have H10 := (H9).newN ho hbl; clear ho hbl c4; have hS10 := And.intro (H10.box2 4 rfl) (H10.box2 6 rfl))
          | (go_at_call 18; refine (equalD_T H10 (H10.nums 2 rfl) (H10.nums 0 rfl)).mono ?_; rintro e w11 ⟨rfl, H11⟩; have hS11 := And.intro (H11.box2 4 rfl) (H11.box2 6 rfl); clear H10))
      go_wp2
      go_ret
      exact ⟨rfl, H11.below⟩

set_option maxRecDepth 100000 in
theorem FnRotateDequeTurn_lifted (os : Os) (started : os.Started) (H : Type) (enc : TypeId × Value → H) :
    ReturnsInHanded {} Try.checked os 7 .any (Rows.fnRotateDequeTurnSpec.pre6 enc Try.prog Try.f7 Rows.fnRotateDequeTurnRow.domain false) (Rows.fnRotateDequeTurnSpec.post enc Try.prog Try.f7 false true false false) := by
  refine returnsInHanded_of_change (C := Try.checked) own started (by kernel_rfl) Try.func7
    (ChangeSpec.witness6 (enc := enc) (C := Try.checked) false ⟨#[], #[.slice none 0 0], []⟩ 8 (by kernel_rfl) (by kernel_rfl) (by kernel_rfl) (by kernel_rfl)) ?_
  intro W base args ds gs before hval0 hW _ _
  have hval : ∀ (j : Nat) t v, Try.f7.params[j]? = some t → args[j]? = some v → Value.okWide Try.prog W .any base t v := hval0
  have hW' := hW
  obtain ⟨p, q, hA0, hV, rfl, _, _⟩ := hW
  have hA : DataW.TrodAll enc Try.prog W 0 (fun _ => true) true Try.f7.params.toList args.toList ds p := hA0
  rw [Try.params7] at hA hval
  obtain ⟨v0, vs0, d0, ds0, p0, q0, hargs, rfl, rfl, h0, r0⟩ := trodAll_cons hA
  obtain ⟨rfl, rfl, rfl⟩ := trodAll_nil r0
  obtain rfl : args = #[v0] := by cases args; simp_all
  obtain ⟨rfl, rfl⟩ := trodVars_none hV
  obtain ⟨xs0, hI0⟩ := open_bytes (hval 0 _ v0 rfl rfl) h0
  refine (FnRotateDequeTurn_walk v0 xs0 W hI0).mono fun e W' ⟨he, hb⟩ => ⟨_, he, ?_⟩
  exact law_end rfl (by rw [Try.params7]; decide +kernel) rfl hW' rfl rfl rfl hb

theorem FnRotateDequeTurn_facts : joinedFacts Try.prog 7 Try.f7 Rows.fnRotateDequeTurnSpec Rows.fnRotateDequeTurnRow = true :=
  facts_of (by kernel_rfl) q2 q3 (by kernel_rfl) (by kernel_rfl) (by kernel_rfl) q7 (by kernel_rfl) q9 (by kernel_rfl) (by kernel_rfl) (by kernel_rfl) (by kernel_rfl) (by kernel_rfl) (by kernel_rfl) (by kernel_rfl) (by kernel_rfl) (by kernel_rfl) (by kernel_rfl) (by kernel_rfl) (by kernel_rfl) (by kernel_rfl)
    (by rw [q22]; kernel_rfl) (by kernel_rfl) q23 head_enter (by kernel_rfl) head_lifts head_make (by kernel_rfl) (by kernel_rfl) (by kernel_rfl) (by kernel_rfl) (by kernel_rfl)

theorem FnRotateDequeTurn_holds : Rows.FnRotateDequeTurnSaid :=
  OpenClaim.holds_of_wide 7 Try.f7 rfl rfl rfl rfl rfl rfl rfl ⟨rfl, rfl, rfl, rfl, rfl⟩ rfl rfl rfl rfl rfl (by kernel_rfl) Try.func7 FnRotateDequeTurn_facts
    (of_decide_eq_true (by kernel_rfl)) (by unfold Func.isWrapper; first | (rw [if_pos (by decide +kernel)]; kernel_rfl) | (rw [if_neg (by decide +kernel)]; exact ⟨rfl, rfl⟩))
    (fun os started H enc _ => FnRotateDequeTurn_lifted os started H enc)
end Go.Proofs.Ythblobjemaooeaa
