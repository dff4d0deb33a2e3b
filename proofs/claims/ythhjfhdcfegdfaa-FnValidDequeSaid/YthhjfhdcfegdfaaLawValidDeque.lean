/-
  FnValidDeque: true, for every code.
-/
import Derived.Test.YthhjfhdcfegdfaaP9
import Derived.Test.YthhjfhdcfegdfaaP13
import Derived.Test.YthhjfhdcfegdfaaP16
import Derived.Test.YthhjfhdcfegdfaaP17
namespace Go.Proofs.Ythhjfhdcfegdfaa
open Go.RowKit
open Go.ChangeShapes Go.WideShapes Go.ChangeAt Go.Deep

theorem vd_take {xs : List Int} {m : Int} (h : validD xs m = true) (k : Nat) : validD (xs.take k) m = true := by
  have h1 := validD_iff.1 h
  have hl : (xs.take k).length ≤ xs.length := by rw [List.length_take]; omega
  exact validD_iff.2 ⟨allN_iff.2 fun x hx => allN_iff.1 h1.1 x (List.mem_of_mem_take hx), h1.2.1, by omega, h1.2.2.2.imp id (by omega)⟩
theorem vd_drop {xs : List Int} {m : Int} (h : validD xs m = true) (k : Nat) : validD (xs.drop k) m = true := by
  have h1 := validD_iff.1 h
  have hl : (xs.drop k).length ≤ xs.length := by rw [List.length_drop]; omega
  exact validD_iff.2 ⟨allN_iff.2 fun x hx => allN_iff.1 h1.1 x (List.mem_of_mem_drop hx), h1.2.1, by omega, h1.2.2.2.imp id (by omega)⟩
theorem sVD_v {v : Value} {xs : List Int} {m : Int} (w : World) (h : Nums w v xs) :
    Calls Try.prog 37 #[.agg #[v, .int .i64 m]] w (RetN (.bool (validD xs m)) w) :=
  sVD_any v xs m w h

set_option maxHeartbeats 4000000 in
set_option maxRecDepth 100000 in
theorem FnValidDeque_walk (v : Value) (bs : List Int) (w : World) (h : Bytes w v bs) :
    Calls Try.prog 9 #[v] w fun e w' => e = .returned (.bool true) ∧ Below w.heap.size w w' := by
  have h0 := h
  obtain ⟨ao, cap, rfl, hl, hc, hok, hcell⟩ := h0
  clear hcell hok
  go_enter Try.func9, Try.ntmps9
  by_cases hbig : (1048576 : Int) < (bs.length : Int)
  · go_wp2
    go_ret
    exact ⟨rfl, Below.refl _ _⟩
  go_wp2_with fail
  refine (DrawValidDeque_any _ bs w h).mono ?_
  rintro e w1 ⟨vd, xs, m, rfl, ho, hbnd, hbl⟩
  have H1 := (Things.nil w).new (t := numT w.heap.size w1.heap.size vd xs) (Nat.le_refl _) (Nat.le_refl _) ho hbl
  obtain ⟨dp, dc, rfl, hdc, hdm⟩ := (H1.nums 0 rfl).slice
  have H2 := H1.boxed 54 [.slice dp xs.length dc, .int .i64 m]
  clear ho hbl H1 h
  obtain ⟨V, hV⟩ : ∃ V, Hid (V = validD xs m) := ⟨_, Lib.hid rfl⟩
  have cI := Lib.hid (fun (v0 : Value) (w : World) (h0 : Nums w v0 xs) => (show Calls Try.prog 36 #[.agg #[v0, .int .i64 m]] w (RetN (.bool V) w) by exact VD_v w h0 hV.out.symm))
  have cS := Lib.hid (fun (v0 : Value) (w : World) (h0 : Nums w v0 xs) => (show Calls Try.prog 37 #[.agg #[v0, .int .i64 m]] w (RetN (.bool V) w) by rw [hV.out]; exact sVD_v w h0))
  obtain ⟨d0_, d1_⟩ := H2.box2 0 rfl
  go_wp2_with fail
  refine (cI.out _ _ (H2.nums 1 rfl)).mono ?_
  rintro e w3 ⟨rfl, hb⟩
  have H3 := H2.quiet hb
  clear d0_ d1_
  clear hb H2
  obtain ⟨d0_, d1_⟩ := H3.box2 0 rfl
  go_wp2_with fail
  refine (cS.out _ _ (H3.nums 1 rfl)).mono ?_
  rintro e w4 ⟨rfl, hb⟩
  have H4 := H3.quiet hb
  clear d0_ d1_
  clear hb H3
  cases V
  · skip
    obtain ⟨d0_, d1_⟩ := H4.box2 0 rfl
    go_wp2_with fail
    refine (cS.out _ _ (H4.nums 1 rfl)).mono ?_
    rintro e w5 ⟨rfl, hb⟩
    have H5 := H4.quiet hb
    clear d0_ d1_
    clear hb H4
    go_wp2
    go_ret
    exact ⟨rfl, H5.below⟩
  · have hv := hV.out.symm
    have c1 := Lib.hid (fun (v0 : Value) (w : World) (h0 : Nums w v0 (xs.drop 1)) => (show Calls Try.prog 36 #[.agg #[v0, .int .i64 m]] w (RetN (.bool true) w) by exact VD_v w h0 (vd_drop hv 1)))
    have c2 := Lib.hid (fun (q : Nat) (v0 : Value) (w : World) (h0 : Nums w v0 (xs.take q)) => (show Calls Try.prog 36 #[.agg #[v0, .int .i64 m]] w (RetN (.bool true) w) by exact VD_v w h0 (vd_take hv q)))
    clear cI cS hV hv hbnd
    by_cases hz : xs.length = 0
    · have hz2 : ((xs.length : Int) == 0) = true := by rw [hz]; rfl
      clear hz
      obtain ⟨d0_, d1_⟩ := H4.box2 0 rfl
      have d0f := fresh_cell d0_
      have d1f := fresh_cell d1_
      go_wp2_with fail
      refine region_fresh (by kernel_rfl) (by kernel_rfl) ?_
      repeat (with_reducible refine wpQuiet_step ?_; intro K hK; go_simp; (try rw [if_neg (by simp [undef])]); first | (refine hK _ ?_; clear hK K) | (apply Exists.intro; refine ⟨fun _ => ?_, hK _ ?_⟩; (fail); clear hK K))
      with_reducible refine wpQuiet_nil ?_
      intro _ hw'
      obtain ⟨⟨wq4, hq4⟩, hw''⟩ := hw'
      subst hw''
      have H5 := H4.quiet hq4
      go_wp2
      go_ret
      exact ⟨rfl, H5.below⟩
    · have hz2 : ((xs.length : Int) == 0) = false := by rw [beq_eq_false_iff_ne]; omega
      obtain ⟨q, hq⟩ : ∃ q : Nat, xs.length = q + 1 := ⟨xs.length - 1, by omega⟩
      have hwr : IntKind.i64.wrap ((xs.length : Int) - 1) = (q : Int) := by rw [IntWalk.i64_in _ (by omega)]; omega
      have q4 : 1 ≤ xs.length := by omega
      have hqx : q ≤ xs.length := by omega
      have i1 : (1 : Int) ≤ (xs.length : Int) := by omega
      have i2 : (0 : Int) ≤ (q : Int) := by omega
      have i3 : (q : Int) ≤ (dc : Int) := by omega
      have i4 : (1 : Int) ≤ (dc : Int) := by omega
      clear hz
      by_cases hck : dc = 1
      · skip
        have hxl : xs.length = 1 := by omega
        have hq0 : q = 0 := by omega
        subst hq0
        have hw0 : IntKind.i64.wrap 0 = 0 := rfl
        have hAe : xs.drop 1 = [] := List.drop_eq_nil_of_le (by omega)
        have HT1 := Lib.hid (fun (p_ : Fresh (w4)) => ((Nums_none (by omega)).cast hAe.symm : Nums p_.at' (.slice dp 0 0) (xs.drop 1)))
        clear hAe
        have HT2 := Lib.hid (fun (p_ : Fresh (w4)) => (((Things.quiet H4 p_.is).nums 1 rfl).takeA hqx : Nums p_.at' (.slice dp 0 dc) (xs.take 0)))
        clear hq hqx
        subst hck
        obtain ⟨d0_, d1_⟩ := H4.box2 0 rfl
        have d0f := fresh_cell d0_
        have d1f := fresh_cell d1_
        go_wp2_with fail
        refine region_fresh (by kernel_rfl) (by kernel_rfl) ?_
        repeat (with_reducible refine wpQuiet_step ?_; intro K hK; go_simp; (try rw [if_neg (by simp [undef])]); first | (refine hK _ ?_; clear hK K) | (apply Exists.intro; refine ⟨fun _ => ?_, hK _ ?_⟩; (first | (go_at_call 36; exact fresh_N (c1.out _ _ (HT1.out _))) | (go_at_call 36; exact fresh_N (c2.out _ _ _ (HT2.out _)))); clear hK K))
        with_reducible refine wpQuiet_nil ?_
        intro _ hw'
        obtain ⟨⟨wq4, hq4⟩, hw''⟩ := hw'
        subst hw''
        have H5 := H4.quiet hq4
        go_wp2
        go_ret
        exact ⟨rfl, H5.below⟩
      · skip
        have HT1 := Lib.hid (fun (p_ : Fresh (w4)) => (((Things.quiet H4 p_.is).nums 1 rfl).dropA q4 (fun _ => rfl) : Nums p_.at' (.slice (dp.map fun x => x.add 1) (xs.length - 1) (dc - 1)) (xs.drop 1)))
        have HT2 := Lib.hid (fun (p_ : Fresh (w4)) => (((Things.quiet H4 p_.is).nums 1 rfl).takeA hqx : Nums p_.at' (.slice dp q dc) (xs.take q)))
        clear hq hqx
        obtain ⟨d0_, d1_⟩ := H4.box2 0 rfl
        have d0f := fresh_cell d0_
        have d1f := fresh_cell d1_
        go_wp2_with fail
        refine region_fresh (by kernel_rfl) (by kernel_rfl) ?_
        repeat (with_reducible refine wpQuiet_step ?_; intro K hK; go_simp; (try rw [if_neg (by simp [undef])]); first | (refine hK _ ?_; clear hK K) | (apply Exists.intro; refine ⟨fun _ => ?_, hK _ ?_⟩; (first | (go_at_call 36; exact fresh_N (c1.out _ _ (HT1.out _))) | (go_at_call 36; exact fresh_N (c2.out _ _ _ (HT2.out _)))); clear hK K))
        with_reducible refine wpQuiet_nil ?_
        intro _ hw'
        obtain ⟨⟨wq4, hq4⟩, hw''⟩ := hw'
        subst hw''
        have H5 := H4.quiet hq4
        go_wp2
        go_ret
        exact ⟨rfl, H5.below⟩

set_option maxRecDepth 100000 in
theorem FnValidDeque_lifted (os : Os) (started : os.Started) (H : Type) (enc : TypeId × Value → H) :
    ReturnsInHanded {} Try.checked os 9 .any (Rows.fnValidDequeSpec.pre6 enc Try.prog Try.f9 Rows.fnValidDequeRow.domain false) (Rows.fnValidDequeSpec.post enc Try.prog Try.f9 false true false false) := by
  refine returnsInHanded_of_change (C := Try.checked) own started (by kernel_rfl) Try.func9
    (ChangeSpec.witness6 (enc := enc) (C := Try.checked) false ⟨#[], #[.slice none 0 0], []⟩ 8 (by kernel_rfl) (by kernel_rfl) (by kernel_rfl) (by kernel_rfl)) ?_
  intro W base args ds gs before hval0 hW _ _
  have hval : ∀ (j : Nat) t v, Try.f9.params[j]? = some t → args[j]? = some v → Value.okWide Try.prog W .any base t v := hval0
  have hW' := hW
  obtain ⟨p, q, hA0, hV, rfl, _, _⟩ := hW
  have hA : DataW.TrodAll enc Try.prog W 0 (fun _ => true) true Try.f9.params.toList args.toList ds p := hA0
  rw [Try.params9] at hA hval
  obtain ⟨v0, vs0, d0, ds0, p0, q0, hargs, rfl, rfl, h0, r0⟩ := trodAll_cons hA
  obtain ⟨rfl, rfl, rfl⟩ := trodAll_nil r0
  obtain rfl : args = #[v0] := by cases args; simp_all
  obtain ⟨rfl, rfl⟩ := trodVars_none hV
  obtain ⟨xs0, hI0⟩ := open_bytes (hval 0 _ v0 rfl rfl) h0
  refine (FnValidDeque_walk v0 xs0 W hI0).mono fun e W' ⟨he, hb⟩ => ⟨_, he, ?_⟩
  exact law_end rfl (by rw [Try.params9]; decide +kernel) rfl hW' rfl rfl rfl hb

theorem FnValidDeque_facts : joinedFacts Try.prog 9 Try.f9 Rows.fnValidDequeSpec Rows.fnValidDequeRow = true :=
  facts_of (by kernel_rfl) q2 q3 (by kernel_rfl) (by kernel_rfl) (by kernel_rfl) q7 (by kernel_rfl) q9 (by kernel_rfl) (by kernel_rfl) (by kernel_rfl) (by kernel_rfl) (by kernel_rfl) (by kernel_rfl) (by kernel_rfl) (by kernel_rfl) (by kernel_rfl) (by kernel_rfl) (by kernel_rfl) (by kernel_rfl) (by kernel_rfl)
    (by rw [q22]; kernel_rfl) (by kernel_rfl) q23 head_enter (by kernel_rfl) head_lifts head_make (by kernel_rfl) (by kernel_rfl) (by kernel_rfl) (by kernel_rfl) (by kernel_rfl)

theorem FnValidDeque_holds : Rows.FnValidDequeSaid :=
  OpenClaim.holds_of_wide 9 Try.f9 rfl rfl rfl rfl rfl rfl rfl ⟨rfl, rfl, rfl, rfl, rfl⟩ rfl rfl rfl rfl rfl (by kernel_rfl) Try.func9 FnValidDeque_facts
    (of_decide_eq_true (by kernel_rfl)) (by unfold Func.isWrapper; first | (rw [if_pos (by decide +kernel)]; kernel_rfl) | (rw [if_neg (by decide +kernel)]; exact ⟨rfl, rfl⟩))
    (fun os started H enc _ => FnValidDeque_lifted os started H enc)
end Go.Proofs.Ythhjfhdcfegdfaa
