/-
  FnPushBack: true, for every code.
-/
import Derived.Test.YthblobjemaooeaaP11
import Derived.Test.YthblobjemaooeaaP13
import Derived.Test.YthblobjemaooeaaP16
import Derived.Test.YthblobjemaooeaaP17
namespace Go.Proofs.Ythblobjemaooeaa
open Go.RowKit
open Go.ChangeShapes Go.WideShapes Go.ChangeAt Go.Deep

theorem ext_parts {xs ys : List Int} {m : Int} (h : extB xs ys m = true) : validD xs m = true ∧ areN ys = true ∧ validD (extL xs ys m) m = true := by
  unfold extB at h
  rw [Bool.and_eq_true, Bool.and_eq_true] at h
  exact ⟨h.1.1, h.1.2, h.2⟩
theorem pop_snoc (l : List Int) (x : Int) : pbL (l ++ [x]) = l ∧ pbX (l ++ [x]) = x := by
  unfold pbL pbX
  have e : (l ++ [x]).length - 1 = l.length := by simp
  rw [e, List.take_left]
  exact ⟨rfl, by simp⟩
/-- What PopBack gives after a push. -/
theorem push_zero {xs : List Int} {x : Int} (_ : extB xs [x] 0 = true) : extL xs [x] 0 = [] := by
  unfold extL fitB
  rw [if_pos (by simp)]
  simp
theorem push_cut {xs : List Int} {x m : Int} (h : extB xs [x] m = true) (h0 : m ≠ 0) (hm : (xs.length : Int) = m) : poB (extL xs [x] m) m = true ∧ pbL (extL xs [x] m) = xs.drop 1 ∧ pbX (extL xs [x] m) = x ∧ 1 ≤ xs.length := by
  obtain ⟨hv, _, hw⟩ := ext_parts h
  have hl : 1 ≤ xs.length := by omega
  have e : extL xs [x] m = xs.drop 1 ++ [x] := by
    unfold extL fitB
    rw [if_pos (by simp; omega)]
    have e1 : (xs ++ [x]).length - m.toNat = 1 := by simp; omega
    rw [e1, List.drop_append_of_le_length hl]
  have hp : poB (extL xs [x] m) m = true := by
    unfold poB
    rw [hw, e]
    simp
  exact ⟨hp, by rw [e]; exact (pop_snoc _ _).1, by rw [e]; exact (pop_snoc _ _).2, hl⟩
theorem push_free {xs : List Int} {x m : Int} (h : extB xs [x] m = true) (hm : (xs.length : Int) ≠ m) : poB (extL xs [x] m) m = true ∧ pbL (extL xs [x] m) = xs ∧ pbX (extL xs [x] m) = x := by
  obtain ⟨hv, _, hw⟩ := ext_parts h
  have hd := (validD_iff.1 hv).2.2.2
  have e : extL xs [x] m = xs ++ [x] := by
    unfold extL fitB
    rw [if_neg (by simp; omega)]
  have hp : poB (extL xs [x] m) m = true := by
    unfold poB
    rw [hw, e]
    simp
  exact ⟨hp, by rw [e]; exact (pop_snoc _ _).1, by rw [e]; exact (pop_snoc _ _).2⟩

set_option maxHeartbeats 4000000 in
set_option maxRecDepth 100000 in
theorem FnPushBack_walk (v : Value) (bs : List Int) (w : World) (h : Bytes w v bs) :
    Calls Try.prog 3 #[v] w fun e w' => e = .returned (.bool true) ∧ Below w.heap.size w w' := by
  have h0 := h
  obtain ⟨ao, cap, rfl, hl, hc, hok, hcell⟩ := h0
  clear hcell hok
  go_enter Try.func3, Try.ntmps3
  by_cases hbig : (1048576 : Int) < (bs.length : Int)
  · go_wp2
    go_ret
    exact ⟨rfl, Below.refl _ _⟩
  go_wp2_with fail
  refine (DrawPushBack_any _ bs w h).mono ?_
  rintro e w1 ⟨vd, xs, m, x, rfl, ho, hbnd, hx, hbl⟩
  have H1 := (Things.nil w).new (t := numT w.heap.size w1.heap.size vd xs) (Nat.le_refl _) (Nat.le_refl _) ho hbl
  obtain ⟨dp, dc, rfl, hdc, hdm⟩ := (H1.nums 0 rfl).slice
  have H2 := H1.boxed 25 [.slice dp xs.length dc, .int .i64 m]
  clear ho hbl H1 h
  obtain ⟨G, hG⟩ : ∃ G, Hid (G = ifN (extB xs [x] m) (extL xs [x] m)) := ⟨_, Lib.hid rfl⟩
  obtain ⟨g, hg⟩ : ∃ g, Hid (g = ifI (extB xs [x] m) m) := ⟨_, Lib.hid rfl⟩
  obtain ⟨K, hK⟩ : ∃ K, Hid (K = extB xs [x] m) := ⟨_, Lib.hid rfl⟩
  have cI := Lib.hid (fun (v0 : Value) (w : World) (h0 : Nums w v0 xs) => (show Calls Try.prog 16 #[.agg #[v0, .int .i64 m], .int .i64 x] w (NewD G g K w) by rw [hG.out, hg.out, hK.out]; exact PushBack_any v0 xs m x w h0 hx))
  have cS := Lib.hid (fun (v0 : Value) (w : World) (h0 : Nums w v0 xs) => (show Calls Try.prog 17 #[.agg #[v0, .int .i64 m], .int .i64 x] w (NewD G g K w) by rw [hG.out, hg.out, hK.out]; exact sPushBack_any v0 xs m x w h0 hx))
  obtain ⟨d0_, d1_⟩ := H2.box2 0 rfl
  go_wp2_with fail
  refine (cI.out _ _ (H2.nums 1 rfl)).mono ?_
  rintro e w3 ⟨vo, rfl, ho, hbl⟩
  have H3 := H2.newN ho hbl
  obtain ⟨op, oc, rfl, hoc, hom⟩ := (H3.nums 0 rfl).slice
  have H4 := H3.boxed 25 [.slice op G.length oc, .int .i64 g]
  clear d0_ d1_
  clear H2 H3 ho hbl
  obtain ⟨d0_, d1_⟩ := H4.box2 2 rfl
  go_wp2_with fail
  refine (cS.out _ _ (H4.nums 3 rfl)).mono ?_
  rintro e w5 ⟨vw, rfl, ho, hbl⟩
  have H5 := H4.newN ho hbl
  obtain ⟨wp, wc, rfl, hwc, hwm⟩ := (H5.nums 0 rfl).slice
  have H6 := H5.boxed 25 [.slice wp G.length wc, .int .i64 g]
  clear d0_ d1_
  clear H4 H5 ho hbl
  clear cI cS
  obtain ⟨o0_, o1_⟩ := H6.box2 2 rfl
  obtain ⟨w0_, w1_⟩ := H6.box2 0 rfl
  go_wp2_with fail
  refine (equalD_T H6 (H6.nums 3 rfl) (H6.nums 1 rfl)).mono ?_
  rintro e w7 ⟨rfl, H7⟩
  clear o0_ o1_ w0_ w1_
  clear H6
  cases K
  · skip
    obtain ⟨o0_, o1_⟩ := H7.box2 2 rfl
    obtain ⟨w0_, w1_⟩ := H7.box2 0 rfl
    go_wp2_with fail
    refine (equalD_T H7 (H7.nums 3 rfl) (H7.nums 1 rfl)).mono ?_
    rintro e w8 ⟨rfl, H8⟩
    clear o0_ o1_ w0_ w1_
    clear H7
    go_wp2
    go_ret
    exact ⟨rfl, H8.below⟩
  · have hk := hK.out.symm
    have hGe : G = extL xs [x] m := by rw [hG.out, hk]; rfl
    have hge : g = m := by rw [hg.out, hk]; rfl
    subst hge
    obtain ⟨A, hA⟩ : ∃ A, Hid (A = ifN (poB G g) (pbL G)) := ⟨_, Lib.hid rfl⟩
    obtain ⟨a, ha⟩ : ∃ a, Hid (a = ifI (poB G g) g) := ⟨_, Lib.hid rfl⟩
    obtain ⟨X, hX⟩ : ∃ X, Hid (X = ifI (poB G g) (pbX G)) := ⟨_, Lib.hid rfl⟩
    obtain ⟨P, hP⟩ : ∃ P, Hid (P = poB G g) := ⟨_, Lib.hid rfl⟩
    have c1 := Lib.hid (fun (v0 : Value) (w : World) (h0 : Nums w v0 G) => (show Calls Try.prog 19 #[.agg #[v0, .int .i64 g]] w (NewP A a X P w) by rw [hA.out, ha.out, hX.out, hP.out]; exact PopBack_any v0 G g w h0))
    by_cases h0 : g = 0
    · have hGz : G = [] := by rw [hGe, h0]; rw [h0] at hk; exact push_zero hk
      have hPz : P = false := by rw [hP.out, hGz]; unfold poB; simp
      subst hPz
      have hgl : G.length = 0 := by rw [hGz]; rfl
      have hg0 : (g == 0) = true := by rw [h0]; rfl
      have hgl2 : ((G.length : Int) == 0) = true := by rw [hgl]; rfl
      clear hG hg hK hk hA ha hX hP hGe h0 hGz hgl
      obtain ⟨o0_, o1_⟩ := H7.box2 2 rfl
      go_wp2_with fail
      refine (c1.out _ _ (H7.nums 3 rfl)).mono ?_
      rintro e w8 ⟨vk, rfl, ho, hbl⟩
      have H8 := H7.newN ho hbl
      obtain ⟨kp, kc, rfl, hkc, hkm⟩ := (H8.nums 0 rfl).slice
      have H9 := H8.boxed 25 [.slice kp A.length kc, .int .i64 a]
      clear o0_ o1_
      clear H7 H8 ho hbl
      obtain ⟨d0_, d1_⟩ := H9.box2 6 rfl
      obtain ⟨o0_, o1_⟩ := H9.box2 4 rfl
      obtain ⟨k0_, k1_⟩ := H9.box2 0 rfl
      go_wp2
      go_ret
      exact ⟨rfl, H9.below⟩
    · have hg0 : (g == 0) = false := by rw [beq_eq_false_iff_ne]; exact h0
      by_cases hl : (xs.length : Int) = g
      · obtain ⟨q1, q2, q3, q4⟩ := push_cut hk h0 hl
        rw [← hGe] at q1 q2 q3
        have hPz : P = true := by rw [hP.out, q1]
        subst hPz
        obtain rfl : x = X := by rw [hX.out, q1]; exact q3.symm
        obtain rfl : g = a := by rw [ha.out, q1]; rfl
        have hAz : xs.drop 1 = A := by rw [hA.out, q1]; exact q2.symm
        have hAl : A.length + 1 = xs.length := by rw [← hAz, List.length_drop]; omega
        have hl1 : ((xs.length : Int) == g) = true := by rw [hl]; exact beq_self_eq_true _
        have hl2 : ((xs.length : Int) != g) = false := by rw [hl]; exact bne_self_eq_false _
        have i1 : (1 : Int) ≤ (xs.length : Int) := by omega
        have i2 : (1 : Int) ≤ (dc : Int) := by omega
        clear hG hg hK hk hA ha hX hP hGe h0 q1 q2 q3 hbnd hl
        obtain ⟨o0_, o1_⟩ := H7.box2 2 rfl
        go_wp2_with fail
        refine (c1.out _ _ (H7.nums 3 rfl)).mono ?_
        rintro e w8 ⟨vk, rfl, ho, hbl⟩
        have H8 := H7.newN ho hbl
        obtain ⟨kp, kc, rfl, hkc, hkm⟩ := (H8.nums 0 rfl).slice
        have H9 := H8.boxed 25 [.slice kp A.length kc, .int .i64 g]
        clear o0_ o1_
        clear H7 H8 ho hbl
        by_cases hck : dc = 1
        · subst hck
          have hxl : xs.length = 1 := by omega
          have hAe : A = [] := by rw [← hAz]; exact List.drop_eq_nil_of_le (by omega)
          have HT : Hid (∀ p : Fresh (w8.alloc (.cells #[.slice kp A.length kc, .int .i64 g] 25)), Nums p.at' (.slice dp 0 0) A) := fun p => (Nums_none (by omega)).cast hAe.symm
          have hl3 : ((1 : Int) == g) = true := by rw [hxl] at hl1; exact hl1
          have hl4 : ((1 : Int) != g) = false := by rw [hxl] at hl2; exact hl2
          clear hAe hAz hAl
          obtain ⟨d0_, d1_⟩ := H9.box2 6 rfl
          obtain ⟨o0_, o1_⟩ := H9.box2 4 rfl
          obtain ⟨k0_, k1_⟩ := H9.box2 0 rfl
          have d0f := fresh_cell d0_
          have d1f := fresh_cell d1_
          have o0f := fresh_cell o0_
          have o1f := fresh_cell o1_
          have k0f := fresh_cell k0_
          have k1f := fresh_cell k1_
          go_wp2_with fail
          refine region_fresh (by kernel_rfl) (by kernel_rfl) ?_
          repeat (with_reducible refine wpQuiet_step ?_; intro K hK; go_simp; first | (refine hK _ ?_; clear hK K) | (apply Exists.intro; refine ⟨fun _ => ?_, hK _ ?_⟩; ((go_at_call 20; exact fresh_of (equalN_q ((Things.quiet H9 (Fresh.is _)).nums 1 rfl) (HT.out _)))); clear hK K))
          with_reducible refine wpQuiet_nil ?_
          intro _ hw'
          obtain ⟨⟨wq9, hq9⟩, hw''⟩ := hw'
          subst hw''
          have H10 := H9.quiet hq9
          go_wp2
          go_ret
          exact ⟨rfl, H10.below⟩
        · skip
          have HT := Lib.hid (fun p : Fresh (w8.alloc (.cells #[.slice kp A.length kc, .int .i64 g] 25)) => (((((Things.quiet H9 p.is).nums 7 rfl).dropA q4 (fun _ => rfl) : Nums p.at' (.slice (dp.map fun x => x.add 1) (xs.length - 1) (dc - 1)) (xs.drop 1))).cast hAz))
          clear hAz hAl
          obtain ⟨d0_, d1_⟩ := H9.box2 6 rfl
          obtain ⟨o0_, o1_⟩ := H9.box2 4 rfl
          obtain ⟨k0_, k1_⟩ := H9.box2 0 rfl
          have d0f := fresh_cell d0_
          have d1f := fresh_cell d1_
          have o0f := fresh_cell o0_
          have o1f := fresh_cell o1_
          have k0f := fresh_cell k0_
          have k1f := fresh_cell k1_
          go_wp2_with fail
          refine region_fresh (by kernel_rfl) (by kernel_rfl) ?_
          repeat (with_reducible refine wpQuiet_step ?_; intro K hK; go_simp; first | (refine hK _ ?_; clear hK K) | (apply Exists.intro; refine ⟨fun _ => ?_, hK _ ?_⟩; ((go_at_call 20; exact fresh_of (equalN_q ((Things.quiet H9 (Fresh.is _)).nums 1 rfl) (HT.out _)))); clear hK K))
          with_reducible refine wpQuiet_nil ?_
          intro _ hw'
          obtain ⟨⟨wq9, hq9⟩, hw''⟩ := hw'
          subst hw''
          have H10 := H9.quiet hq9
          go_wp2
          go_ret
          exact ⟨rfl, H10.below⟩
      · obtain ⟨q1, q2, q3⟩ := push_free hk hl
        rw [← hGe] at q1 q2 q3
        have hPz : P = true := by rw [hP.out, q1]
        subst hPz
        obtain rfl : x = X := by rw [hX.out, q1]; exact q3.symm
        obtain rfl : g = a := by rw [ha.out, q1]; rfl
        obtain rfl : xs = A := by rw [hA.out, q1]; exact q2.symm
        have hl1 : ((xs.length : Int) == g) = false := by rw [beq_eq_false_iff_ne]; exact hl
        have hl2 : ((xs.length : Int) != g) = true := by rw [bne_iff_ne]; exact hl
        clear hG hg hK hk hA ha hX hP hGe h0 q1 q2 q3 hbnd hl
        obtain ⟨o0_, o1_⟩ := H7.box2 2 rfl
        go_wp2_with fail
        refine (c1.out _ _ (H7.nums 3 rfl)).mono ?_
        rintro e w8 ⟨vk, rfl, ho, hbl⟩
        have H8 := H7.newN ho hbl
        obtain ⟨kp, kc, rfl, hkc, hkm⟩ := (H8.nums 0 rfl).slice
        have H9 := H8.boxed 25 [.slice kp xs.length kc, .int .i64 g]
        clear o0_ o1_
        clear H7 H8 ho hbl
        obtain ⟨d0_, d1_⟩ := H9.box2 6 rfl
        obtain ⟨o0_, o1_⟩ := H9.box2 4 rfl
        obtain ⟨k0_, k1_⟩ := H9.box2 0 rfl
        have d0f := fresh_cell d0_
        have d1f := fresh_cell d1_
        have o0f := fresh_cell o0_
        have o1f := fresh_cell o1_
        have k0f := fresh_cell k0_
        have k1f := fresh_cell k1_
        go_wp2_with fail
        refine region_fresh (by kernel_rfl) (by kernel_rfl) ?_
        repeat (with_reducible refine wpQuiet_step ?_; intro K hK; go_simp; first | (refine hK _ ?_; clear hK K) | (apply Exists.intro; refine ⟨fun _ => ?_, hK _ ?_⟩; ((go_at_call 18; exact fresh_of (equalD_q ((Things.quiet H9 (Fresh.is _)).nums 1 rfl) ((Things.quiet H9 (Fresh.is _)).nums 7 rfl)))); clear hK K))
        with_reducible refine wpQuiet_nil ?_
        intro _ hw'
        obtain ⟨⟨wq9, hq9⟩, hw''⟩ := hw'
        subst hw''
        have H10 := H9.quiet hq9
        go_wp2
        go_ret
        exact ⟨rfl, H10.below⟩

set_option maxRecDepth 100000 in
theorem FnPushBack_lifted (os : Os) (started : os.Started) (H : Type) (enc : TypeId × Value → H) :
    ReturnsInHanded {} Try.checked os 3 .any (Rows.fnPushBackSpec.pre6 enc Try.prog Try.f3 Rows.fnPushBackRow.domain false) (Rows.fnPushBackSpec.post enc Try.prog Try.f3 false true false false) := by
  refine returnsInHanded_of_change (C := Try.checked) own started (by kernel_rfl) Try.func3
    (ChangeSpec.witness6 (enc := enc) (C := Try.checked) false ⟨#[], #[.slice none 0 0], []⟩ 8 (by kernel_rfl) (by kernel_rfl) (by kernel_rfl) (by kernel_rfl)) ?_
  intro W base args ds gs before hval0 hW _ _
  have hval : ∀ (j : Nat) t v, Try.f3.params[j]? = some t → args[j]? = some v → Value.okWide Try.prog W .any base t v := hval0
  have hW' := hW
  obtain ⟨p, q, hA0, hV, rfl, _, _⟩ := hW
  have hA : DataW.TrodAll enc Try.prog W 0 (fun _ => true) true Try.f3.params.toList args.toList ds p := hA0
  rw [Try.params3] at hA hval
  obtain ⟨v0, vs0, d0, ds0, p0, q0, hargs, rfl, rfl, h0, r0⟩ := trodAll_cons hA
  obtain ⟨rfl, rfl, rfl⟩ := trodAll_nil r0
  obtain rfl : args = #[v0] := by cases args; simp_all
  obtain ⟨rfl, rfl⟩ := trodVars_none hV
  obtain ⟨xs0, hI0⟩ := open_bytes (hval 0 _ v0 rfl rfl) h0
  refine (FnPushBack_walk v0 xs0 W hI0).mono fun e W' ⟨he, hb⟩ => ⟨_, he, ?_⟩
  exact law_end rfl (by rw [Try.params3]; decide +kernel) rfl hW' rfl rfl rfl hb

theorem FnPushBack_facts : joinedFacts Try.prog 3 Try.f3 Rows.fnPushBackSpec Rows.fnPushBackRow = true :=
  facts_of (by kernel_rfl) q2 q3 (by kernel_rfl) (by kernel_rfl) (by kernel_rfl) q7 (by kernel_rfl) q9 (by kernel_rfl) (by kernel_rfl) (by kernel_rfl) (by kernel_rfl) (by kernel_rfl) (by kernel_rfl) (by kernel_rfl) (by kernel_rfl) (by kernel_rfl) (by kernel_rfl) (by kernel_rfl) (by kernel_rfl) (by kernel_rfl)
    (by rw [q22]; kernel_rfl) (by kernel_rfl) q23 head_enter (by kernel_rfl) head_lifts head_make (by kernel_rfl) (by kernel_rfl) (by kernel_rfl) (by kernel_rfl) (by kernel_rfl)

theorem FnPushBack_holds : Rows.FnPushBackSaid :=
  OpenClaim.holds_of_wide 3 Try.f3 rfl rfl rfl rfl rfl rfl rfl ⟨rfl, rfl, rfl, rfl, rfl⟩ rfl rfl rfl rfl rfl (by kernel_rfl) Try.func3 FnPushBack_facts
    (of_decide_eq_true (by kernel_rfl)) (by unfold Func.isWrapper; first | (rw [if_pos (by decide +kernel)]; kernel_rfl) | (rw [if_neg (by decide +kernel)]; exact ⟨rfl, rfl⟩))
    (fun os started H enc _ => FnPushBack_lifted os started H enc)
end Go.Proofs.Ythblobjemaooeaa
