/-
  FnAddDeques: true, for every code.
-/
import Derived.Deep.RegionHeld3
import Derived.Test.YtoglgeinnocfjaaE7
import Derived.Test.YtoglgeinnocfjaaE11
import Derived.Test.YtoglgeinnocfjaaE13
import Derived.Test.YtoglgeinnocfjaaE16
import Derived.Test.YtoglgeinnocfjaaE17
namespace Go.Proofs.Ytoglgeinnocfjaa
open Go.RowKit
open Go.ChangeShapes Go.WideShapes Go.ChangeAt Go.Deep

theorem ad_parts {xs ys : List Int} {m q : Int} (h : adB xs ys m q = true) : validD xs m = true ∧ adB xs [] m (-1) = true ∧ extL xs [] m = xs ∧ ys.length ≤ 10 := by
  unfold adB extB at h
  simp only [Bool.and_eq_true] at h
  obtain ⟨h1, ⟨h2, h3⟩, h4⟩ := h
  have h5 := validD_iff.1 h2
  have e : extL xs [] m = xs := by
    unfold extL fitB
    rw [List.append_nil, if_neg (by omega)]
  refine ⟨h2, ?_, e, (areN_iff.1 h3).1⟩
  unfold adB extB
  rw [e, h2, show validD [] (-1) = true from rfl, show areN [] = true from rfl]
  rfl
theorem fit_drop (zs : List Int) (m : Int) : ∃ n : Nat, n + (fitB zs m).length = zs.length ∧ fitB zs m = zs.drop n := by
  unfold fitB
  split
  · exact ⟨zs.length - m.toNat, by rw [List.length_drop]; omega, rfl⟩
  · exact ⟨0, by omega, rfl⟩

set_option maxHeartbeats 4000000 in
set_option maxRecDepth 100000 in
theorem FnAddDeques_walk (v : Value) (bs : List Int) (w : World) (h : Bytes w v bs) :
    Calls Try.prog 6 #[v] w fun e w' => e = .returned (.bool true) ∧ Below w.heap.size w w' := by
  have h0 := h
  obtain ⟨ao, cap, rfl, hl, hc, hok, hcell⟩ := h0
  clear hcell hok
  go_enter Try.func6, Try.ntmps6
  by_cases hbig : (1048576 : Int) < (bs.length : Int)
  · go_wp2
    go_ret
    exact ⟨rfl, Below.refl _ _⟩
  go_wp2_with fail
  refine (DrawAddDeques_any _ bs w h).mono ?_
  rintro e w1 ⟨va, xs, m, vb, ys, q, rfl, hxa, hxb, hbnd, hb1⟩
  obtain ⟨ap, ac, rfl, hac, ham⟩ := hxa.slice
  obtain ⟨bp, bc, rfl, hbc, hbm⟩ := hxb.slice
  have HXa := Lib.hid hxa
  have HXb := Lib.hid hxb
  have H1 := Things.nil w1
  have H2 := H1.boxed 25 [.slice ap xs.length ac, .int .i64 m]
  have H3 := H2.boxedAs (w1.heap.size + 1) (by simp) 25 [.slice bp ys.length bc, .int .i64 q]
  clear H1 H2 h hxa hxb
  obtain ⟨G, hG⟩ : ∃ G, Hid (G = ifN (adB xs ys m q) (extL xs ys m)) := ⟨_, Lib.hid rfl⟩
  obtain ⟨g, hg⟩ : ∃ g, Hid (g = ifI (adB xs ys m q) m) := ⟨_, Lib.hid rfl⟩
  obtain ⟨K, hK⟩ : ∃ K, Hid (K = adB xs ys m q) := ⟨_, Lib.hid rfl⟩
  have cI := Lib.hid (fun (v0 v1 : Value) (w : World) (h0 : Nums w v0 xs) (h1 : Nums w v1 ys) => (show Calls Try.prog 31 #[.agg #[v0, .int .i64 m], .agg #[v1, .int .i64 q]] w (NewD G g K w) by rw [hG.out, hg.out, hK.out]; exact AddDeques_any v0 v1 xs ys m q w h0 h1))
  have cS := Lib.hid (fun (v0 v1 : Value) (w : World) (h0 : Nums w v0 xs) (h1 : Nums w v1 ys) => (show Calls Try.prog 32 #[.agg #[v0, .int .i64 m], .agg #[v1, .int .i64 q]] w (NewD G g K w) by rw [hG.out, hg.out, hK.out]; exact sAddDeques_any v0 v1 xs ys m q w h0 h1))
  obtain ⟨a0_, a1_⟩ := H3.box2 1 rfl
  obtain ⟨b0_, b1_⟩ := H3.box2 0 rfl
  go_wp2_with fail
  refine (cI.out _ _ _ (H3.argN HXa.out) (H3.argN HXb.out)).mono ?_
  rintro e w4 ⟨vo, rfl, ho, hbl⟩
  have H4 := H3.newN ho hbl
  obtain ⟨op, oc, rfl, hoc, hom⟩ := (H4.nums 0 rfl).slice
  have H5 := H4.boxed 25 [.slice op G.length oc, .int .i64 g]
  clear a0_ a1_ b0_ b1_
  clear H3 H4 ho hbl
  obtain ⟨a0_, a1_⟩ := H5.box2 3 rfl
  obtain ⟨b0_, b1_⟩ := H5.box2 2 rfl
  go_wp2_with fail
  refine (cS.out _ _ _ (H5.argN HXa.out) (H5.argN HXb.out)).mono ?_
  rintro e w6 ⟨vw, rfl, ho, hbl⟩
  have H6 := H5.newN ho hbl
  obtain ⟨wp, wc, rfl, hwc, hwm⟩ := (H6.nums 0 rfl).slice
  have H7 := H6.boxed 25 [.slice wp G.length wc, .int .i64 g]
  clear a0_ a1_ b0_ b1_
  clear H5 H6 ho hbl
  clear cI cS
  obtain ⟨o0_, o1_⟩ := H7.box2 2 rfl
  obtain ⟨w0_, w1_⟩ := H7.box2 0 rfl
  go_wp2_with fail
  refine (equalD_T H7 (H7.nums 3 rfl) (H7.nums 1 rfl)).mono ?_
  rintro e w8 ⟨rfl, H8⟩
  clear o0_ o1_ w0_ w1_
  clear H7
  cases K
  · skip
    obtain ⟨o0_, o1_⟩ := H8.box2 2 rfl
    obtain ⟨w0_, w1_⟩ := H8.box2 0 rfl
    go_wp2_with fail
    refine (equalD_T H8 (H8.nums 3 rfl) (H8.nums 1 rfl)).mono ?_
    rintro e w9 ⟨rfl, H9⟩
    clear o0_ o1_ w0_ w1_
    clear H8
    go_wp2
    go_ret
    exact ⟨rfl, hb1.trans (H9.below.mono hb1.size)⟩
  · obtain ⟨hv, hk2, he, hy10⟩ := ad_parts hK.out.symm
    have hGe : G = fitB (xs ++ ys) m := by rw [hG.out, ← hK.out]; rfl
    obtain rfl : g = m := by rw [hg.out, ← hK.out]; rfl
    have hx10 := validD_len hv
    obtain ⟨Z, hZ⟩ : ∃ Z, Hid (Z = xs ++ ys) := ⟨_, Lib.hid rfl⟩
    have hZl : Hid (Z.length = xs.length + ys.length) := by unfold Hid; rw [hZ.out, List.length_append]
    obtain ⟨k, hkl, hkd⟩ := fit_drop Z g
    rw [hZ.out, ← hGe] at hkl hkd
    rw [← hZ.out] at hkl hkd
    have cN := Lib.hid (fun (v0 : Value) (w : World) (h0 : Nums w v0 xs) => (show Calls Try.prog 31 #[.agg #[v0, .int .i64 g], .agg #[.slice none 0 0, .int .i64 (-1)]] w (NewD xs g true w) by have h1 := AddDeques_any v0 (.slice none 0 0) xs [] g (-1) w h0 (Nums.nil _); rw [hk2, he] at h1; exact h1))
    have HKL := Lib.hid hkl
    have HKD := Lib.hid hkd
    clear hG hg hK hv hk2 he hGe hkl hkd hbnd
    have LIT := Lib.hid (World.ownsRow_lit (base := w8.heap.size) (e := 3) (size := 1) w8.drew #[] 0 (Nat.le_refl _) (by unfold maxLen; omega) rfl)
    have hbA : Below w8.heap.size w8 (w8.drew.alloc (.cells #[] 3)) := ((Below.refl _ _).drew).alloc (Nat.le_refl _) _
    have HA := H8.quiet hbA
    have hSA := And.intro (HA.box2 5 rfl) (HA.box2 4 rfl)
    have hokx := HXa.out.ok
    have hoky := HXb.out.ok
    go_wp2_with fail
    go_region_held3 (fun w' : World => (w'.cell? ⟨w1.heap.size, 0, none⟩ = some (.slice ap xs.length ac) ∧ w'.cell? ⟨w1.heap.size, 1, none⟩ = some (.int .i64 g)) ∧ (w'.cell? ⟨w1.heap.size + 1, 0, none⟩ = some (.slice bp ys.length bc) ∧ w'.cell? ⟨w1.heap.size + 1, 1, none⟩ = some (.int .i64 q)))
      (first | exact And.intro (H8.box2 5 rfl) (H8.box2 4 rfl) | assumption | exact hSA | exact hS4 | exact hS5)
      (first
        | (refine step_append_nums _ rfl (.tmp 54) (.tmp 56) rfl _ (.slice (some ⟨w8.heap.size, 0, none⟩) 0 0) 0 [] (by first | rfl | simp [Act.eval, Act.put]) LIT.out (.slice ap xs.length ac) xs (by first | rfl | simp [Act.eval, Act.put]) (HA.argN HXa.out) (by omega) (by omega) (by simp) ?_; intro v4 w4 hown4 hgrow4; have hb4 := hbA.grown hgrow4 (by simp) (fun j hj => (LIT.out.lt j hj).1); have HB := H8.quiet hb4; have hS4 := And.intro (HB.box2 5 rfl) (HB.box2 4 rfl); rw [Nat.zero_add, List.nil_append] at hown4)
        | (refine step_append_nums _ rfl (.tmp 57) (.tmp 59) rfl _ v4 _ _ (by first | rfl | simp [Act.eval, Act.put]) hown4 (.slice bp ys.length bc) ys (by first | rfl | simp [Act.eval, Act.put]) (HB.argN HXb.out) (by omega) (by omega) hb4.size ?_; intro v5 w5 hown5 hgrow5; have hb5 := hb4.grown hgrow5 hb4.size (fun j hj => (hown4.lt j hj).1); have ho5 := app_own hokx hoky hown5; rw [← hZ.out] at ho5; obtain ⟨zo, zcap, rfl, _, _⟩ := ho5.nums.slice; have HC := H8.newN ho5.own hb5; have hS5 := And.intro (HC.box2 6 rfl) (HC.box2 5 rfl); clear hown5))
    clear HA HB hown4 hgrow4 hgrow5 hb4 hb5 ho5 LIT hSA hS4 hS5 hbA H8
    have H9 := HC
    clear HC
    obtain ⟨a0_, a1_⟩ := H9.box2 6 rfl
    go_wp2_with fail
    refine (cN.out _ _ (H9.argN HXa.out)).mono ?_
    rintro e w10 ⟨ve, rfl, ho, hbl⟩
    have H10 := H9.newN ho hbl
    obtain ⟨ep, ec, rfl, hec, hem⟩ := (H10.nums 0 rfl).slice
    have H11 := H10.boxed 25 [.slice ep xs.length ec, .int .i64 g]
    clear a0_ a1_
    clear H9 H10 ho hbl
    clear cN
    have hzl := hZl.out
    have hkl := HKL.out
    have hwr : IntKind.i64.wrap ((Z.length : Int) - (G.length : Int)) = (k : Int) := by rw [IntWalk.i64_in _ (by omega)]; omega
    have hk0 : (0 : Int) ≤ (k : Int) := by omega
    have hkz : (k : Int) ≤ (Z.length : Int) := by omega
    have hzc : (Z.length : Int) ≤ (zcap : Int) := by omega
    clear hzl hkl
    by_cases hck : zcap = k
    · subst hck
      have HT := Lib.hid (fun p_ : Fresh (w10.alloc (.cells #[.slice ep xs.length ec, .int .i64 g] 25)) => (Nums.cast (by have h2 := ((Things.quiet H11 p_.is).nums 2 rfl).dropA (k := zcap) (A := zo) (by have := HKL.out; omega) (fun h => absurd rfl h); rw [Nat.sub_self, show Z.length - zcap = 0 by have := HKL.out; omega] at h2; exact h2) HKD.out.symm : Nums p_.at' (.slice zo 0 0) G))
      obtain ⟨a0_, a1_⟩ := H11.box2 8 rfl
      obtain ⟨o0_, o1_⟩ := H11.box2 5 rfl
      obtain ⟨e0_, e1_⟩ := H11.box2 0 rfl
      have a0f := fresh_cell a0_
      have a1f := fresh_cell a1_
      have o0f := fresh_cell o0_
      have o1f := fresh_cell o1_
      have e0f := fresh_cell e0_
      have e1f := fresh_cell e1_
      go_wp2_with fail
      refine region_fresh (by kernel_rfl) (by kernel_rfl) ?_
      repeat (with_reducible refine wpQuiet_step ?_; intro K hK; go_simp; first | (refine hK _ ?_; clear hK K) | (apply Exists.intro; refine ⟨fun _ => ?_, hK _ ?_⟩; (first | (go_at_call 25; exact fresh_of (equalN_q ((Things.quiet H11 (Fresh.is _)).nums 6 rfl) (HT.out _))) | (go_at_call 18; exact fresh_of (equalD_q ((Things.quiet H11 (Fresh.is _)).nums 1 rfl) ((Things.quiet H11 (Fresh.is _)).argN HXa.out)))); clear hK K))
      with_reducible refine wpQuiet_nil ?_
      intro _ hw'
      obtain ⟨⟨wq11, hq11⟩, hw''⟩ := hw'
      subst hw''
      have H12 := H11.quiet hq11
      go_wp2
      go_ret
      exact ⟨rfl, hb1.trans (H12.below.mono hb1.size)⟩
    · skip
      have HT := Lib.hid (fun p_ : Fresh (w10.alloc (.cells #[.slice ep xs.length ec, .int .i64 g] 25)) => (Nums.cast (((Things.quiet H11 p_.is).nums 2 rfl).dropA (k := k) (A := zo.map fun x => x.add k) (by have := HKL.out; omega) (fun _ => rfl)) HKD.out.symm : Nums p_.at' (.slice (zo.map fun x => x.add k) (Z.length - k) (zcap - k)) G))
      obtain ⟨a0_, a1_⟩ := H11.box2 8 rfl
      obtain ⟨o0_, o1_⟩ := H11.box2 5 rfl
      obtain ⟨e0_, e1_⟩ := H11.box2 0 rfl
      have a0f := fresh_cell a0_
      have a1f := fresh_cell a1_
      have o0f := fresh_cell o0_
      have o1f := fresh_cell o1_
      have e0f := fresh_cell e0_
      have e1f := fresh_cell e1_
      go_wp2_with fail
      refine region_fresh (by kernel_rfl) (by kernel_rfl) ?_
      repeat (with_reducible refine wpQuiet_step ?_; intro K hK; go_simp; first | (refine hK _ ?_; clear hK K) | (apply Exists.intro; refine ⟨fun _ => ?_, hK _ ?_⟩; (first | (go_at_call 25; exact fresh_of (equalN_q ((Things.quiet H11 (Fresh.is _)).nums 6 rfl) (HT.out _))) | (go_at_call 18; exact fresh_of (equalD_q ((Things.quiet H11 (Fresh.is _)).nums 1 rfl) ((Things.quiet H11 (Fresh.is _)).argN HXa.out)))); clear hK K))
      with_reducible refine wpQuiet_nil ?_
      intro _ hw'
      obtain ⟨⟨wq11, hq11⟩, hw''⟩ := hw'
      subst hw''
      have H12 := H11.quiet hq11
      go_wp2
      go_ret
      exact ⟨rfl, hb1.trans (H12.below.mono hb1.size)⟩

set_option maxRecDepth 100000 in
theorem FnAddDeques_lifted (os : Os) (started : os.Started) (H : Type) (enc : TypeId × Value → H) :
    ReturnsInHanded {} Try.checked os 6 .any (Rows.fnAddDequesSpec.pre6 enc Try.prog Try.f6 Rows.fnAddDequesRow.domain false) (Rows.fnAddDequesSpec.post enc Try.prog Try.f6 false true false false) := by
  refine returnsInHanded_of_change (C := Try.checked) own started (by kernel_rfl) Try.func6
    (ChangeSpec.witness6 (enc := enc) (C := Try.checked) false ⟨#[], #[.slice none 0 0], []⟩ 8 (by kernel_rfl) (by kernel_rfl) (by kernel_rfl) (by kernel_rfl)) ?_
  intro W base args ds gs before hval0 hW _ _
  have hval : ∀ (j : Nat) t v, Try.f6.params[j]? = some t → args[j]? = some v → Value.okWide Try.prog W .any base t v := hval0
  have hW' := hW
  obtain ⟨p, q, hA0, hV, rfl, _, _⟩ := hW
  have hA : DataW.TrodAll enc Try.prog W 0 (fun _ => true) true Try.f6.params.toList args.toList ds p := hA0
  rw [Try.params6] at hA hval
  obtain ⟨v0, vs0, d0, ds0, p0, q0, hargs, rfl, rfl, h0, r0⟩ := trodAll_cons hA
  obtain ⟨rfl, rfl, rfl⟩ := trodAll_nil r0
  obtain rfl : args = #[v0] := by cases args; simp_all
  obtain ⟨rfl, rfl⟩ := trodVars_none hV
  obtain ⟨xs0, hI0⟩ := open_bytes (hval 0 _ v0 rfl rfl) h0
  refine (FnAddDeques_walk v0 xs0 W hI0).mono fun e W' ⟨he, hb⟩ => ⟨_, he, ?_⟩
  exact law_end rfl (by rw [Try.params6]; decide +kernel) rfl hW' rfl rfl rfl hb

theorem FnAddDeques_facts : joinedFacts Try.prog 6 Try.f6 Rows.fnAddDequesSpec Rows.fnAddDequesRow = true :=
  facts_of (by kernel_rfl) q2 q3 (by kernel_rfl) (by kernel_rfl) (by kernel_rfl) q7 (by kernel_rfl) q9 (by kernel_rfl) (by kernel_rfl) (by kernel_rfl) (by kernel_rfl) (by kernel_rfl) (by kernel_rfl) (by kernel_rfl) (by kernel_rfl) (by kernel_rfl) (by kernel_rfl) (by kernel_rfl) (by kernel_rfl) (by kernel_rfl)
    (by rw [q22]; kernel_rfl) (by kernel_rfl) q23 head_enter (by kernel_rfl) head_lifts head_make (by kernel_rfl) (by kernel_rfl) (by kernel_rfl) (by kernel_rfl) (by kernel_rfl)

theorem FnAddDeques_holds : Rows.FnAddDequesSaid :=
  OpenClaim.holds_of_wide 6 Try.f6 rfl rfl rfl rfl rfl rfl rfl ⟨rfl, rfl, rfl, rfl, rfl⟩ rfl rfl rfl rfl rfl (by kernel_rfl) Try.func6 FnAddDeques_facts
    (of_decide_eq_true (by kernel_rfl)) (by unfold Func.isWrapper; first | (rw [if_pos (by decide +kernel)]; kernel_rfl) | (rw [if_neg (by decide +kernel)]; exact ⟨rfl, rfl⟩))
    (fun os started H enc _ => FnAddDeques_lifted os started H enc)
end Go.Proofs.Ytoglgeinnocfjaa
