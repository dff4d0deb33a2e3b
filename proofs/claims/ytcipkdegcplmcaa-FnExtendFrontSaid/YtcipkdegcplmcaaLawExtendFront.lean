/-
  FnExtendFront: true, for every code.
-/
import Derived.Test.YtcipkdegcplmcaaLwN
import Derived.Test.YtcipkdegcplmcaaOpenB
import Derived.Test.YtcipkdegcplmcaaDqE
import Derived.Deep.RegionHeld3
namespace Go.Proofs.Ytcipkdegcplmcaa
open Go.RowKit
open Go.ChangeShapes Go.WideShapes Go.ChangeAt Go.Deep

theorem allN_rev (xs : List Int) : allN xs.reverse = allN xs := by
  rw [Bool.eq_iff_iff, allN_iff, allN_iff]
  simp
theorem validD_rev (xs : List Int) (m : Int) : validD xs.reverse m = validD xs m := by
  unfold validD
  rw [allN_rev, List.length_reverse]
theorem exf_parts {xs ys : List Int} {m : Int} (h : exfB xs ys m = true) : validD xs m = true ∧ areN ys = true ∧ validD (exfL xs ys m) m = true := by
  unfold exfB at h
  rw [Bool.and_eq_true, Bool.and_eq_true] at h
  exact ⟨h.1.1, h.1.2, h.2⟩
theorem fit_rev (xs : List Int) (m : Int) : fitB xs.reverse m = (fitF xs m).reverse := by
  unfold fitB fitF
  rw [List.length_reverse]
  by_cases hm : 0 ≤ m ∧ m < (xs.length : Int)
  · rw [if_pos hm, if_pos hm, List.drop_reverse, show xs.length - (xs.length - m.toNat) = m.toNat by omega]
  · rw [if_neg hm, if_neg hm]
theorem xf_turned {xs ys : List Int} {m : Int} (h : exfB xs ys m = true) : extL xs.reverse ys m = (exfL xs ys m).reverse ∧ extB xs.reverse ys m = true := by
  obtain ⟨h1, h2, h3⟩ := exf_parts h
  have e : extL xs.reverse ys m = (exfL xs ys m).reverse := by
    unfold extL exfL
    rw [show xs.reverse ++ ys = (ys.reverse ++ xs).reverse by simp, fit_rev]
  refine ⟨e, ?_⟩
  unfold extB
  rw [e, validD_rev, validD_rev, h1, h2, h3]
  rfl
set_option linter.unusedSimpArgs false in
set_option maxHeartbeats 1600000 in
theorem DrawExtendBack_any (v : Value) (bs : List Int) (w : World) (h : Bytes w v bs) :
    Calls Try.prog 13 #[v] w fun e w' => ∃ v' xs m u ys, e = .returned (.tuple #[.agg #[v', .int .i64 m], u]) ∧ OwnN w.heap.size w'.heap.size w' v' xs ∧ OwnN w.heap.size w'.heap.size w' u ys ∧ (xs.length ≤ 11 ∧ ys.length ≤ 11) ∧ Below w.heap.size w w' := by
  have hb0 : Below w.heap.size w (w.alloc (.cells #[.slice none 0 0, .int .i64 0] 25)) := (Below.refl _ _).alloc (Nat.le_refl _) _
  have HR := Lib.hid (heap_new w (.cells #[.slice none 0 0, .int .i64 0] 25))
  go_enter Try.func13, Try.ntmps13
  go_wp2_with fail
  refine (newReader_any v bs _ (h.below hb0)).mono ?_
  rintro e w1 ⟨r, rfl, hr, hR1, hb1⟩
  have hs1 := hb1.size
  simp at hs1 hb1 hr
  go_wp2_with fail
  refine (someDeque_any r 0 w1 hR1 (by omega)).mono ?_
  rintro e w2 ⟨v2, xs, m, rfl, hb, hown, hR2, hk2⟩
  obtain ⟨xo, xcap, rfl, _, _⟩ := hown.nums.slice
  have hlt := hR1.lt
  have hs2 := hk2.size
  go_wp2_with fail
  refine (someInts_any r _ w2 hR2 (by omega)).mono ?_
  rintro e w3 ⟨u3, ys, rfl, hly, hny, howny, hR3, hk3⟩
  obtain ⟨yo, ycap, rfl, _, _⟩ := howny.nums.slice
  have hk23 := RK.trans hk2 hk3
  have hs3 := hk3.size
  have hown3 := hown.keeps (hk3.mono fun j hj => ⟨hj.2, by have := hj.1; omega⟩)
  have R2 := (hk23.block _ ⟨by omega, by omega⟩).trans ((hb1.block _ (by omega)).trans HR.out)
  have HBB : Hid (Below w.heap.size w w3) := (hb0.trans (hb1.mono (by omega))).trans (Keeps.below hk23 (fun k hk => ⟨by omega, by omega⟩))
  have HO := Lib.hid hown3
  have HY := Lib.hid howny
  have s0 := two_cell0 R2
  have s1 := two_cell1 R2
  have t0 := two_free R2
  have hx := hb.1
  clear R2 hk23 hk3 hk2 hown3 hown howny hb1 hR1
  go_wp2
  exact bodyPost_ret (v := .tuple #[.agg #[.slice xo xs.length xcap, .int .i64 m], .slice yo ys.length ycap]) (by simp [results, Try.results13, go_sem, s0, s1]) rfl ⟨_, _, _, _, _, rfl, (HO.out.keeps (((Keeps.refl _ _).setCell (by simp [In]; omega) _).setCell (by simp [In]; omega) _)).wide (by omega) (by simp <;> omega), (HY.out.keeps (((Keeps.refl _ _).setCell (by simp [In]; omega) _).setCell (by simp [In]; omega) _)).wide (by omega) (by simp <;> omega), ⟨hx, hly⟩, (HBB.out.setCell (by simp) _).setCell (by simp) _⟩

set_option linter.unusedSimpArgs false in
set_option maxHeartbeats 800000 in
theorem DrawExtendFront_any (v : Value) (bs : List Int) (w : World) (h : Bytes w v bs) :
    Calls Try.prog 19 #[v] w fun e w' => ∃ v' xs m u ys, e = .returned (.tuple #[.agg #[v', .int .i64 m], u]) ∧ OwnN w.heap.size w'.heap.size w' v' xs ∧ OwnN w.heap.size w'.heap.size w' u ys ∧ (xs.length ≤ 11 ∧ ys.length ≤ 11) ∧ Below w.heap.size w w' := by
  have hb0 : Below w.heap.size w (w.alloc (.cells #[.slice none 0 0, .int .i64 0] 25)) := (Below.refl _ _).alloc (Nat.le_refl _) _
  have HR := Lib.hid (heap_new w (.cells #[.slice none 0 0, .int .i64 0] 25))
  go_enter Try.func19, Try.ntmps19
  go_wp2_with fail
  refine (DrawExtendBack_any v bs _ (h.below hb0)).mono ?_
  rintro e w1 ⟨v1, xs, m, u1, ys, rfl, hown, howny, hb, hb1⟩
  obtain ⟨xo, xcap, rfl, _, _⟩ := hown.nums.slice
  obtain ⟨yo, ycap, rfl, _, _⟩ := howny.nums.slice
  have hs1 := hb1.size
  simp at hs1 hb1 hown howny
  have R2 := (hb1.block _ (by omega)).trans HR.out
  have HBB : Hid (Below w.heap.size w w1) := hb0.trans (hb1.mono (by omega))
  have HO := Lib.hid hown
  have HY := Lib.hid howny
  have s0 := two_cell0 R2
  have s1 := two_cell1 R2
  have t0 := two_free R2
  clear R2 hown howny hb1
  go_wp2
  exact bodyPost_ret (v := .tuple #[.agg #[.slice xo xs.length xcap, .int .i64 m], .slice yo ys.length ycap]) (by simp [results, Try.results19, go_sem, s0, s1]) rfl ⟨_, _, _, _, _, rfl, (HO.out.keeps (((Keeps.refl _ _).setCell (by simp [In] <;> omega) _).setCell (by simp [In] <;> omega) _)).wide (by omega) (by simp <;> omega), (HY.out.keeps (((Keeps.refl _ _).setCell (by simp [In] <;> omega) _).setCell (by simp [In] <;> omega) _)).wide (by omega) (by simp <;> omega), hb, (HBB.out.setCell (by simp) _).setCell (by simp) _⟩

set_option maxHeartbeats 3200000 in
set_option maxRecDepth 100000 in
theorem FnExtendFront_walk (v : Value) (bs : List Int) (w : World) (h : Bytes w v bs) :
    Calls Try.prog 4 #[v] w fun e w' => e = .returned (.bool true) ∧ Below w.heap.size w w' := by
  have h0 := h
  obtain ⟨ao, cap, rfl, hl, hc, hok, hcell⟩ := h0
  clear hcell hok
  go_enter Try.func4, Try.ntmps4
  by_cases hbig : (1048576 : Int) < (bs.length : Int)
  · go_wp2
    go_ret
    exact ⟨rfl, Below.refl _ _⟩
  go_wp2_with fail
  refine (DrawExtendFront_any _ bs w h).mono ?_
  rintro e w1 ⟨vd, xs, m, vl, ys, rfl, hox, hoy, hlen, hbl⟩
  have hs1 := hbl.size
  have NX := hox.nums
  have NY := hoy.nums
  have HBL := Lib.hid hbl
  have H1 := Things.nil w1
  obtain ⟨dp, dc, rfl, hdc, hdm⟩ := NX.slice
  obtain ⟨lp, lc, rfl, _, _⟩ := NY.slice
  have HB1 := H1.boxed 25 [.slice dp xs.length dc, .int .i64 m]
  obtain ⟨d0, d1⟩ := HB1.box2 0 rfl
  obtain ⟨G, hG⟩ : ∃ G, Hid (G = ifN (exfB xs ys m) (exfL xs ys m)) := ⟨_, rfl⟩
  obtain ⟨g, hg⟩ : ∃ g, Hid (g = ifI (exfB xs ys m) m) := ⟨_, rfl⟩
  obtain ⟨B, hB⟩ : ∃ B, Hid (B = exfB xs ys m) := ⟨_, rfl⟩
  have cI := Lib.hid (fun (v u : Value) (w : World) (h : Nums w v xs) (h' : Nums w u ys) => (show Calls Try.prog 20 #[.agg #[v, .int .i64 m], u] w (NewD G g B w) by rw [hG.out, hg.out, hB.out]; exact ExtendFront_any v u xs ys m w h h'))
  have cS := Lib.hid (fun (v u : Value) (w : World) (h : Nums w v xs) (h' : Nums w u ys) => (show Calls Try.prog 21 #[.agg #[v, .int .i64 m], u] w (NewD G g B w) by rw [hG.out, hg.out, hB.out]; exact sExtendFront_any v u xs ys m w h h'))
  have HNX := Lib.hid NX
  have HNY := Lib.hid NY
  clear hox hoy hbl H1 h NX NY
  go_wp2_with fail
  refine (cI.out _ _ _ (HB1.argN HNX.out) (HB1.argN HNY.out)).mono ?_
  rintro e w2 ⟨vo, rfl, ho, hbl⟩
  have H2 := HB1.newN ho hbl
  obtain ⟨op, oc, rfl, _, _⟩ := (H2.nums 0 rfl).slice
  have HB2 := H2.boxed 25 [.slice op G.length oc, .int .i64 g]
  clear HB1 H2 ho hbl d0 d1
  obtain ⟨d0, d1⟩ := HB2.box2 2 rfl
  go_wp2_with fail
  refine (cS.out _ _ _ (HB2.argN HNX.out) (HB2.argN HNY.out)).mono ?_
  rintro e w3 ⟨vw, rfl, ho, hbl⟩
  have H3 := HB2.newN ho hbl
  obtain ⟨wp, wc, rfl, _, _⟩ := (H3.nums 0 rfl).slice
  have HB3 := H3.boxed 25 [.slice wp G.length wc, .int .i64 g]
  clear HB2 H3 ho hbl d0 d1 cI cS
  obtain ⟨d0, d1⟩ := HB3.box2 4 rfl
  obtain ⟨o0, o1⟩ := HB3.box2 2 rfl
  obtain ⟨n0, n1⟩ := HB3.box2 0 rfl
  go_wp2_with fail
  refine (equalD_T HB3 (HB3.nums 3 rfl) (HB3.nums 1 rfl)).mono ?_
  rintro e w4 ⟨rfl, H4⟩
  clear HB3 d0 d1 o0 o1 n0 n1
  obtain ⟨d0, d1⟩ := H4.box2 4 rfl
  obtain ⟨o0, o1⟩ := H4.box2 2 rfl
  obtain ⟨n0, n1⟩ := H4.box2 0 rfl
  cases B
  · go_wp2_with fail
    refine (equalD_T H4 (H4.nums 3 rfl) (H4.nums 1 rfl)).mono ?_
    rintro e w5 ⟨rfl, H5⟩
    go_wp2
    go_ret
    exact ⟨rfl, HBL.out.trans (H5.below.mono hs1)⟩
  · have hp := hB.out.symm
    have hGe : G = exfL xs ys m := by rw [hG.out, hp]; rfl
    have hge : g = m := by rw [hg.out, hp]; rfl
    obtain ⟨t1, t2⟩ := xf_turned hp
    obtain ⟨hv, -, hv3⟩ := exf_parts hp
    have c3 := Lib.hid (fun (v : Value) (w : World) (h : Nums w v xs) => (show Calls Try.prog 22 #[.agg #[v, .int .i64 m]] w (NewE xs.reverse m w) by
      have h1 := TurnDeque_any v xs m w h
      have e1 : tdB xs m = true := hv
      rw [e1] at h1
      exact h1))
    have c4 := Lib.hid (fun (v u : Value) (w : World) (h : Nums w v xs.reverse) (h' : Nums w u ys) => (show Calls Try.prog 14 #[.agg #[v, .int .i64 m], u] w (NewD G.reverse m true w) by
      have h1 := ExtendBack_any v u xs.reverse ys m w h h'
      rw [t1, t2, ← hGe] at h1
      exact h1))
    have c6 := Lib.hid (fun (v : Value) (w : World) (h : Nums w v G.reverse) => (show Calls Try.prog 22 #[.agg #[v, .int .i64 m]] w (NewE G g w) by
      have h1 := TurnDeque_any v G.reverse m w h
      have e1 : tdB G.reverse m = true := by unfold tdB; rw [validD_rev, hGe]; exact hv3
      rw [e1, List.reverse_reverse] at h1
      rw [hge]
      exact h1))
    clear hp hGe hge hG hg hB t1 t2 hv hv3
    go_wp2_with fail
    refine (c3.out _ _ (H4.argN HNX.out)).mono ?_
    rintro e w5 ⟨vt, rfl, ho, hbl⟩
    have H5 := H4.newN ho hbl
    clear H4 ho hbl d0 d1 o0 o1 n0 n1
    go_wp2_with fail
    refine (c4.out _ _ _ (H5.nums 0 rfl) (H5.argN HNY.out)).mono ?_
    rintro e w6 ⟨vb, rfl, ho, hbl⟩
    have H6 := H5.newN ho hbl
    obtain ⟨bp, bc, rfl, _, _⟩ := (H6.nums 0 rfl).slice
    simp only [List.length_reverse] at H6
    have HB6 := H6.boxed 25 [.slice bp G.length bc, .int .i64 m]
    clear H5 H6 ho hbl
    have HD6 := HB6.quiet (Below.refl _ _).drew
    go_wp2_with fail
    go_region_held3 (fun w' : World => (w'.cell? ⟨w6.heap.size, 0, none⟩ = some (.slice bp G.length bc) ∧ w'.cell? ⟨w6.heap.size, 1, none⟩ = some (.int .i64 m)) ∧ (w'.cell? ⟨w2.heap.size, 0, none⟩ = some (.slice op G.length oc) ∧ w'.cell? ⟨w2.heap.size, 1, none⟩ = some (.int .i64 g)))
      (first | exact ⟨HB6.box2 0 rfl, HB6.box2 5 rfl⟩ | assumption | exact hS7 | exact hS8)
      (first
        | (go_at_call 22; refine (c6.out _ _ (HD6.nums 1 rfl)).mono ?_; rintro e w7 ⟨v7, rfl, ho, hbl⟩; have H7 := HD6.newN ho hbl; clear ho hbl; have hS7 := And.intro (H7.box2 1 rfl) (H7.box2 6 rfl))
        | (go_at_call 16; refine (equalD_T H7 (H7.nums 0 rfl) (H7.nums 7 rfl)).mono ?_; rintro e w8 ⟨rfl, H8⟩; have hS8 := And.intro (H8.box2 1 rfl) (H8.box2 6 rfl)))
    go_wp2
    go_ret
    exact ⟨rfl, HBL.out.trans (H8.below.mono hs1)⟩

set_option maxRecDepth 100000 in
theorem FnExtendFront_lifted (os : Os) (started : os.Started) (H : Type) (enc : TypeId × Value → H) :
    ReturnsInHanded {} Try.checked os 4 .any (Rows.fnExtendFrontSpec.pre6 enc Try.prog Try.f4 Rows.fnExtendFrontRow.domain false) (Rows.fnExtendFrontSpec.post enc Try.prog Try.f4 false true false false) := by
  refine returnsInHanded_of_change (C := Try.checked) own started (by kernel_rfl) Try.func4
    (ChangeSpec.witness6 (enc := enc) (C := Try.checked) false ⟨#[], #[.slice none 0 0], []⟩ 8 (by kernel_rfl) (by kernel_rfl) (by kernel_rfl) (by kernel_rfl)) ?_
  intro W base args ds gs before hval0 hW _ _
  have hval : ∀ (j : Nat) t v, Try.f4.params[j]? = some t → args[j]? = some v → Value.okWide Try.prog W .any base t v := hval0
  have hW' := hW
  obtain ⟨p, q, hA0, hV, rfl, _, _⟩ := hW
  have hA : DataW.TrodAll enc Try.prog W 0 (fun _ => true) true Try.f4.params.toList args.toList ds p := hA0
  rw [Try.params4] at hA hval
  obtain ⟨v0, vs0, d0, ds0, p0, q0, hargs, rfl, rfl, h0, r0⟩ := trodAll_cons hA
  obtain ⟨rfl, rfl, rfl⟩ := trodAll_nil r0
  obtain rfl : args = #[v0] := by cases args; simp_all
  obtain ⟨rfl, rfl⟩ := trodVars_none hV
  obtain ⟨xs0, hI0⟩ := open_bytes (hval 0 _ v0 rfl rfl) h0
  refine (FnExtendFront_walk v0 xs0 W hI0).mono fun e W' ⟨he, hb⟩ => ⟨_, he, ?_⟩
  exact law_end rfl (by rw [Try.params4]; decide +kernel) rfl hW' rfl rfl rfl hb

theorem FnExtendFront_facts : joinedFacts Try.prog 4 Try.f4 Rows.fnExtendFrontSpec Rows.fnExtendFrontRow = true :=
  facts_of (by kernel_rfl) q2 q3 (by kernel_rfl) (by kernel_rfl) (by kernel_rfl) q7 (by kernel_rfl) q9 (by kernel_rfl) (by kernel_rfl) (by kernel_rfl) (by kernel_rfl) (by kernel_rfl) (by kernel_rfl) (by kernel_rfl) (by kernel_rfl) (by kernel_rfl) (by kernel_rfl) (by kernel_rfl) (by kernel_rfl) (by kernel_rfl)
    (by rw [q22]; kernel_rfl) (by kernel_rfl) q23 head_enter (by kernel_rfl) head_lifts head_make (by kernel_rfl) (by kernel_rfl) (by kernel_rfl) (by kernel_rfl) (by kernel_rfl)

theorem FnExtendFront_holds : Rows.FnExtendFrontSaid :=
  OpenClaim.holds_of_wide 4 Try.f4 rfl rfl rfl rfl rfl rfl rfl ⟨rfl, rfl, rfl, rfl, rfl⟩ rfl rfl rfl rfl rfl (by kernel_rfl) Try.func4 FnExtendFront_facts
    (of_decide_eq_true (by kernel_rfl)) (by unfold Func.isWrapper; first | (rw [if_pos (by decide +kernel)]; kernel_rfl) | (rw [if_neg (by decide +kernel)]; exact ⟨rfl, rfl⟩))
    (fun os started H enc _ => FnExtendFront_lifted os started H enc)
end Go.Proofs.Ytcipkdegcplmcaa
