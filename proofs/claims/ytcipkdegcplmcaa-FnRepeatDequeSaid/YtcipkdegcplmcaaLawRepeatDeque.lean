/-
  FnRepeatDeque: true, for every code.
-/
import Derived.Test.YtcipkdegcplmcaaLwN
import Derived.Test.YtcipkdegcplmcaaOpenB
import Derived.Test.YtcipkdegcplmcaaDqRp
import Derived.Test.YtcipkdegcplmcaaDqP
namespace Go.Proofs.Ytcipkdegcplmcaa
open Go.RowKit
open Go.ChangeShapes Go.WideShapes Go.ChangeAt Go.Deep

set_option linter.unusedSimpArgs false in
set_option maxHeartbeats 800000 in
theorem DrawRepeatDeque_any (v : Value) (bs : List Int) (w : World) (h : Bytes w v bs) :
    Calls Try.prog 43 #[v] w fun e w' => ∃ v' xs m x, e = .returned (.tuple #[.agg #[v', .int .i64 m], .int .i64 x]) ∧ OwnN w.heap.size w'.heap.size w' v' xs ∧ (xs.length ≤ 11 ∧ nearL xs ∧ -2 ≤ m ∧ m ≤ 11) ∧ (-1 ≤ x ∧ x ≤ 11) ∧ Below w.heap.size w w' := by
  have hb0 : Below w.heap.size w (w.alloc (.cells #[.slice none 0 0, .int .i64 0] 25)) := (Below.refl _ _).alloc (Nat.le_refl _) _
  have HR := Lib.hid (heap_new w (.cells #[.slice none 0 0, .int .i64 0] 25))
  go_enter Try.func43, Try.ntmps43
  go_wp2_with fail
  refine (newReader_any v bs _ (h.below hb0)).mono ?_
  rintro e w1 ⟨r, rfl, hr, hR1, hb1⟩
  have hs1 := hb1.size
  simp at hs1 hb1 hr
  go_wp2_with fail
  refine (someDeque_any r 0 w1 hR1 (by omega)).mono ?_
  rintro e w2 ⟨v2, xs, m, rfl, hb, hown, hR2, hk2⟩
  obtain ⟨xo, xcap, rfl, _, _⟩ := hown.nums.slice
  have hlt := hR1.lt
  have hs2 := hk2.size
  go_wp2_with fail
  refine (one_lit r _ [2, 1, 3, 0, 10, 11, -1] w2 hR2 (by omega) (by decide) (by decide) rfl rfl).mono ?_
  rintro e w3 ⟨x, hx, rfl, hR3, hk3⟩
  have hx2 : -1 ≤ x ∧ x ≤ 11 := by simp at hx; omega
  clear hx
  have hown3 := hown.keeps (hk3.mono fun j hj => ⟨hj.2, by have := hj.1; omega⟩)
  have hk23 := RK.trans hk2 hk3
  have hs3 := hk3.size
  have R2 := (hk23.block _ ⟨by omega, by omega⟩).trans ((hb1.block _ (by omega)).trans HR.out)
  have HBB : Hid (Below w.heap.size w w3) := (hb0.trans (hb1.mono (by omega))).trans (Keeps.below hk23 (fun k hk => ⟨by omega, by omega⟩))
  have HO := Lib.hid hown3
  have s0 := two_cell0 R2
  have s1 := two_cell1 R2
  have t0 := two_free R2
  clear R2 hk23 hown3 hb1 hR1
  go_wp2
  exact bodyPost_ret (v := .tuple #[.agg #[.slice xo xs.length xcap, .int .i64 m], .int .i64 x]) (by simp [results, Try.results43, go_sem, s0, s1]) rfl ⟨_, _, _, _, rfl, (HO.out.keeps (((Keeps.refl _ _).setCell (by simp [In]; omega) _).setCell (by simp [In]; omega) _)).wide (by omega) (by simp <;> omega), hb, hx2, (HBB.out.setCell (by simp) _).setCell (by simp) _⟩

theorem fitB_app (a b : List Int) (m : Int) : fitB (fitB a m ++ b) m = fitB (a ++ b) m := by
  by_cases h : 0 ≤ m ∧ m < (a.length : Int)
  · obtain ⟨k, rfl⟩ := Int.eq_ofNat_of_zero_le h.1
    have hk : k < a.length := by omega
    have e : fitB a (k : Int) = a.drop (a.length - k) := by unfold fitB; rw [if_pos h]; rfl
    have e2 : a.drop (a.length - k) ++ b = (a ++ b).drop (a.length - k) := (List.drop_append_of_le_length (by omega)).symm
    rw [e, e2]
    unfold fitB
    have l1 : ((a ++ b).drop (a.length - k)).length = k + b.length := by rw [List.length_drop, List.length_append]; omega
    rw [l1, List.length_append, if_pos (show 0 ≤ (k : Int) ∧ (k : Int) < ((a.length + b.length : Nat) : Int) from ⟨by omega, by omega⟩)]
    by_cases hb : b.length = 0
    · rw [if_neg (by omega)]
      congr 1
      omega
    · rw [if_pos (by omega), List.drop_drop]
      congr 1
      omega
  · have e : fitB a m = a := by unfold fitB; rw [if_neg h]
    rw [e]
theorem rp_parts {xs : List Int} {m n : Int} (h : rpB xs m n = true) : validD xs m = true ∧ (0 ≤ n ∧ n ≤ 10) ∧ validD (rpL xs m n) m = true := by
  unfold rpB rgB10 at h
  rw [Bool.and_eq_true, Bool.and_eq_true, Bool.and_eq_true, decide_eq_true_eq, decide_eq_true_eq] at h
  exact ⟨h.1.1, h.1.2, h.2⟩
theorem rp_more {xs : List Int} {m n : Int} (h : rpB xs m n = true) (hn : n < 10) : extL (rpL xs m n) xs m = rpL xs m (n + 1) ∧ adB (rpL xs m n) xs m m = rpB xs m (n + 1) := by
  obtain ⟨hv, hr, hv2⟩ := rp_parts h
  obtain ⟨k, rfl⟩ := Int.eq_ofNat_of_zero_le hr.1
  have e : extL (rpL xs m (k : Int)) xs m = rpL xs m ((k : Int) + 1) := by
    unfold extL rpL
    rw [fitB_app, show ((k : Int) + 1).toNat = k + 1 by omega, Int.toNat_natCast]
    rfl
  refine ⟨e, ?_⟩
  have ha : areN xs = true := areN_iff.2 ⟨validD_len hv, validD_all hv⟩
  have hr2 : rgB10 ((k : Int) + 1) = true := by
    unfold rgB10
    rw [decide_eq_true (show (0 : Int) ≤ (k : Int) + 1 by omega), decide_eq_true (show (k : Int) + 1 ≤ 10 by omega)]
    rfl
  unfold adB extB rpB
  rw [e, hv, hv2, ha, hr2]
  rfl

set_option maxHeartbeats 3200000 in
set_option maxRecDepth 100000 in
theorem FnRepeatDeque_walk (v : Value) (bs : List Int) (w : World) (h : Bytes w v bs) :
    Calls Try.prog 10 #[v] w fun e w' => e = .returned (.bool true) ∧ Below w.heap.size w w' := by
  have h0 := h
  obtain ⟨ao, cap, rfl, hl, hc, hok, hcell⟩ := h0
  clear hcell hok
  go_enter Try.func10, Try.ntmps10
  by_cases hbig : (1048576 : Int) < (bs.length : Int)
  · go_wp2
    go_ret
    exact ⟨rfl, Below.refl _ _⟩
  go_wp2_with fail
  refine (DrawRepeatDeque_any _ bs w h).mono ?_
  rintro e w1 ⟨vd, xs, m, x, rfl, ho, hb, hx, hbl⟩
  have H1 := (Things.nil w).new (t := numT w.heap.size w1.heap.size vd xs) (Nat.le_refl _) (Nat.le_refl _) ho hbl
  obtain ⟨dp, dc, rfl, hdc, hdm⟩ := (H1.nums 0 rfl).slice
  have HB1 := H1.boxed 25 [.slice dp xs.length dc, .int .i64 m]
  obtain ⟨d0, d1⟩ := HB1.box2 0 rfl
  obtain ⟨G, hG⟩ : ∃ G, Hid (G = ifN (rpB xs m x) (rpL xs m x)) := ⟨_, rfl⟩
  obtain ⟨g, hg⟩ : ∃ g, Hid (g = ifI (rpB xs m x) m) := ⟨_, rfl⟩
  obtain ⟨B, hB⟩ : ∃ B, Hid (B = rpB xs m x) := ⟨_, rfl⟩
  have cI := Lib.hid (fun (v : Value) (w : World) (h : Nums w v xs) => (show Calls Try.prog 38 #[.agg #[v, .int .i64 m], .int .i64 x] w (NewD G g B w) by rw [hG.out, hg.out, hB.out]; exact RepeatDeque_any v xs m x w h (by omega)))
  have cS := Lib.hid (fun (v : Value) (w : World) (h : Nums w v xs) => (show Calls Try.prog 44 #[.agg #[v, .int .i64 m], .int .i64 x] w (NewD G g B w) by rw [hG.out, hg.out, hB.out]; exact sRepeatDeque_any v xs m x w h (by omega)))
  clear ho hbl H1 h
  go_wp2_with fail
  refine (cI.out _ _ (HB1.nums 1 rfl)).mono ?_
  rintro e w2 ⟨vo, rfl, ho, hbl⟩
  have H2 := HB1.newN ho hbl
  obtain ⟨op, oc, rfl, _, _⟩ := (H2.nums 0 rfl).slice
  have HB2 := H2.boxed 25 [.slice op G.length oc, .int .i64 g]
  clear HB1 H2 ho hbl d0 d1
  obtain ⟨d0, d1⟩ := HB2.box2 2 rfl
  go_wp2_with fail
  refine (cS.out _ _ (HB2.nums 3 rfl)).mono ?_
  rintro e w3 ⟨vw, rfl, ho, hbl⟩
  have H3 := HB2.newN ho hbl
  obtain ⟨wp, wc, rfl, _, _⟩ := (H3.nums 0 rfl).slice
  have HB3 := H3.boxed 25 [.slice wp G.length wc, .int .i64 g]
  clear HB2 H3 ho hbl d0 d1 cI cS
  obtain ⟨d0, d1⟩ := HB3.box2 4 rfl
  obtain ⟨o0, o1⟩ := HB3.box2 2 rfl
  obtain ⟨n0, n1⟩ := HB3.box2 0 rfl
  go_wp2_with fail
  refine (equalD_T HB3 (HB3.nums 3 rfl) (HB3.nums 1 rfl)).mono ?_
  rintro e w4 ⟨rfl, H4⟩
  clear HB3 d0 d1 o0 o1 n0 n1
  obtain ⟨d0, d1⟩ := H4.box2 4 rfl
  obtain ⟨o0, o1⟩ := H4.box2 2 rfl
  obtain ⟨n0, n1⟩ := H4.box2 0 rfl
  cases B
  · go_wp2_with fail
    refine (equalD_T H4 (H4.nums 3 rfl) (H4.nums 1 rfl)).mono ?_
    rintro e w5 ⟨rfl, H5⟩
    go_wp2
    go_ret
    exact ⟨rfl, H5.below⟩
  · have hp := hB.out.symm
    obtain ⟨hv, hr, -⟩ := rp_parts hp
    have hGe : G = rpL xs m x := by rw [hG.out, hp]; rfl
    have hge : g = m := by rw [hg.out, hp]; rfl
    obtain ⟨M, mg, P, c3, S, sg, Q, c4, hPQ⟩ : ∃ M mg P, Hid (∀ (v : Value) (w : World), Nums w v xs → Calls Try.prog 38 #[.agg #[v, .int .i64 m], .int .i64 (x + 1)] w (NewD M mg P w)) ∧ ∃ S sg Q, Hid (∀ (v u : Value) (w : World), Nums w v G → Nums w u xs → Calls Try.prog 41 #[.agg #[v, .int .i64 g], .agg #[u, .int .i64 m]] w (NewD S sg Q w)) ∧ (x < 10 → P = Q ∧ (P = true → M = S ∧ mg = sg)) := by
      refine ⟨_, _, _, fun v w h => RepeatDeque_any v xs m (x + 1) w h (by omega), _, _, _, fun v u w h h' => by rw [hGe] at h; rw [hge]; exact AddDeques_any v u (rpL xs m x) xs m m w h h', fun hx10 => ?_⟩
      obtain ⟨t1, t2⟩ := rp_more hp hx10
      rw [t1, t2]
      exact ⟨rfl, fun _ => ⟨rfl, rfl⟩⟩
    have hxw : IntKind.i64.wrap (x + 1) = x + 1 := IntWalk.i64_in _ (by omega)
    clear hp hv hGe hge hG hg hB
    go_wp2_with fail
    refine (c3.out _ _ (H4.nums 5 rfl)).mono ?_
    rintro e w5 ⟨vb, rfl, ho, hbl⟩
    have H5 := H4.newN ho hbl
    obtain ⟨bp, bc, rfl, _, _⟩ := (H5.nums 0 rfl).slice
    have HB5 := H5.boxed 25 [.slice bp M.length bc, .int .i64 mg]
    clear H4 H5 ho hbl d0 d1 o0 o1 n0 n1
    obtain ⟨d0, d1⟩ := HB5.box2 6 rfl
    obtain ⟨o0, o1⟩ := HB5.box2 4 rfl
    go_wp2_with fail
    refine (c4.out _ _ _ (HB5.nums 5 rfl) (HB5.nums 7 rfl)).mono ?_
    rintro e w6 ⟨vs, rfl, ho, hbl⟩
    have H6 := HB5.newN ho hbl
    obtain ⟨sp, sc, rfl, _, _⟩ := (H6.nums 0 rfl).slice
    have HB6 := H6.boxed 25 [.slice sp S.length sc, .int .i64 sg]
    clear HB5 H6 ho hbl d0 d1 o0 o1 c3 c4
    obtain ⟨m0, m1⟩ := HB6.box2 2 rfl
    obtain ⟨s0, s1⟩ := HB6.box2 0 rfl
    by_cases hx10 : x < 10
    · obtain ⟨rfl, hMS⟩ := hPQ hx10
      cases P
      · clear hMS hPQ
        go_wp2
        go_ret
        exact ⟨rfl, HB6.below⟩
      · obtain ⟨rfl, rfl⟩ := hMS rfl
        clear hMS hPQ
        go_wp2_with fail
        refine (equalD_T HB6 (HB6.nums 3 rfl) (HB6.nums 1 rfl)).mono ?_
        rintro e w7 ⟨rfl, H7⟩
        go_wp2
        go_ret
        exact ⟨rfl, H7.below⟩
    · have hx10' : (10 : Int) ≤ x := by omega
      clear hPQ
      go_wp2
      go_ret
      exact ⟨rfl, HB6.below⟩

set_option maxRecDepth 100000 in
theorem FnRepeatDeque_lifted (os : Os) (started : os.Started) (H : Type) (enc : TypeId × Value → H) :
    ReturnsInHanded {} Try.checked os 10 .any (Rows.fnRepeatDequeSpec.pre6 enc Try.prog Try.f10 Rows.fnRepeatDequeRow.domain false) (Rows.fnRepeatDequeSpec.post enc Try.prog Try.f10 false true false false) := by
  refine returnsInHanded_of_change (C := Try.checked) own started (by kernel_rfl) Try.func10
    (ChangeSpec.witness6 (enc := enc) (C := Try.checked) false ⟨#[], #[.slice none 0 0], []⟩ 8 (by kernel_rfl) (by kernel_rfl) (by kernel_rfl) (by kernel_rfl)) ?_
  intro W base args ds gs before hval0 hW _ _
  have hval : ∀ (j : Nat) t v, Try.f10.params[j]? = some t → args[j]? = some v → Value.okWide Try.prog W .any base t v := hval0
  have hW' := hW
  obtain ⟨p, q, hA0, hV, rfl, _, _⟩ := hW
  have hA : DataW.TrodAll enc Try.prog W 0 (fun _ => true) true Try.f10.params.toList args.toList ds p := hA0
  rw [Try.params10] at hA hval
  obtain ⟨v0, vs0, d0, ds0, p0, q0, hargs, rfl, rfl, h0, r0⟩ := trodAll_cons hA
  obtain ⟨rfl, rfl, rfl⟩ := trodAll_nil r0
  obtain rfl : args = #[v0] := by cases args; simp_all
  obtain ⟨rfl, rfl⟩ := trodVars_none hV
  obtain ⟨xs0, hI0⟩ := open_bytes (hval 0 _ v0 rfl rfl) h0
  refine (FnRepeatDeque_walk v0 xs0 W hI0).mono fun e W' ⟨he, hb⟩ => ⟨_, he, ?_⟩
  exact law_end rfl (by rw [Try.params10]; decide +kernel) rfl hW' rfl rfl rfl hb

theorem FnRepeatDeque_facts : joinedFacts Try.prog 10 Try.f10 Rows.fnRepeatDequeSpec Rows.fnRepeatDequeRow = true :=
  facts_of (by kernel_rfl) q2 q3 (by kernel_rfl) (by kernel_rfl) (by kernel_rfl) q7 (by kernel_rfl) q9 (by kernel_rfl) (by kernel_rfl) (by kernel_rfl) (by kernel_rfl) (by kernel_rfl) (by kernel_rfl) (by kernel_rfl) (by kernel_rfl) (by kernel_rfl) (by kernel_rfl) (by kernel_rfl) (by kernel_rfl) (by kernel_rfl)
    (by rw [q22]; kernel_rfl) (by kernel_rfl) q23 head_enter (by kernel_rfl) head_lifts head_make (by kernel_rfl) (by kernel_rfl) (by kernel_rfl) (by kernel_rfl) (by kernel_rfl)

theorem FnRepeatDeque_holds : Rows.FnRepeatDequeSaid :=
  OpenClaim.holds_of_wide 10 Try.f10 rfl rfl rfl rfl rfl rfl rfl ⟨rfl, rfl, rfl, rfl, rfl⟩ rfl rfl rfl rfl rfl (by kernel_rfl) Try.func10 FnRepeatDeque_facts
    (of_decide_eq_true (by kernel_rfl)) (by unfold Func.isWrapper; first | (rw [if_pos (by decide +kernel)]; kernel_rfl) | (rw [if_neg (by decide +kernel)]; exact ⟨rfl, rfl⟩))
    (fun os started H enc _ => FnRepeatDeque_lifted os started H enc)
end Go.Proofs.Ytcipkdegcplmcaa
