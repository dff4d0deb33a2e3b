/-
  FnCountIn: true, for every code.
-/
import Derived.Test.YtcipkdegcplmcaaLwN
import Derived.Test.YtcipkdegcplmcaaOpenB
import Derived.Test.YtcipkdegcplmcaaDqRp
import Derived.Test.YtcipkdegcplmcaaDqRo
namespace Go.Proofs.Ytcipkdegcplmcaa
open Go.RowKit
open Go.ChangeShapes Go.WideShapes Go.ChangeAt Go.Deep

set_option linter.unusedSimpArgs false in
set_option maxHeartbeats 800000 in
theorem DrawCountIn_any (v : Value) (bs : List Int) (w : World) (h : Bytes w v bs) :
    Calls Try.prog 34 #[v] w fun e w' => ∃ v' xs m x, e = .returned (.tuple #[.agg #[v', .int .i64 m], .int .i64 x]) ∧ OwnN w.heap.size w'.heap.size w' v' xs ∧ (xs.length ≤ 11 ∧ nearL xs ∧ -2 ≤ m ∧ m ≤ 11) ∧ (-9223372036854775808 ≤ x ∧ x ≤ 9223372036854775807) ∧ Below w.heap.size w w' := by
  have hb0 : Below w.heap.size w (w.alloc (.cells #[.slice none 0 0, .int .i64 0] 25)) := (Below.refl _ _).alloc (Nat.le_refl _) _
  have HR := Lib.hid (heap_new w (.cells #[.slice none 0 0, .int .i64 0] 25))
  go_enter Try.func34, Try.ntmps34
  go_wp2_with fail
  refine (DrawRemoveFirst_any v bs _ (h.below hb0)).mono ?_
  rintro e w1 ⟨v1, xs, m, x, rfl, hown, hb, hx, hb1⟩
  obtain ⟨xo, xcap, rfl, _, _⟩ := hown.nums.slice
  have hs1 := hb1.size
  simp at hs1 hb1 hown
  have R2 := (hb1.block _ (by omega)).trans HR.out
  have HBB : Hid (Below w.heap.size w w1) := hb0.trans (hb1.mono (by omega))
  have HO := Lib.hid hown
  have s0 := two_cell0 R2
  have s1 := two_cell1 R2
  have t0 := two_free R2
  clear R2 hown hb1
  go_wp2
  exact bodyPost_ret (v := .tuple #[.agg #[.slice xo xs.length xcap, .int .i64 m], .int .i64 x]) (by simp [results, Try.results34, go_sem, s0, s1]) rfl ⟨_, _, _, _, rfl, (HO.out.keeps (((Keeps.refl _ _).setCell (by simp [In] <;> omega) _).setCell (by simp [In] <;> omega) _)).wide (by omega) (by simp <;> omega), hb, hx, (HBB.out.setCell (by simp) _).setCell (by simp) _⟩

theorem ct_valid {xs ys : List Int} {m : Int} (h : validD xs m = true) (hl : ys.length = xs.length) (hm : ∀ y ∈ ys, y ∈ xs) : validD ys m = true := by
  have h1 := validD_iff.1 h
  exact validD_iff.2 ⟨allN_iff.2 fun y hy => allN_iff.1 h1.1 y (hm y hy), h1.2.1, by omega, h1.2.2.2.imp id (by omega)⟩
theorem rd_len (xs : List Int) (n : Int) : (rdL xs n).length = xs.length := by
  unfold rdL
  rw [List.length_append, List.length_drop, List.length_take]
  omega
theorem rd_mem {xs : List Int} {n : Int} {y : Int} (h : y ∈ rdL xs n) : y ∈ xs := by
  unfold rdL at h
  rcases List.mem_append.1 h with h | h
  · exact List.mem_of_mem_drop h
  · exact List.mem_of_mem_take h
theorem rd_count (xs : List Int) (n x : Int) : cntN (rdL xs n) x = cntN xs x := by
  unfold rdL cntN
  rw [List.count_append, Nat.add_comm, ← List.count_append, List.take_append_drop]
theorem ct_turn {xs : List Int} {m : Int} (h : validD xs m = true) (x : Int) : cntD xs.reverse m x = cntD xs m x := by
  unfold cntD
  rw [ct_valid h List.length_reverse (fun y hy => List.mem_reverse.1 hy), h, if_pos rfl, if_pos rfl]
  unfold cntN
  rw [List.count_reverse]
theorem ct_rot {xs : List Int} {m : Int} (h : validD xs m = true) (n x : Int) : cntD (rdL xs n) m x = cntD xs m x := by
  unfold cntD
  rw [ct_valid h (rd_len xs n) (fun y hy => rd_mem hy), h, if_pos rfl, if_pos rfl, rd_count]
theorem ct_rep {xs : List Int} {m : Int} (h : validD xs m = true) (hp : rpB xs (-1) 2 = true) (x : Int) : cntD (rpL xs (-1) 2) (-1) x = 2 * cntD xs m x := by
  unfold rpB at hp
  rw [Bool.and_eq_true] at hp
  unfold cntD
  rw [hp.2, h, if_pos rfl, if_pos rfl]
  have e : rpL xs (-1) 2 = xs ++ xs := by
    unfold rpL fitB
    rw [if_neg (by omega)]
    show repN xs 2 = _
    rfl
  rw [e]
  unfold cntN
  rw [List.count_append]
  omega
theorem ct_bd {xs : List Int} {m : Int} (h : validD xs m = true) (x : Int) : 0 ≤ cntD xs m x ∧ cntD xs m x ≤ 10 := by
  unfold cntD
  rw [h, if_pos rfl]
  have h1 := cntN_le xs x
  have h2 := validD_len h
  omega

set_option maxHeartbeats 3200000 in
set_option maxRecDepth 100000 in
theorem FnCountIn_walk (v : Value) (bs : List Int) (w : World) (h : Bytes w v bs) :
    Calls Try.prog 8 #[v] w fun e w' => e = .returned (.bool true) ∧ Below w.heap.size w w' := by
  have h0 := h
  obtain ⟨ao, cap, rfl, hl, hc, hok, hcell⟩ := h0
  clear hcell hok
  go_enter Try.func8, Try.ntmps8
  by_cases hbig : (1048576 : Int) < (bs.length : Int)
  · go_wp2
    go_ret
    exact ⟨rfl, Below.refl _ _⟩
  go_wp2_with fail
  refine (DrawCountIn_any _ bs w h).mono ?_
  rintro e w1 ⟨vd, xs, m, x, rfl, ho, hb, hx, hbl⟩
  have H1 := (Things.nil w).new (t := numT w.heap.size w1.heap.size vd xs) (Nat.le_refl _) (Nat.le_refl _) ho hbl
  obtain ⟨dp, dc, rfl, hdc, hdm⟩ := (H1.nums 0 rfl).slice
  have HB1 := H1.boxed 25 [.slice dp xs.length dc, .int .i64 m]
  obtain ⟨d0, d1⟩ := HB1.box2 0 rfl
  obtain ⟨N, hN⟩ : ∃ N, Hid (N = cntD xs m x) := ⟨_, rfl⟩
  have cI := Lib.hid (fun (v : Value) (w : World) (h : Nums w v xs) => (show Calls Try.prog 35 #[.agg #[v, .int .i64 m], .int .i64 x] w (RetN (.int .i64 N) w) by rw [hN.out]; exact CountIn_any v xs m x w h))
  have cS := Lib.hid (fun (v : Value) (w : World) (h : Nums w v xs) => (show Calls Try.prog 36 #[.agg #[v, .int .i64 m], .int .i64 x] w (RetN (.int .i64 N) w) by rw [hN.out]; exact sCountIn_any v xs m x w h))
  clear ho hbl H1 h
  go_wp2_with fail
  refine (cI.out _ _ (HB1.nums 1 rfl)).mono ?_
  rintro e w2 ⟨rfl, hbl⟩
  have H2 := HB1.quiet hbl
  clear HB1 hbl d0 d1
  obtain ⟨d0, d1⟩ := H2.box2 0 rfl
  go_wp2_with fail
  refine (cS.out _ _ (H2.nums 1 rfl)).mono ?_
  rintro e w3 ⟨rfl, hbl⟩
  have H3 := H2.quiet hbl
  clear H2 hbl d0 d1
  obtain ⟨d0, d1⟩ := H3.box2 0 rfl
  cases hv : validD xs m
  all_goals
    have HV := Lib.hid hv
    clear hv
    go_wp2_with fail
    refine (VD_v _ (H3.nums 1 rfl) HV.out).mono ?_
    rintro e w4 ⟨rfl, hbl⟩
    have H4 := H3.quiet hbl
    clear H3 hbl d0 d1
    obtain ⟨d0, d1⟩ := H4.box2 0 rfl
  · go_wp2_with fail
    refine (cS.out _ _ (H4.nums 1 rfl)).mono ?_
    rintro e w5 ⟨rfl, hbl⟩
    have H5 := H4.quiet hbl
    go_wp2
    go_ret
    exact ⟨rfl, H5.below⟩
  · have hNb := ct_bd HV.out x
    rw [← hN.out] at hNb
    have hmul : IntKind.i64.wrap (2 * N) = 2 * N := IntWalk.i64_in _ (by omega)
    obtain ⟨T, tg, P, cP, hP⟩ : ∃ T tg P, Hid (∀ (v : Value) (w : World), Nums w v xs → Calls Try.prog 38 #[.agg #[v, .int .i64 (-1)], .int .i64 2] w (NewD T tg P w)) ∧ (P = true → Hid (∀ (v : Value) (w : World), Nums w v T → Calls Try.prog 35 #[.agg #[v, .int .i64 tg], .int .i64 x] w (RetN (.int .i64 (2 * N)) w))) := by
      refine ⟨_, _, _, fun v w h => RepeatDeque_any v xs (-1) 2 w h (by omega), fun hp => fun v w h => ?_⟩
      rw [hp] at h ⊢
      have h1 := CountIn_any v (rpL xs (-1) 2) (-1) x w h
      rw [ct_rep HV.out hp, ← hN.out] at h1
      exact h1
    have cT := Lib.hid (fun (v : Value) (w : World) (h : Nums w v xs) => (show Calls Try.prog 22 #[.agg #[v, .int .i64 m]] w (NewE xs.reverse m w) by
      have h1 := TurnDeque_any v xs m w h
      have e1 : tdB xs m = true := HV.out
      rw [e1] at h1
      exact h1))
    have cR := Lib.hid (fun (v : Value) (w : World) (h : Nums w v xs) => (show Calls Try.prog 39 #[.agg #[v, .int .i64 m], .int .i64 2] w (NewE (rdL xs 2) m w) by
      have h1 := RotateDeque_any v xs m 2 w h (by omega)
      have e1 : tdB xs m = true := HV.out
      rw [e1] at h1
      exact h1))
    have cC1 := Lib.hid (fun (v : Value) (w : World) (h : Nums w v xs.reverse) => (show Calls Try.prog 35 #[.agg #[v, .int .i64 m], .int .i64 x] w (RetN (.int .i64 N) w) by
      have h1 := CountIn_any v xs.reverse m x w h
      rw [ct_turn HV.out, ← hN.out] at h1
      exact h1))
    have cC2 := Lib.hid (fun (v : Value) (w : World) (h : Nums w v (rdL xs 2)) => (show Calls Try.prog 35 #[.agg #[v, .int .i64 m], .int .i64 x] w (RetN (.int .i64 N) w) by
      have h1 := CountIn_any v (rdL xs 2) m x w h
      rw [ct_rot HV.out, ← hN.out] at h1
      exact h1))
    clear cI cS HV hN hNb
    go_wp2_with fail
    refine (cP.out _ _ (H4.nums 1 rfl)).mono ?_
    rintro e w5 ⟨vt, rfl, ho, hbl⟩
    have H5 := H4.newN ho hbl
    obtain ⟨tp, tc, rfl, _, _⟩ := (H5.nums 0 rfl).slice
    have HB5 := H5.boxed 25 [.slice tp T.length tc, .int .i64 tg]
    clear H4 H5 ho hbl d0 d1 cP
    obtain ⟨d0, d1⟩ := HB5.box2 2 rfl
    go_wp2_with fail
    refine (cT.out _ _ (HB5.nums 3 rfl)).mono ?_
    rintro e w6 ⟨vr, rfl, ho, hbl⟩
    have H6 := HB5.newN ho hbl
    clear HB5 ho hbl d0 d1 cT
    go_wp2_with fail
    refine (cC1.out _ _ (H6.nums 0 rfl)).mono ?_
    rintro e w7 ⟨rfl, hbl⟩
    have H7 := H6.quiet hbl
    clear H6 hbl cC1
    obtain ⟨d0, d1⟩ := H7.box2 3 rfl
    go_wp2_with fail
    refine (cR.out _ _ (H7.nums 4 rfl)).mono ?_
    rintro e w8 ⟨vq, rfl, ho, hbl⟩
    have H8 := H7.newN ho hbl
    clear H7 ho hbl d0 d1 cR
    go_wp2_with fail
    refine (cC2.out _ _ (H8.nums 0 rfl)).mono ?_
    rintro e w9 ⟨rfl, hbl⟩
    have H9 := H8.quiet hbl
    clear H8 hbl cC2
    obtain ⟨t0, t1⟩ := H9.box2 2 rfl
    cases P
    · go_wp2
      go_ret
      exact ⟨rfl, H9.below⟩
    · have c9 := hP rfl
      clear hP
      go_wp2_with fail
      refine (c9.out _ _ (H9.nums 3 rfl)).mono ?_
      rintro e w10 ⟨rfl, hbl⟩
      have H10 := H9.quiet hbl
      go_wp2
      go_ret
      exact ⟨rfl, H10.below⟩

set_option maxRecDepth 100000 in
theorem FnCountIn_lifted (os : Os) (started : os.Started) (H : Type) (enc : TypeId × Value → H) :
    ReturnsInHanded {} Try.checked os 8 .any (Rows.fnCountInSpec.pre6 enc Try.prog Try.f8 Rows.fnCountInRow.domain false) (Rows.fnCountInSpec.post enc Try.prog Try.f8 false true false false) := by
  refine returnsInHanded_of_change (C := Try.checked) own started (by kernel_rfl) Try.func8
    (ChangeSpec.witness6 (enc := enc) (C := Try.checked) false ⟨#[], #[.slice none 0 0], []⟩ 8 (by kernel_rfl) (by kernel_rfl) (by kernel_rfl) (by kernel_rfl)) ?_
  intro W base args ds gs before hval0 hW _ _
  have hval : ∀ (j : Nat) t v, Try.f8.params[j]? = some t → args[j]? = some v → Value.okWide Try.prog W .any base t v := hval0
  have hW' := hW
  obtain ⟨p, q, hA0, hV, rfl, _, _⟩ := hW
  have hA : DataW.TrodAll enc Try.prog W 0 (fun _ => true) true Try.f8.params.toList args.toList ds p := hA0
  rw [Try.params8] at hA hval
  obtain ⟨v0, vs0, d0, ds0, p0, q0, hargs, rfl, rfl, h0, r0⟩ := trodAll_cons hA
  obtain ⟨rfl, rfl, rfl⟩ := trodAll_nil r0
  obtain rfl : args = #[v0] := by cases args; simp_all
  obtain ⟨rfl, rfl⟩ := trodVars_none hV
  obtain ⟨xs0, hI0⟩ := open_bytes (hval 0 _ v0 rfl rfl) h0
  refine (FnCountIn_walk v0 xs0 W hI0).mono fun e W' ⟨he, hb⟩ => ⟨_, he, ?_⟩
  exact law_end rfl (by rw [Try.params8]; decide +kernel) rfl hW' rfl rfl rfl hb

theorem FnCountIn_facts : joinedFacts Try.prog 8 Try.f8 Rows.fnCountInSpec Rows.fnCountInRow = true :=
  facts_of (by kernel_rfl) q2 q3 (by kernel_rfl) (by kernel_rfl) (by kernel_rfl) q7 (by kernel_rfl) q9 (by kernel_rfl) (by kernel_rfl) (by kernel_rfl) (by kernel_rfl) (by kernel_rfl) (by kernel_rfl) (by kernel_rfl) (by kernel_rfl) (by kernel_rfl) (by kernel_rfl) (by kernel_rfl) (by kernel_rfl) (by kernel_rfl)
    (by rw [q22]; kernel_rfl) (by kernel_rfl) q23 head_enter (by kernel_rfl) head_lifts head_make (by kernel_rfl) (by kernel_rfl) (by kernel_rfl) (by kernel_rfl) (by kernel_rfl)

theorem FnCountIn_holds : Rows.FnCountInSaid :=
  OpenClaim.holds_of_wide 8 Try.f8 rfl rfl rfl rfl rfl rfl rfl ⟨rfl, rfl, rfl, rfl, rfl⟩ rfl rfl rfl rfl rfl (by kernel_rfl) Try.func8 FnCountIn_facts
    (of_decide_eq_true (by kernel_rfl)) (by unfold Func.isWrapper; first | (rw [if_pos (by decide +kernel)]; kernel_rfl) | (rw [if_neg (by decide +kernel)]; exact ⟨rfl, rfl⟩))
    (fun os started H enc _ => FnCountIn_lifted os started H enc)
end Go.Proofs.Ytcipkdegcplmcaa
