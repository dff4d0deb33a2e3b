/-
  FnTurnDeque: true, for every code.
-/
import Derived.Test.YtfooiijfminlnaaLwN
import Derived.Test.YtfooiijfminlnaaOpenB
import Derived.Deep.RegionHeld3
namespace Go.Proofs.Ytfooiijfminlnaa
open Go.RowKit
open Go.ChangeShapes Go.WideShapes Go.ChangeAt Go.Deep

theorem allN_rev (xs : List Int) : allN xs.reverse = allN xs := by
  rw [Bool.eq_iff_iff, allN_iff, allN_iff]
  simp
theorem validD_rev (xs : List Int) (m : Int) : validD xs.reverse m = validD xs m := by
  unfold validD
  rw [allN_rev, List.length_reverse]
theorem ends_rev {xs : List Int} {m : Int} (h : validD xs m = true) : getV xs.reverse (inD xs.reverse m 0) = getV xs (inD xs m (-1)) ∧ getOk (inD xs.reverse m 0) = getOk (inD xs m (-1)) := by
  unfold inD
  rw [validD_rev, h, if_pos rfl, if_pos rfl, List.length_reverse]
  unfold atI
  cases xs with
  | nil => exact ⟨rfl, rfl⟩
  | cons x r =>
    have h1 : ¬ (-((x :: r).length : Int) ≤ 0 ∧ (0 : Int) ≤ -1) := by omega
    have h2 : (0 : Int) ≤ 0 ∧ (0 : Int) ≤ ((x :: r).length : Int) - 1 := by simp <;> omega
    have h3 : -((x :: r).length : Int) ≤ -1 ∧ (-1 : Int) ≤ -1 := by simp <;> omega
    rw [if_neg h1, if_pos h2, if_pos h3]
    refine ⟨?_, ?_⟩
    · unfold getV
      rw [if_pos (Int.le_refl 0), if_pos (by simp; omega)]
      have e : ((-1 : Int) + ((x :: r).length : Int)).toNat = (x :: r).length - 1 := by simp; omega
      rw [e, List.getD_eq_getElem?_getD, List.getD_eq_getElem?_getD]
      show ((x :: r).reverse[0]?).getD 0 = _
      rw [List.getElem?_reverse (by simp)]
      rfl
    · unfold getOk
      rw [decide_eq_true (Int.le_refl 0), decide_eq_true (by simp; omega)]

set_option maxHeartbeats 8000000 in
set_option maxRecDepth 100000 in
theorem FnTurnDeque_walk (v : Value) (bs : List Int) (w : World) (h : Bytes w v bs) :
    Calls Try.prog 3 #[v] w fun e w' => e = .returned (.bool true) ∧ Below w.heap.size w w' := by
  have h0 := h
  obtain ⟨ao, cap, rfl, hl, hc, hok, hcell⟩ := h0
  clear hcell hok
  go_enter Try.func3, Try.ntmps3
  by_cases hbig : (1048576 : Int) < (bs.length : Int)
  · go_wp2
    go_ret
    exact ⟨rfl, Below.refl _ _⟩
  go_wp2_with fail
  refine (DrawTurnDeque_any _ bs w h).mono ?_
  rintro e w1 ⟨vd, xs, m, rfl, ho, hb, hbl⟩
  have H1 := (Things.nil w).new (t := numT w.heap.size w1.heap.size vd xs) (Nat.le_refl _) (Nat.le_refl _) ho hbl
  obtain ⟨dp, dc, rfl, _, _⟩ := (H1.nums 0 rfl).slice
  have HB1 := H1.boxed 25 [.slice dp xs.length dc, .int .i64 m]
  obtain ⟨d0, d1⟩ := HB1.box2 0 rfl
  obtain ⟨G, hG⟩ : ∃ G, Hid (G = ifN (tdB xs m) xs.reverse) := ⟨_, rfl⟩
  obtain ⟨g, hg⟩ : ∃ g, Hid (g = ifI (tdB xs m) m) := ⟨_, rfl⟩
  have cI := Lib.hid (fun (v : Value) (w : World) (h : Nums w v xs) => (show Calls Try.prog 16 #[.agg #[v, .int .i64 m]] w (NewE G g w) by rw [hG.out, hg.out]; exact TurnDeque_any v xs m w h))
  have cS := Lib.hid (fun (v : Value) (w : World) (h : Nums w v xs) => (show Calls Try.prog 18 #[.agg #[v, .int .i64 m]] w (NewE G g w) by rw [hG.out, hg.out]; exact sTurnDeque_any v xs m w h))
  clear ho hbl H1 h
  go_wp2_with fail
  refine (cI.out _ _ (HB1.nums 1 rfl)).mono ?_
  rintro e w2 ⟨vo, rfl, ho, hbl⟩
  have H2 := HB1.newN ho hbl
  obtain ⟨op, oc, rfl, _, _⟩ := (H2.nums 0 rfl).slice
  have HB2 := H2.boxed 25 [.slice op G.length oc, .int .i64 g]
  clear HB1 H2 ho hbl d0 d1
  cases hv : validD xs m
  all_goals
    have HV := Lib.hid hv
    clear hv
    have HD2 := HB2.quiet (Below.refl _ _).drew
    go_wp2_with fail
    go_region_held3 (fun w' : World => (w'.cell? ⟨w2.heap.size, 0, none⟩ = some (.slice op G.length oc) ∧ w'.cell? ⟨w2.heap.size, 1, none⟩ = some (.int .i64 g)) ∧ (w'.cell? ⟨w1.heap.size, 0, none⟩ = some (.slice dp xs.length dc) ∧ w'.cell? ⟨w1.heap.size, 1, none⟩ = some (.int .i64 m)))
      (first | exact ⟨HB2.box2 0 rfl, HB2.box2 2 rfl⟩ | assumption | exact hS3 | exact hS4 | exact hS5)
      (first
        | (go_at_call 18; refine (cS.out _ _ (HD2.nums 3 rfl)).mono ?_; rintro e w3 ⟨v3, rfl, ho, hbl⟩; have H3 := HD2.newN ho hbl; clear ho hbl; have hS3 := And.intro (H3.box2 1 rfl) (H3.box2 3 rfl))
        | (go_at_call 17; refine (equalD_T H3 (H3.nums 2 rfl) (H3.nums 0 rfl)).mono ?_; rintro e w4 ⟨rfl, H4⟩; have hS4 := And.intro (H4.box2 1 rfl) (H4.box2 3 rfl))
        | (go_at_call 19; refine (VD_v _ (H4.nums 4 rfl) HV.out).mono ?_; rintro e w5 ⟨rfl, hb5⟩; have H5 := H4.quiet hb5; clear hb5; have hS5 := And.intro (H5.box2 1 rfl) (H5.box2 3 rfl)))
    clear HB2 HD2 H3 H4 hS3 hS4 hS5
  · have HD5 := H5.quiet (Below.refl _ _).drew
    go_wp2_with fail
    go_region_held3 (fun w' : World => (w'.cell? ⟨w2.heap.size, 0, none⟩ = some (.slice op G.length oc) ∧ w'.cell? ⟨w2.heap.size, 1, none⟩ = some (.int .i64 g)) ∧ (w'.cell? ⟨w1.heap.size, 0, none⟩ = some (.slice dp xs.length dc) ∧ w'.cell? ⟨w1.heap.size, 1, none⟩ = some (.int .i64 m)))
      (first | exact ⟨H5.box2 1 rfl, H5.box2 3 rfl⟩ | assumption | exact hS6 | exact hS7)
      (first
        | (go_at_call 18; refine (cS.out _ _ (HD5.nums 4 rfl)).mono ?_; rintro e w6 ⟨v6, rfl, ho, hbl⟩; have H6 := HD5.newN ho hbl; clear ho hbl; have hS6 := And.intro (H6.box2 2 rfl) (H6.box2 4 rfl))
        | (go_at_call 17; refine (equalD_T H6 (H6.nums 3 rfl) (H6.nums 0 rfl)).mono ?_; rintro e w7 ⟨rfl, H7⟩; have hS7 := And.intro (H7.box2 2 rfl) (H7.box2 4 rfl)))
    go_wp2
    go_ret
    exact ⟨rfl, H7.below⟩
  · have hGe : G = xs.reverse := by rw [hG.out]; unfold ifN tdB; rw [HV.out, if_pos rfl]
    have hge : g = m := by rw [hg.out]; unfold ifI tdB; rw [HV.out, if_pos rfl]
    obtain ⟨A, B, c1, c2⟩ : ∃ A B, Hid (∀ (v : Value) (w : World), Nums w v G → Calls Try.prog 20 #[.agg #[v, .int .i64 g], .int .i64 0] w (RetN (.tuple #[.int .i64 A, .bool B]) w)) ∧ Hid (∀ (v : Value) (w : World), Nums w v xs → Calls Try.prog 20 #[.agg #[v, .int .i64 m], .int .i64 (-1)] w (RetN (.tuple #[.int .i64 A, .bool B]) w)) := by
      have he := ends_rev HV.out
      refine ⟨_, _, fun v w h => by rw [hGe] at h; rw [hge]; exact GetAt_any v xs.reverse m 0 w h (by omega), fun v w h => by rw [he.1, he.2]; exact GetAt_any v xs m (-1) w h (by omega)⟩
    have c3 := Lib.hid (fun (v : Value) (w : World) (h : Nums w v G) => (show Calls Try.prog 16 #[.agg #[v, .int .i64 g]] w (NewE xs m w) by
      rw [hGe] at h
      rw [hge]
      have h1 := TurnDeque_any v xs.reverse m w h
      have e1 : tdB xs.reverse m = true := by unfold tdB; rw [validD_rev]; exact HV.out
      rw [e1] at h1
      simpa [ifN, ifI] using h1))
    clear hGe hge
    go_wp2_with fail
    refine (c1.out _ _ (H5.nums 2 rfl)).mono ?_
    rintro e w6 ⟨rfl, hb6⟩
    have H6 := H5.quiet hb6
    clear H5 hb6
    obtain ⟨d0, d1⟩ := H6.box2 3 rfl
    go_wp2_with fail
    refine (c2.out _ _ (H6.nums 4 rfl)).mono ?_
    rintro e w7 ⟨rfl, hb7⟩
    have H7 := H6.quiet hb7
    clear H6 hb7 d0 d1
    have HD7 := H7.quiet (Below.refl _ _).drew
    go_wp2_with fail
    go_region_held3 (fun w' : World => (w'.cell? ⟨w2.heap.size, 0, none⟩ = some (.slice op G.length oc) ∧ w'.cell? ⟨w2.heap.size, 1, none⟩ = some (.int .i64 g)) ∧ (w'.cell? ⟨w1.heap.size, 0, none⟩ = some (.slice dp xs.length dc) ∧ w'.cell? ⟨w1.heap.size, 1, none⟩ = some (.int .i64 m)))
      (first | exact ⟨H7.box2 1 rfl, H7.box2 3 rfl⟩ | assumption | exact hS8 | exact hS9)
      (first
        | (go_at_call 16; refine (c3.out _ _ (HD7.nums 2 rfl)).mono ?_; rintro e w8 ⟨v8, rfl, ho, hbl⟩; have H8 := HD7.newN ho hbl; clear ho hbl; have hS8 := And.intro (H8.box2 2 rfl) (H8.box2 4 rfl))
        | (go_at_call 17; refine (equalD_T H8 (H8.nums 0 rfl) (H8.nums 5 rfl)).mono ?_; rintro e w9 ⟨rfl, H9⟩; have hS9 := And.intro (H9.box2 2 rfl) (H9.box2 4 rfl)))
    go_wp2
    go_ret
    exact ⟨rfl, H9.below⟩

set_option maxRecDepth 100000 in
theorem FnTurnDeque_lifted (os : Os) (started : os.Started) (H : Type) (enc : TypeId × Value → H) :
    ReturnsInHanded {} Try.checked os 3 .any (Rows.fnTurnDequeSpec.pre6 enc Try.prog Try.f3 Rows.fnTurnDequeRow.domain false) (Rows.fnTurnDequeSpec.post enc Try.prog Try.f3 false true false false) := by
  refine returnsInHanded_of_change (C := Try.checked) own started (by kernel_rfl) Try.func3
    (ChangeSpec.witness6 (enc := enc) (C := Try.checked) false ⟨#[], #[.slice none 0 0], []⟩ 8 (by kernel_rfl) (by kernel_rfl) (by kernel_rfl) (by kernel_rfl)) ?_
  intro W base args ds gs before hval0 hW _ _
  have hval : ∀ (j : Nat) t v, Try.f3.params[j]? = some t → args[j]? = some v → Value.okWide Try.prog W .any base t v := hval0
  have hW' := hW
  obtain ⟨p, q, hA0, hV, rfl, _, _⟩ := hW
  have hA : DataW.TrodAll enc Try.prog W 0 (fun _ => true) true Try.f3.params.toList args.toList ds p := hA0
  rw [Try.params3] at hA hval
  obtain ⟨v0, vs0, d0, ds0, p0, q0, hargs, rfl, rfl, h0, r0⟩ := trodAll_cons hA
  obtain ⟨rfl, rfl, rfl⟩ := trodAll_nil r0
  obtain rfl : args = #[v0] := by cases args; simp_all
  obtain ⟨rfl, rfl⟩ := trodVars_none hV
  obtain ⟨xs0, hI0⟩ := open_bytes (hval 0 _ v0 rfl rfl) h0
  refine (FnTurnDeque_walk v0 xs0 W hI0).mono fun e W' ⟨he, hb⟩ => ⟨_, he, ?_⟩
  exact law_end rfl (by rw [Try.params3]; decide +kernel) rfl hW' rfl rfl rfl hb

theorem FnTurnDeque_facts : joinedFacts Try.prog 3 Try.f3 Rows.fnTurnDequeSpec Rows.fnTurnDequeRow = true :=
  facts_of (by kernel_rfl) q2 q3 (by kernel_rfl) (by kernel_rfl) (by kernel_rfl) q7 (by kernel_rfl) q9 (by kernel_rfl) (by kernel_rfl) (by kernel_rfl) (by kernel_rfl) (by kernel_rfl) (by kernel_rfl) (by kernel_rfl) (by kernel_rfl) (by kernel_rfl) (by kernel_rfl) (by kernel_rfl) (by kernel_rfl) (by kernel_rfl)
    (by rw [q22]; kernel_rfl) (by kernel_rfl) q23 head_enter (by kernel_rfl) head_lifts head_make (by kernel_rfl) (by kernel_rfl) (by kernel_rfl) (by kernel_rfl) (by kernel_rfl)

theorem FnTurnDeque_holds : Rows.FnTurnDequeSaid :=
  OpenClaim.holds_of_wide 3 Try.f3 rfl rfl rfl rfl rfl rfl rfl ⟨rfl, rfl, rfl, rfl, rfl⟩ rfl rfl rfl rfl rfl (by kernel_rfl) Try.func3 FnTurnDeque_facts
    (of_decide_eq_true (by kernel_rfl)) (by unfold Func.isWrapper; first | (rw [if_pos (by decide +kernel)]; kernel_rfl) | (rw [if_neg (by decide +kernel)]; exact ⟨rfl, rfl⟩))
    (fun os started H enc _ => FnTurnDeque_lifted os started H enc)
end Go.Proofs.Ytfooiijfminlnaa
