/-
  FnPopFront: true, for every code.
-/
import Derived.Test.YtfooiijfminlnaaLawPopBack
import Derived.Test.YtfooiijfminlnaaLawTurnDeque
import Derived.Test.YtfooiijfminlnaaDqPf
namespace Go.Proofs.Ytfooiijfminlnaa
open Go.RowKit
open Go.ChangeShapes Go.WideShapes Go.ChangeAt Go.Deep

theorem pf_turn {xs : List Int} {m : Int} (h : poB xs m = true) : poB xs.reverse m = true ∧ (pbL xs.reverse).reverse = pfL xs ∧ pbX xs.reverse = pfX xs ∧ validD (pbL xs.reverse) m = true := by
  obtain ⟨hv, hl⟩ := popB_parts h
  have hr : validD xs.reverse m = true := by rw [validD_rev]; exact hv
  refine ⟨?_, ?_, ?_, validD_take hr _⟩
  · unfold poB
    rw [hr, List.length_reverse, decide_eq_true hl]
    rfl
  · unfold pbL pfL
    rw [List.take_reverse, List.reverse_reverse, List.length_reverse, show xs.length - (xs.length - 1) = 1 by omega]
  · unfold pbX pfX
    rw [List.getD_eq_getElem?_getD, List.getD_eq_getElem?_getD, List.length_reverse, List.getElem?_reverse (by omega), show xs.length - 1 - (xs.length - 1) = 0 by omega]

set_option maxHeartbeats 1600000 in
set_option maxRecDepth 100000 in
theorem FnPopFront_walk (v : Value) (bs : List Int) (w : World) (h : Bytes w v bs) :
    Calls Try.prog 6 #[v] w fun e w' => e = .returned (.bool true) ∧ Below w.heap.size w w' := by
  have h0 := h
  obtain ⟨ao, cap, rfl, hl, hc, hok, hcell⟩ := h0
  clear hcell hok
  go_enter Try.func6, Try.ntmps6
  by_cases hbig : (1048576 : Int) < (bs.length : Int)
  · go_wp2
    go_ret
    exact ⟨rfl, Below.refl _ _⟩
  go_wp2_with fail
  refine (DrawPopFront_any _ bs w h).mono ?_
  rintro e w1 ⟨vd, xs, m, rfl, ho, hb, hbl⟩
  have H1 := (Things.nil w).new (t := numT w.heap.size w1.heap.size vd xs) (Nat.le_refl _) (Nat.le_refl _) ho hbl
  obtain ⟨dp, dc, rfl, hdc, hdm⟩ := (H1.nums 0 rfl).slice
  have HB1 := H1.boxed 25 [.slice dp xs.length dc, .int .i64 m]
  obtain ⟨d0, d1⟩ := HB1.box2 0 rfl
  obtain ⟨G, hG⟩ : ∃ G, Hid (G = ifN (poB xs m) (pfL xs)) := ⟨_, rfl⟩
  obtain ⟨g, hg⟩ : ∃ g, Hid (g = ifI (poB xs m) m) := ⟨_, rfl⟩
  obtain ⟨x, hx⟩ : ∃ x, Hid (x = ifI (poB xs m) (pfX xs)) := ⟨_, rfl⟩
  obtain ⟨B, hB⟩ : ∃ B, Hid (B = poB xs m) := ⟨_, rfl⟩
  have cI := Lib.hid (fun (v : Value) (w : World) (h : Nums w v xs) => (show Calls Try.prog 28 #[.agg #[v, .int .i64 m]] w (NewP G g x B w) by rw [hG.out, hg.out, hx.out, hB.out]; exact PopFront_any v xs m w h))
  have cS := Lib.hid (fun (v : Value) (w : World) (h : Nums w v xs) => (show Calls Try.prog 29 #[.agg #[v, .int .i64 m]] w (NewP G g x B w) by rw [hG.out, hg.out, hx.out, hB.out]; exact sPopFront_any v xs m w h))
  clear ho hbl H1 h
  go_wp2_with fail
  refine (cI.out _ _ (HB1.nums 1 rfl)).mono ?_
  rintro e w2 ⟨vo, rfl, ho, hbl⟩
  have H2 := HB1.newN ho hbl
  obtain ⟨op, oc, rfl, _, _⟩ := (H2.nums 0 rfl).slice
  have HB2 := H2.boxed 25 [.slice op G.length oc, .int .i64 g]
  clear HB1 H2 ho hbl d0 d1
  obtain ⟨d0, d1⟩ := HB2.box2 2 rfl
  go_wp2_with fail
  refine (cS.out _ _ (HB2.nums 3 rfl)).mono ?_
  rintro e w3 ⟨vw, rfl, ho, hbl⟩
  have H3 := HB2.newN ho hbl
  obtain ⟨wp, wc, rfl, _, _⟩ := (H3.nums 0 rfl).slice
  have HB3 := H3.boxed 25 [.slice wp G.length wc, .int .i64 g]
  clear HB2 H3 ho hbl d0 d1 cI cS
  obtain ⟨d0, d1⟩ := HB3.box2 4 rfl
  obtain ⟨o0, o1⟩ := HB3.box2 2 rfl
  obtain ⟨n0, n1⟩ := HB3.box2 0 rfl
  go_wp2_with fail
  refine (equalD_T HB3 (HB3.nums 3 rfl) (HB3.nums 1 rfl)).mono ?_
  rintro e w4 ⟨rfl, H4⟩
  clear HB3 d0 d1 o0 o1 n0 n1
  obtain ⟨d0, d1⟩ := H4.box2 4 rfl
  obtain ⟨o0, o1⟩ := H4.box2 2 rfl
  obtain ⟨n0, n1⟩ := H4.box2 0 rfl
  cases B
  · go_wp2_with fail
    refine (equalD_T H4 (H4.nums 3 rfl) (H4.nums 1 rfl)).mono ?_
    rintro e w5 ⟨rfl, H5⟩
    go_wp2
    go_ret
    exact ⟨rfl, H5.below⟩
  · have hp := hB.out.symm
    have hGe : G = pfL xs := by rw [hG.out, hp]; rfl
    have hge : g = m := by rw [hg.out, hp]; rfl
    have hxe : x = pfX xs := by rw [hx.out, hp]; rfl
    obtain ⟨t1, t2, t3, t4⟩ := pf_turn hp
    have hv := (popB_parts hp).1
    have c3 := Lib.hid (fun (v : Value) (w : World) (h : Nums w v xs) => (show Calls Try.prog 16 #[.agg #[v, .int .i64 m]] w (NewE xs.reverse m w) by
      have h1 := TurnDeque_any v xs m w h
      have e1 : tdB xs m = true := hv
      rw [e1] at h1
      exact h1))
    have c4 := Lib.hid (fun (v : Value) (w : World) (h : Nums w v xs.reverse) => (show Calls Try.prog 24 #[.agg #[v, .int .i64 m]] w (NewP (pbL xs.reverse) m x true w) by
      have h1 := PopBack_any v xs.reverse m w h
      rw [t1, t3, ← hxe] at h1
      exact h1))
    have c5 := Lib.hid (fun (v : Value) (w : World) (h : Nums w v (pbL xs.reverse)) => (show Calls Try.prog 16 #[.agg #[v, .int .i64 m]] w (NewE G g w) by
      have h1 := TurnDeque_any v (pbL xs.reverse) m w h
      have e1 : tdB (pbL xs.reverse) m = true := t4
      rw [e1, t2, ← hGe] at h1
      rw [hge]
      exact h1))
    clear hp hGe hge hxe hG hg hx hB t1 t2 t3 t4 hv
    go_wp2_with fail
    refine (c3.out _ _ (H4.nums 5 rfl)).mono ?_
    rintro e w5 ⟨vt, rfl, ho, hbl⟩
    have H5 := H4.newN ho hbl
    clear H4 ho hbl d0 d1 o0 o1 n0 n1
    go_wp2_with fail
    refine (c4.out _ _ (H5.nums 0 rfl)).mono ?_
    rintro e w6 ⟨vb, rfl, ho, hbl⟩
    have H6 := H5.newN ho hbl
    obtain ⟨bp, bc, rfl, _, _⟩ := (H6.nums 0 rfl).slice
    have HB6 := H6.boxed 25 [.slice bp (pbL xs.reverse).length bc, .int .i64 m]
    clear H5 H6 ho hbl
    have HD6 := HB6.quiet (Below.refl _ _).drew
    go_wp2_with fail
    go_region_held3 (fun w' : World => (w'.cell? ⟨w6.heap.size, 0, none⟩ = some (.slice bp (pbL xs.reverse).length bc) ∧ w'.cell? ⟨w6.heap.size, 1, none⟩ = some (.int .i64 m)) ∧ (w'.cell? ⟨w2.heap.size, 0, none⟩ = some (.slice op G.length oc) ∧ w'.cell? ⟨w2.heap.size, 1, none⟩ = some (.int .i64 g)))
      (first | exact ⟨HB6.box2 0 rfl, HB6.box2 5 rfl⟩ | assumption | exact hS7 | exact hS8)
      (first
        | (go_at_call 16; refine (c5.out _ _ (HD6.nums 1 rfl)).mono ?_; rintro e w7 ⟨v7, rfl, ho, hbl⟩; have H7 := HD6.newN ho hbl; clear ho hbl; have hS7 := And.intro (H7.box2 1 rfl) (H7.box2 6 rfl))
        | (go_at_call 17; refine (equalD_T H7 (H7.nums 0 rfl) (H7.nums 7 rfl)).mono ?_; rintro e w8 ⟨rfl, H8⟩; have hS8 := And.intro (H8.box2 1 rfl) (H8.box2 6 rfl)))
    go_wp2
    go_ret
    exact ⟨rfl, H8.below⟩

set_option maxRecDepth 100000 in
theorem FnPopFront_lifted (os : Os) (started : os.Started) (H : Type) (enc : TypeId × Value → H) :
    ReturnsInHanded {} Try.checked os 6 .any (Rows.fnPopFrontSpec.pre6 enc Try.prog Try.f6 Rows.fnPopFrontRow.domain false) (Rows.fnPopFrontSpec.post enc Try.prog Try.f6 false true false false) := by
  refine returnsInHanded_of_change (C := Try.checked) own started (by kernel_rfl) Try.func6
    (ChangeSpec.witness6 (enc := enc) (C := Try.checked) false ⟨#[], #[.slice none 0 0], []⟩ 8 (by kernel_rfl) (by kernel_rfl) (by kernel_rfl) (by kernel_rfl)) ?_
  intro W base args ds gs before hval0 hW _ _
  have hval : ∀ (j : Nat) t v, Try.f6.params[j]? = some t → args[j]? = some v → Value.okWide Try.prog W .any base t v := hval0
  have hW' := hW
  obtain ⟨p, q, hA0, hV, rfl, _, _⟩ := hW
  have hA : DataW.TrodAll enc Try.prog W 0 (fun _ => true) true Try.f6.params.toList args.toList ds p := hA0
  rw [Try.params6] at hA hval
  obtain ⟨v0, vs0, d0, ds0, p0, q0, hargs, rfl, rfl, h0, r0⟩ := trodAll_cons hA
  obtain ⟨rfl, rfl, rfl⟩ := trodAll_nil r0
  obtain rfl : args = #[v0] := by cases args; simp_all
  obtain ⟨rfl, rfl⟩ := trodVars_none hV
  obtain ⟨xs0, hI0⟩ := open_bytes (hval 0 _ v0 rfl rfl) h0
  refine (FnPopFront_walk v0 xs0 W hI0).mono fun e W' ⟨he, hb⟩ => ⟨_, he, ?_⟩
  exact law_end rfl (by rw [Try.params6]; decide +kernel) rfl hW' rfl rfl rfl hb

theorem FnPopFront_facts : joinedFacts Try.prog 6 Try.f6 Rows.fnPopFrontSpec Rows.fnPopFrontRow = true :=
  facts_of (by kernel_rfl) q2 q3 (by kernel_rfl) (by kernel_rfl) (by kernel_rfl) q7 (by kernel_rfl) q9 (by kernel_rfl) (by kernel_rfl) (by kernel_rfl) (by kernel_rfl) (by kernel_rfl) (by kernel_rfl) (by kernel_rfl) (by kernel_rfl) (by kernel_rfl) (by kernel_rfl) (by kernel_rfl) (by kernel_rfl) (by kernel_rfl)
    (by rw [q22]; kernel_rfl) (by kernel_rfl) q23 head_enter (by kernel_rfl) head_lifts head_make (by kernel_rfl) (by kernel_rfl) (by kernel_rfl) (by kernel_rfl) (by kernel_rfl)

theorem FnPopFront_holds : Rows.FnPopFrontSaid :=
  OpenClaim.holds_of_wide 6 Try.f6 rfl rfl rfl rfl rfl rfl rfl ⟨rfl, rfl, rfl, rfl, rfl⟩ rfl rfl rfl rfl rfl (by kernel_rfl) Try.func6 FnPopFront_facts
    (of_decide_eq_true (by kernel_rfl)) (by unfold Func.isWrapper; first | (rw [if_pos (by decide +kernel)]; kernel_rfl) | (rw [if_neg (by decide +kernel)]; exact ⟨rfl, rfl⟩))
    (fun os started H enc _ => FnPopFront_lifted os started H enc)
end Go.Proofs.Ytfooiijfminlnaa
