/-
  FnTurnItems: true, for every code.
-/
import Derived.Test.YtfjgmnlbchcabaaP4
import Derived.Test.YtfjgmnlbchcabaaP11
import Derived.Test.YtfjgmnlbchcabaaP17
import Derived.Test.YtfjgmnlbchcabaaP23
import Derived.Test.YtfjgmnlbchcabaaP24
import Derived.Test.YtfjgmnlbchcabaaP25
namespace Go.Proofs.Ytfjgmnlbchcabaa
open Go.RowKit
open Go.ChangeShapes Go.WideShapes Go.ChangeAt Go.Deep

theorem tur_of {l : List Itm} (h : validI l = true) : turL l = l.reverse ∧ validI l.reverse = true := ⟨by unfold turL; rw [if_pos h], by rw [valid_perm (List.reverse_perm l)]; exact h⟩
theorem tur_ends {l : List Itm} (h : validI l = true) : okE l.reverse = okE l ∧ popX l.reverse true = popX l false := by
  have e : okE l.reverse = okE l := by
    unfold okE
    rw [(tur_of h).2, h]
    cases l <;> simp
  refine ⟨e, ?_⟩
  unfold popX
  rw [e]
  split
  · unfold endI
    cases l with
    | nil => rfl
    | cons x r => simp [List.getLastD_eq_getLast?]
  · rfl

set_option maxHeartbeats 3200000 in
set_option maxRecDepth 100000 in
theorem FnTurnItems_walk (v : Value) (bs : List Int) (w : World) (h : Bytes w v bs) :
    Calls Try.prog 7 #[v] w fun e w' => e = .returned (.bool true) ∧ Below w.heap.size w w' := by
  have h0 := h
  obtain ⟨ao, cap, rfl, hl, hc, hok, hcell⟩ := h0
  clear hcell hok
  go_enter Try.func7, Try.ntmps7
  by_cases hbig : (1048576 : Int) < (bs.length : Int)
  · go_wp2
    go_ret
    exact ⟨rfl, Below.refl _ _⟩
  go_wp2_with fail
  refine (DrawTurnItems_any _ bs w h).mono ?_
  rintro e w1 ⟨va, xs, rfl, hlen, hxa, hb1⟩
  have H1 := Things.nil w1
  obtain ⟨G, hG⟩ : ∃ G, Hid (G = turL xs) := ⟨_, Lib.hid rfl⟩
  have cI := Lib.hid (fun (v0 : Value) (w : World) (h0 : Items w v0 xs) => castI (TurnItems_any v0 xs w h0) hG.out.symm)
  have cS := Lib.hid (fun (v0 : Value) (w : World) (h0 : Items w v0 xs) => castI (sTurnItems_any v0 xs w h0) hG.out.symm)
  go_wp2_with fail
  refine (cI.out _ _ (H1.arg hxa)).mono ?_
  rintro e w2 ⟨vo, rfl, ho, hb⟩
  have H2 := H1.newI ho hb
  clear ho hb H1
  go_wp2_with fail
  refine (cS.out _ _ (H2.arg hxa)).mono ?_
  rintro e w3 ⟨vw, rfl, ho, hb⟩
  have H3 := H2.newI ho hb
  clear ho hb H2
  go_wp2_with fail
  refine (equalI_T H3 (H3.items 1 rfl) (H3.items 0 rfl)).mono ?_
  rintro e w4 ⟨rfl, H4⟩
  clear H3
  obtain ⟨V, hV⟩ : ∃ V, Hid (V = validI xs) := ⟨_, Lib.hid rfl⟩
  have cV := Lib.hid (fun (v0 : Value) (w : World) (h0 : Items w v0 xs) => castB (ValidItems_any v0 xs w h0) hV.out.symm)
  go_wp2_with fail
  refine (cV.out _ _ (H4.arg hxa)).mono ?_
  rintro e w5 ⟨rfl, hb⟩
  have H5 := H4.quiet hb
  clear hb H4
  cases V
  · skip
    go_wp2_with fail
    refine (cS.out _ _ (H5.arg hxa)).mono ?_
    rintro e w6 ⟨vs, rfl, ho, hb⟩
    have H6 := H5.newI ho hb
    clear ho hb H5
    go_wp2_with fail
    refine (equalI_T H6 (H6.items 2 rfl) (H6.items 0 rfl)).mono ?_
    rintro e w7 ⟨rfl, H7⟩
    clear H6
    go_wp2
    go_ret
    exact ⟨rfl, hb1.trans (H7.below.mono hb1.size)⟩
  · have hv := hV.out.symm
    obtain ⟨e1, hv2⟩ := tur_of hv
    obtain ⟨e2, e3⟩ := tur_ends hv
    rw [← e1, ← hG.out] at e2 e3
    obtain ⟨A, hA⟩ : ∃ A, Hid (A = popL xs false) := ⟨_, Lib.hid rfl⟩
    obtain ⟨X, hX⟩ : ∃ X, Hid (X = popX xs false) := ⟨_, Lib.hid rfl⟩
    obtain ⟨E, hE⟩ : ∃ E, Hid (E = okE xs) := ⟨_, Lib.hid rfl⟩
    obtain ⟨B, hB⟩ : ∃ B, Hid (B = popL G true) := ⟨_, Lib.hid rfl⟩
    have c1 := Lib.hid (fun (v0 : Value) (w : World) (h0 : Items w v0 xs) => (show Calls Try.prog 34 #[v0, .bool false] w (NewX A X E w) by rw [hA.out, hX.out, hE.out]; exact PopItem_any v0 xs false w h0))
    have c2 := Lib.hid (fun (v0 : Value) (w : World) (h0 : Items w v0 G) => (show Calls Try.prog 34 #[v0, .bool true] w (NewX B X E w) by rw [hB.out, hX.out, hE.out, ← e3, ← e2]; exact PopItem_any v0 G true w h0))
    have c3 := Lib.hid (fun (v0 : Value) (w : World) (h0 : Items w v0 G) => castI (TurnItems_any v0 G w h0) (show turL G = xs by rw [hG.out, e1, (tur_of hv2).1, List.reverse_reverse]))
    clear e1 hv2 e2 e3 hG hA hX hE hB hv hV cI cS cV
    have hse := beq_self_eq_true X.1.toList
    have hg1 := item_neq
    have hg2 := item_guard
    go_wp2_with fail
    refine (c1.out _ _ (H5.arg hxa)).mono ?_
    rintro e w6 ⟨v1, rfl, ho, hb⟩
    have H6 := H5.newI ho hb
    clear ho hb H5
    have HB6 := H6.boxed 32 [.string X.1, .int .i64 X.2]
    clear H6
    have H7 := HB6
    clear HB6
    go_wp2_with fail
    refine (c2.out _ _ (H7.items 3 rfl)).mono ?_
    rintro e w8 ⟨v2, rfl, ho, hb⟩
    have H8 := H7.newI ho hb
    clear ho hb H7
    have HB8 := H8.boxed 32 [.string X.1, .int .i64 X.2]
    clear H8
    have H9 := HB8
    clear HB8
    go_wp2_with fail
    refine (c3.out _ _ (H9.items 5 rfl)).mono ?_
    rintro e w10 ⟨v3, rfl, ho, hb⟩
    have H10 := H9.newI ho hb
    clear ho hb H9
    go_wp2_with fail
    refine (equalI_T H10 (H10.items 0 rfl) (H10.arg hxa)).mono ?_
    rintro e w11 ⟨rfl, H11⟩
    clear H10
    obtain ⟨x0, x1⟩ := H11.box2 3 rfl
    obtain ⟨y0, y1⟩ := H11.box2 1 rfl
    go_wp2
    go_ret
    exact ⟨rfl, hb1.trans (H11.below.mono hb1.size)⟩

set_option maxRecDepth 100000 in
theorem FnTurnItems_lifted (os : Os) (started : os.Started) (H : Type) (enc : TypeId × Value → H) :
    ReturnsInHanded {} Try.checked os 7 .any (Rows.fnTurnItemsSpec.pre6 enc Try.prog Try.f7 Rows.fnTurnItemsRow.domain false) (Rows.fnTurnItemsSpec.post enc Try.prog Try.f7 false true false false) := by
  refine returnsInHanded_of_change (C := Try.checked) own started (by kernel_rfl) Try.func7
    (ChangeSpec.witness6 (enc := enc) (C := Try.checked) false ⟨#[], #[.slice none 0 0], []⟩ 8 (by kernel_rfl) (by kernel_rfl) (by kernel_rfl) (by kernel_rfl)) ?_
  intro W base args ds gs before hval0 hW _ _
  have hval : ∀ (j : Nat) t v, Try.f7.params[j]? = some t → args[j]? = some v → Value.okWide Try.prog W .any base t v := hval0
  have hW' := hW
  obtain ⟨p, q, hA0, hV, rfl, _, _⟩ := hW
  have hA : DataW.TrodAll enc Try.prog W 0 (fun _ => true) true Try.f7.params.toList args.toList ds p := hA0
  rw [Try.params7] at hA hval
  obtain ⟨v0, vs0, d0, ds0, p0, q0, hargs, rfl, rfl, h0, r0⟩ := trodAll_cons hA
  obtain ⟨rfl, rfl, rfl⟩ := trodAll_nil r0
  obtain rfl : args = #[v0] := by cases args; simp_all
  obtain ⟨rfl, rfl⟩ := trodVars_none hV
  obtain ⟨xs0, hI0⟩ := open_bytes (hval 0 _ v0 rfl rfl) h0
  refine (FnTurnItems_walk v0 xs0 W hI0).mono fun e W' ⟨he, hb⟩ => ⟨_, he, ?_⟩
  exact law_end rfl (by rw [Try.params7]; decide +kernel) rfl hW' rfl rfl rfl hb

theorem FnTurnItems_facts : joinedFacts Try.prog 7 Try.f7 Rows.fnTurnItemsSpec Rows.fnTurnItemsRow = true :=
  facts_of (by kernel_rfl) q2 q3 (by kernel_rfl) (by kernel_rfl) (by kernel_rfl) q7 (by kernel_rfl) q9 (by kernel_rfl) (by kernel_rfl) (by kernel_rfl) (by kernel_rfl) (by kernel_rfl) (by kernel_rfl) (by kernel_rfl) (by kernel_rfl) (by kernel_rfl) (by kernel_rfl) (by kernel_rfl) (by kernel_rfl) (by kernel_rfl)
    (by rw [q22]; kernel_rfl) (by kernel_rfl) q23 head_enter (by kernel_rfl) head_lifts head_make (by kernel_rfl) (by kernel_rfl) (by kernel_rfl) (by kernel_rfl) (by kernel_rfl)

theorem FnTurnItems_holds : Rows.FnTurnItemsSaid :=
  OpenClaim.holds_of_wide 7 Try.f7 rfl rfl rfl rfl rfl rfl rfl ⟨rfl, rfl, rfl, rfl, rfl⟩ rfl rfl rfl rfl rfl (by kernel_rfl) Try.func7 FnTurnItems_facts
    (of_decide_eq_true (by kernel_rfl)) (by unfold Func.isWrapper; first | (rw [if_pos (by decide +kernel)]; kernel_rfl) | (rw [if_neg (by decide +kernel)]; exact ⟨rfl, rfl⟩))
    (fun os started H enc _ => FnTurnItems_lifted os started H enc)
end Go.Proofs.Ytfjgmnlbchcabaa
