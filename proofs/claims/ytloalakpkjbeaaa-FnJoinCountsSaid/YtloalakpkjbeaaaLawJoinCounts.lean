/-
  FnJoinCounts: true, for every code.
-/
import Derived.Test.YtloalakpkjbeaaaP5
import Derived.Test.YtloalakpkjbeaaaP7
import Derived.Test.YtloalakpkjbeaaaP11
import Derived.Test.YtloalakpkjbeaaaP15
namespace Go.Proofs.Ytloalakpkjbeaaa
open Go.RowKit
open Go.ChangeShapes Go.WideShapes Go.ChangeAt Go.Deep

set_option maxHeartbeats 3200000 in
set_option maxRecDepth 100000 in
theorem FnJoinCounts_walk (v : Value) (bs : List Int) (w : World) (h : Bytes w v bs) :
    Calls Try.prog 10 #[v] w fun e w' => e = .returned (.bool true) ∧ Below w.heap.size w w' := by
  have h0 := h
  obtain ⟨ao, cap, rfl, hl, hc, hok, hcell⟩ := h0
  clear hcell hok
  go_enter Try.func10, Try.ntmps10
  by_cases hbig : (1048576 : Int) < (bs.length : Int)
  · go_wp2
    go_ret
    exact ⟨rfl, Below.refl _ _⟩
  go_wp2_with fail
  refine (DrawJoinCounts_any _ bs w h).mono ?_
  rintro e w1 ⟨va, xs, vb, ys, rfl, hlen, hxa, hxb, hb1⟩
  have H1 := Things.nil w1
  obtain ⟨G, hG⟩ : ∃ G, Hid (G = joiL xs ys) := ⟨_, Lib.hid rfl⟩
  obtain ⟨K, hK⟩ : ∃ K, Hid (K = joiB xs ys) := ⟨_, Lib.hid rfl⟩
  have cI := Lib.hid (fun (v0 v1 : Value) (w : World) (h0 : Items w v0 xs) (h1 : Items w v1 ys) => castI2 (JoinCounts_any v0 v1 xs ys w h0 h1) hG.out.symm hK.out.symm)
  have cS := Lib.hid (fun (v0 v1 : Value) (w : World) (h0 : Items w v0 xs) (h1 : Items w v1 ys) => castI2 (sJoinCounts_any v0 v1 xs ys w h0 h1) hG.out.symm hK.out.symm)
  go_wp2_with fail
  refine (cI.out _ _ _ (H1.arg hxa) (H1.arg hxb)).mono ?_
  rintro e w2 ⟨vo, rfl, ho, hb⟩
  have H2 := H1.newI ho hb
  clear ho hb H1
  go_wp2_with fail
  refine (cS.out _ _ _ (H2.arg hxa) (H2.arg hxb)).mono ?_
  rintro e w3 ⟨vw, rfl, ho, hb⟩
  have H3 := H2.newI ho hb
  clear ho hb H2
  clear cI cS
  go_wp2_with fail
  refine (equalI_T H3 (H3.items 1 rfl) (H3.items 0 rfl)).mono ?_
  rintro e w4 ⟨rfl, H4⟩
  clear H3
  cases K
  · skip
    go_wp2_with fail
    refine (equalI_T H4 (H4.items 1 rfl) (H4.items 0 rfl)).mono ?_
    rintro e w5 ⟨rfl, H5⟩
    clear H4
    go_wp2
    go_ret
    exact ⟨rfl, hb1.trans (H5.below.mono hb1.size)⟩
  · have hk := hK.out.symm
    have hp := joi_parts hk
    have al := join_algebra hk
    obtain ⟨A, hA⟩ : ∃ A, Hid (A = posI xs) := ⟨_, Lib.hid rfl⟩
    obtain ⟨B, hB⟩ : ∃ B, Hid (B = posI ys) := ⟨_, Lib.hid rfl⟩
    obtain ⟨J, hJ⟩ : ∃ J, Hid (J = joiL (posI xs) (posI ys)) := ⟨_, Lib.hid rfl⟩
    obtain ⟨M, hM⟩ : ∃ M, Hid (M = metL (posI xs) (posI ys)) := ⟨_, Lib.hid rfl⟩
    obtain ⟨S, hS⟩ : ∃ S, Hid (S = addL (joiL (posI xs) (posI ys)) (metL (posI xs) (posI ys))) := ⟨_, Lib.hid rfl⟩
    obtain ⟨S2, hS2⟩ : ∃ S2, Hid (S2 = addL (posI xs) (posI ys)) := ⟨_, Lib.hid rfl⟩
    obtain ⟨Q, hQ⟩ : ∃ Q, Hid (Q = addB (posI xs) (posI ys)) := ⟨_, Lib.hid rfl⟩
    have c1 := Lib.hid (fun (v0 : Value) (w : World) (h0 : Items w v0 xs) => castI (KeepCounts_any v0 xs w h0) ((kep_of hp.1).trans hA.out.symm))
    have c2 := Lib.hid (fun (v0 : Value) (w : World) (h0 : Items w v0 ys) => castI (KeepCounts_any v0 ys w h0) ((kep_of hp.2.1).trans hB.out.symm))
    have c3 := Lib.hid (fun (v0 v1 : Value) (w : World) (h0 : Items w v0 A) (h1 : Items w v1 B) => castI2 (JoinCounts_any v0 v1 A B w h0 h1) (show joiL A B = J by rw [hA.out, hB.out, hJ.out]) (show joiB A B = true by rw [hA.out, hB.out]; exact al.1))
    have c4 := Lib.hid (fun (v0 v1 : Value) (w : World) (h0 : Items w v0 A) (h1 : Items w v1 B) => castI (MeetCounts_any v0 v1 A B w h0 h1) (show metL A B = M by rw [hA.out, hB.out, hM.out]))
    have c5 := Lib.hid (fun (v0 v1 : Value) (w : World) (h0 : Items w v0 J) (h1 : Items w v1 M) => castI2 (AddCounts_any v0 v1 J M w h0 h1) (show addL J M = S by rw [hJ.out, hM.out, hS.out]) (show addB J M = Q by rw [hJ.out, hM.out, hQ.out]; exact al.2.1))
    have c6 := Lib.hid (fun (v0 v1 : Value) (w : World) (h0 : Items w v0 A) (h1 : Items w v1 B) => castI2 (AddCounts_any v0 v1 A B w h0 h1) (show addL A B = S2 by rw [hA.out, hB.out, hS2.out]) (show addB A B = Q by rw [hA.out, hB.out, hQ.out]))
    have c7 := Lib.hid (fun (v0 v1 : Value) (w : World) (h0 : Items w v0 A) (h1 : Items w v1 G) => castB (WithinCounts_any v0 v1 A G w h0 h1) (show witB A G = true by rw [hA.out, hG.out]; exact al.2.2.1))
    have c8 := Lib.hid (fun (v0 v1 : Value) (w : World) (h0 : Items w v0 B) (h1 : Items w v1 G) => castB (WithinCounts_any v0 v1 B G w h0 h1) (show witB B G = true by rw [hB.out, hG.out]; exact al.2.2.2.1))
    have c9 : Hid (Q = true → ∀ (v0 v1 : Value) (w : World), Items w v0 S → Items w v1 S2 → Calls Try.prog 33 #[v0, v1] w (RetQ (.bool true) w)) := fun hq v0 v1 w h0 h1 => castB (SameCounts_any v0 v1 S S2 w h0 h1) (show samB S S2 = true by rw [hS.out, hS2.out]; exact al.2.2.2.2 (by rw [← hQ.out]; exact hq))
    clear hk hp al hG hK hA hB hJ hM hS hS2 hQ
    go_wp2_with fail
    refine (c1.out _ _ (H4.arg hxa)).mono ?_
    rintro e w5 ⟨v1, rfl, ho, hb⟩
    have H5 := H4.newI ho hb
    clear ho hb H4
    go_wp2_with fail
    refine (c2.out _ _ (H5.arg hxb)).mono ?_
    rintro e w6 ⟨v2, rfl, ho, hb⟩
    have H6 := H5.newI ho hb
    clear ho hb H5
    go_wp2_with fail
    refine (c3.out _ _ _ (H6.items 1 rfl) (H6.items 0 rfl)).mono ?_
    rintro e w7 ⟨v3, rfl, ho, hb⟩
    have H7 := H6.newI ho hb
    clear ho hb H6
    go_wp2_with fail
    refine (c4.out _ _ _ (H7.items 2 rfl) (H7.items 1 rfl)).mono ?_
    rintro e w8 ⟨v4, rfl, ho, hb⟩
    have H8 := H7.newI ho hb
    clear ho hb H7
    go_wp2_with fail
    refine (c5.out _ _ _ (H8.items 1 rfl) (H8.items 0 rfl)).mono ?_
    rintro e w9 ⟨v5, rfl, ho, hb⟩
    have H9 := H8.newI ho hb
    clear ho hb H8
    go_wp2_with fail
    refine (c6.out _ _ _ (H9.items 4 rfl) (H9.items 3 rfl)).mono ?_
    rintro e w10 ⟨v6, rfl, ho, hb⟩
    have H10 := H9.newI ho hb
    clear ho hb H9
    go_wp2_with fail
    refine (c7.out _ _ _ (H10.items 5 rfl) (H10.items 7 rfl)).mono ?_
    rintro e w11 ⟨rfl, hb⟩
    have H11 := H10.quiet hb
    clear hb H10
    go_wp2_with fail
    refine (c8.out _ _ _ (H11.items 4 rfl) (H11.items 7 rfl)).mono ?_
    rintro e w12 ⟨rfl, hb⟩
    have H12 := H11.quiet hb
    clear hb H11
    cases Q
    · skip
      go_wp2
      go_ret
      exact ⟨rfl, hb1.trans (H12.below.mono hb1.size)⟩
    · have c10 := Lib.hid (fun (v0 v1 : Value) (w : World) (h0 : Items w v0 S) (h1 : Items w v1 S2) => c9.out (by first | rfl | trivial) v0 v1 w h0 h1)
      clear c9
      go_wp2_with fail
      refine (c10.out _ _ _ (H12.items 1 rfl) (H12.items 0 rfl)).mono ?_
      rintro e w13 ⟨rfl, hb⟩
      have H13 := H12.quiet hb
      clear hb H12
      go_wp2
      go_ret
      exact ⟨rfl, hb1.trans (H13.below.mono hb1.size)⟩

set_option maxRecDepth 100000 in
theorem FnJoinCounts_lifted (os : Os) (started : os.Started) (H : Type) (enc : TypeId × Value → H) :
    ReturnsInHanded {} Try.checked os 10 .any (Rows.fnJoinCountsSpec.pre6 enc Try.prog Try.f10 Rows.fnJoinCountsRow.domain false) (Rows.fnJoinCountsSpec.post enc Try.prog Try.f10 false true false false) := by
  refine returnsInHanded_of_change (C := Try.checked) own started (by kernel_rfl) Try.func10
    (ChangeSpec.witness6 (enc := enc) (C := Try.checked) false ⟨#[], #[.slice none 0 0], []⟩ 8 (by kernel_rfl) (by kernel_rfl) (by kernel_rfl) (by kernel_rfl)) ?_
  intro W base args ds gs before hval0 hW _ _
  have hval : ∀ (j : Nat) t v, Try.f10.params[j]? = some t → args[j]? = some v → Value.okWide Try.prog W .any base t v := hval0
  have hW' := hW
  obtain ⟨p, q, hA0, hV, rfl, _, _⟩ := hW
  have hA : DataW.TrodAll enc Try.prog W 0 (fun _ => true) true Try.f10.params.toList args.toList ds p := hA0
  rw [Try.params10] at hA hval
  obtain ⟨v0, vs0, d0, ds0, p0, q0, hargs, rfl, rfl, h0, r0⟩ := trodAll_cons hA
  obtain ⟨rfl, rfl, rfl⟩ := trodAll_nil r0
  obtain rfl : args = #[v0] := by cases args; simp_all
  obtain ⟨rfl, rfl⟩ := trodVars_none hV
  obtain ⟨xs0, hI0⟩ := open_bytes (hval 0 _ v0 rfl rfl) h0
  refine (FnJoinCounts_walk v0 xs0 W hI0).mono fun e W' ⟨he, hb⟩ => ⟨_, he, ?_⟩
  exact law_end rfl (by rw [Try.params10]; decide +kernel) rfl hW' rfl rfl rfl hb

theorem FnJoinCounts_facts : joinedFacts Try.prog 10 Try.f10 Rows.fnJoinCountsSpec Rows.fnJoinCountsRow = true :=
  facts_of (by kernel_rfl) q2 q3 (by kernel_rfl) (by kernel_rfl) (by kernel_rfl) q7 (by kernel_rfl) q9 (by kernel_rfl) (by kernel_rfl) (by kernel_rfl) (by kernel_rfl) (by kernel_rfl) (by kernel_rfl) (by kernel_rfl) (by kernel_rfl) (by kernel_rfl) (by kernel_rfl) (by kernel_rfl) (by kernel_rfl) (by kernel_rfl)
    (by rw [q22]; kernel_rfl) (by kernel_rfl) q23 head_enter (by kernel_rfl) head_lifts head_make (by kernel_rfl) (by kernel_rfl) (by kernel_rfl) (by kernel_rfl) (by kernel_rfl)

theorem FnJoinCounts_holds : Rows.FnJoinCountsSaid :=
  OpenClaim.holds_of_wide 10 Try.f10 rfl rfl rfl rfl rfl rfl rfl ⟨rfl, rfl, rfl, rfl, rfl⟩ rfl rfl rfl rfl rfl (by kernel_rfl) Try.func10 FnJoinCounts_facts
    (of_decide_eq_true (by kernel_rfl)) (by unfold Func.isWrapper; first | (rw [if_pos (by decide +kernel)]; kernel_rfl) | (rw [if_neg (by decide +kernel)]; exact ⟨rfl, rfl⟩))
    (fun os started H enc _ => FnJoinCounts_lifted os started H enc)
end Go.Proofs.Ytloalakpkjbeaaa
