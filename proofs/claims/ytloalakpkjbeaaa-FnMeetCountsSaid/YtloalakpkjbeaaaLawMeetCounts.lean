/-
  FnMeetCounts: true, for every code.
-/
import Derived.Test.YtloalakpkjbeaaaP4
import Derived.Test.YtloalakpkjbeaaaP5
import Derived.Test.YtloalakpkjbeaaaP7
import Derived.Test.YtloalakpkjbeaaaP11
import Derived.Test.YtloalakpkjbeaaaP15
namespace Go.Proofs.Ytloalakpkjbeaaa
open Go.RowKit
open Go.ChangeShapes Go.WideShapes Go.ChangeAt Go.Deep

set_option maxHeartbeats 3200000 in
set_option maxRecDepth 100000 in
theorem FnMeetCounts_walk (v : Value) (bs : List Int) (w : World) (h : Bytes w v bs) :
    Calls Try.prog 9 #[v] w fun e w' => e = .returned (.bool true) ∧ Below w.heap.size w w' := by
  have h0 := h
  obtain ⟨ao, cap, rfl, hl, hc, hok, hcell⟩ := h0
  clear hcell hok
  go_enter Try.func9, Try.ntmps9
  by_cases hbig : (1048576 : Int) < (bs.length : Int)
  · go_wp2
    go_ret
    exact ⟨rfl, Below.refl _ _⟩
  go_wp2_with fail
  refine (DrawMeetCounts_any _ bs w h).mono ?_
  rintro e w1 ⟨va, xs, vb, ys, rfl, hlen, hxa, hxb, hb1⟩
  have H1 := Things.nil w1
  obtain ⟨G, hG⟩ : ∃ G, Hid (G = metL xs ys) := ⟨_, Lib.hid rfl⟩
  have cI := Lib.hid (fun (v0 v1 : Value) (w : World) (h0 : Items w v0 xs) (h1 : Items w v1 ys) => castI (MeetCounts_any v0 v1 xs ys w h0 h1) hG.out.symm)
  have cS := Lib.hid (fun (v0 v1 : Value) (w : World) (h0 : Items w v0 xs) (h1 : Items w v1 ys) => castI (sMeetCounts_any v0 v1 xs ys w h0 h1) hG.out.symm)
  go_wp2_with fail
  refine (cI.out _ _ _ (H1.arg hxa) (H1.arg hxb)).mono ?_
  rintro e w2 ⟨vo, rfl, ho, hb⟩
  have H2 := H1.newI ho hb
  clear ho hb H1
  go_wp2_with fail
  refine (cS.out _ _ _ (H2.arg hxa) (H2.arg hxb)).mono ?_
  rintro e w3 ⟨vw, rfl, ho, hb⟩
  have H3 := H2.newI ho hb
  clear ho hb H2
  go_wp2_with fail
  refine (equalI_T H3 (H3.items 1 rfl) (H3.items 0 rfl)).mono ?_
  rintro e w4 ⟨rfl, H4⟩
  clear H3
  obtain ⟨V, hV⟩ : ∃ V, Hid (V = validI xs) := ⟨_, Lib.hid rfl⟩
  obtain ⟨U, hU⟩ : ∃ U, Hid (U = validI ys) := ⟨_, Lib.hid rfl⟩
  have cV := Lib.hid (fun (v0 : Value) (w : World) (h0 : Items w v0 xs) => castB (ValidItems_any v0 xs w h0) hV.out.symm)
  have cU := Lib.hid (fun (v0 : Value) (w : World) (h0 : Items w v0 ys) => castB (ValidItems_any v0 ys w h0) hU.out.symm)
  go_wp2_with fail
  refine (cV.out _ _ (H4.arg hxa)).mono ?_
  rintro e w5 ⟨rfl, hb⟩
  have H5 := H4.quiet hb
  clear hb H4
  cases V
  · skip
    go_wp2_with fail
    refine (cS.out _ _ _ (H5.arg hxa) (H5.arg hxb)).mono ?_
    rintro e w6 ⟨vs, rfl, ho, hb⟩
    have H6 := H5.newI ho hb
    clear ho hb H5
    go_wp2_with fail
    refine (equalI_T H6 (H6.items 2 rfl) (H6.items 0 rfl)).mono ?_
    rintro e w7 ⟨rfl, H7⟩
    clear H6
    go_wp2
    go_ret
    exact ⟨rfl, hb1.trans (H7.below.mono hb1.size)⟩
  · have hv := hV.out.symm
    go_wp2_with fail
    refine (cU.out _ _ (H5.arg hxb)).mono ?_
    rintro e w6 ⟨rfl, hb⟩
    have H6 := H5.quiet hb
    clear hb H5
    cases U
    · skip
      go_wp2_with fail
      refine (cS.out _ _ _ (H6.arg hxa) (H6.arg hxb)).mono ?_
      rintro e w7 ⟨vs, rfl, ho, hb⟩
      have H7 := H6.newI ho hb
      clear ho hb H6
      go_wp2_with fail
      refine (equalI_T H7 (H7.items 2 rfl) (H7.items 0 rfl)).mono ?_
      rintro e w8 ⟨rfl, H8⟩
      clear H7
      go_wp2
      go_ret
      exact ⟨rfl, hb1.trans (H8.below.mono hb1.size)⟩
    · have hu := hU.out.symm
      have al := meet_algebra hv hu
      obtain ⟨A, hA⟩ : ∃ A, Hid (A = posI xs) := ⟨_, Lib.hid rfl⟩
      obtain ⟨B, hB⟩ : ∃ B, Hid (B = posI ys) := ⟨_, Lib.hid rfl⟩
      obtain ⟨M, hM⟩ : ∃ M, Hid (M = metL (posI xs) (posI ys)) := ⟨_, Lib.hid rfl⟩
      obtain ⟨M2, hM2⟩ : ∃ M2, Hid (M2 = metL ys xs) := ⟨_, Lib.hid rfl⟩
      obtain ⟨Q, hQ⟩ : ∃ Q, Hid (Q = witB (posI xs) (posI ys)) := ⟨_, Lib.hid rfl⟩
      have c1 := Lib.hid (fun (v0 : Value) (w : World) (h0 : Items w v0 xs) => castI (KeepCounts_any v0 xs w h0) ((kep_of hv).trans hA.out.symm))
      have c2 := Lib.hid (fun (v0 : Value) (w : World) (h0 : Items w v0 ys) => castI (KeepCounts_any v0 ys w h0) ((kep_of hu).trans hB.out.symm))
      have c3 := Lib.hid (fun (v0 v1 : Value) (w : World) (h0 : Items w v0 ys) (h1 : Items w v1 xs) => castI (MeetCounts_any v0 v1 ys xs w h0 h1) hM2.out.symm)
      have c4 := Lib.hid (fun (v0 v1 : Value) (w : World) (h0 : Items w v0 M2) (h1 : Items w v1 G) => castB (SameCounts_any v0 v1 M2 G w h0 h1) (show samB M2 G = true by rw [hM2.out, hG.out]; exact al.1))
      have c5 := Lib.hid (fun (v0 v1 : Value) (w : World) (h0 : Items w v0 A) (h1 : Items w v1 B) => castI (MeetCounts_any v0 v1 A B w h0 h1) (show metL A B = M by rw [hA.out, hB.out, hM.out]))
      have c6 := Lib.hid (fun (v0 v1 : Value) (w : World) (h0 : Items w v0 M) (h1 : Items w v1 A) => castB (WithinCounts_any v0 v1 M A w h0 h1) (show witB M A = true by rw [hM.out, hA.out]; exact al.2.1))
      have c7 := Lib.hid (fun (v0 v1 : Value) (w : World) (h0 : Items w v0 M) (h1 : Items w v1 B) => castB (WithinCounts_any v0 v1 M B w h0 h1) (show witB M B = true by rw [hM.out, hB.out]; exact al.2.2.1))
      have c8 := Lib.hid (fun (v0 v1 : Value) (w : World) (h0 : Items w v0 A) (h1 : Items w v1 B) => castB (WithinCounts_any v0 v1 A B w h0 h1) (show witB A B = Q by rw [hA.out, hB.out, hQ.out]))
      have c9 : Hid (Q = true → ∀ (v0 v1 : Value) (w : World), Items w v0 M → Items w v1 A → Calls Try.prog 33 #[v0, v1] w (RetQ (.bool true) w)) := fun hq v0 v1 w h0 h1 => castB (SameCounts_any v0 v1 M A w h0 h1) (show samB M A = true by rw [hM.out, hA.out]; exact al.2.2.2 (by rw [← hQ.out]; exact hq))
      clear hv hu al hG hA hB hM hM2 hQ hV hU cI cS cV cU
      go_wp2_with fail
      refine (c1.out _ _ (H6.arg hxa)).mono ?_
      rintro e w7 ⟨v1, rfl, ho, hb⟩
      have H7 := H6.newI ho hb
      clear ho hb H6
      go_wp2_with fail
      refine (c2.out _ _ (H7.arg hxb)).mono ?_
      rintro e w8 ⟨v2, rfl, ho, hb⟩
      have H8 := H7.newI ho hb
      clear ho hb H7
      go_wp2_with fail
      refine (c3.out _ _ _ (H8.arg hxb) (H8.arg hxa)).mono ?_
      rintro e w9 ⟨v3, rfl, ho, hb⟩
      have H9 := H8.newI ho hb
      clear ho hb H8
      go_wp2_with fail
      refine (c4.out _ _ _ (H9.items 0 rfl) (H9.items 4 rfl)).mono ?_
      rintro e w10 ⟨rfl, hb⟩
      have H10 := H9.quiet hb
      clear hb H9
      go_wp2_with fail
      refine (c5.out _ _ _ (H10.items 2 rfl) (H10.items 1 rfl)).mono ?_
      rintro e w11 ⟨v5, rfl, ho, hb⟩
      have H11 := H10.newI ho hb
      clear ho hb H10
      go_wp2_with fail
      refine (c6.out _ _ _ (H11.items 0 rfl) (H11.items 3 rfl)).mono ?_
      rintro e w12 ⟨rfl, hb⟩
      have H12 := H11.quiet hb
      clear hb H11
      go_wp2_with fail
      refine (c5.out _ _ _ (H12.items 3 rfl) (H12.items 2 rfl)).mono ?_
      rintro e w13 ⟨v6, rfl, ho, hb⟩
      have H13 := H12.newI ho hb
      clear ho hb H12
      go_wp2_with fail
      refine (c7.out _ _ _ (H13.items 0 rfl) (H13.items 3 rfl)).mono ?_
      rintro e w14 ⟨rfl, hb⟩
      have H14 := H13.quiet hb
      clear hb H13
      go_wp2_with fail
      refine (c8.out _ _ _ (H14.items 4 rfl) (H14.items 3 rfl)).mono ?_
      rintro e w15 ⟨rfl, hb⟩
      have H15 := H14.quiet hb
      clear hb H14
      cases Q
      · skip
        go_wp2
        go_ret
        exact ⟨rfl, hb1.trans (H15.below.mono hb1.size)⟩
      · have c10 := Lib.hid (fun (v0 v1 : Value) (w : World) (h0 : Items w v0 M) (h1 : Items w v1 A) => c9.out (by first | rfl | trivial) v0 v1 w h0 h1)
        clear c9
        go_wp2_with fail
        refine (c5.out _ _ _ (H15.items 4 rfl) (H15.items 3 rfl)).mono ?_
        rintro e w16 ⟨v7, rfl, ho, hb⟩
        have H16 := H15.newI ho hb
        clear ho hb H15
        go_wp2_with fail
        refine (c10.out _ _ _ (H16.items 0 rfl) (H16.items 5 rfl)).mono ?_
        rintro e w17 ⟨rfl, hb⟩
        have H17 := H16.quiet hb
        clear hb H16
        go_wp2
        go_ret
        exact ⟨rfl, hb1.trans (H17.below.mono hb1.size)⟩

set_option maxRecDepth 100000 in
theorem FnMeetCounts_lifted (os : Os) (started : os.Started) (H : Type) (enc : TypeId × Value → H) :
    ReturnsInHanded {} Try.checked os 9 .any (Rows.fnMeetCountsSpec.pre6 enc Try.prog Try.f9 Rows.fnMeetCountsRow.domain false) (Rows.fnMeetCountsSpec.post enc Try.prog Try.f9 false true false false) := by
  refine returnsInHanded_of_change (C := Try.checked) own started (by kernel_rfl) Try.func9
    (ChangeSpec.witness6 (enc := enc) (C := Try.checked) false ⟨#[], #[.slice none 0 0], []⟩ 8 (by kernel_rfl) (by kernel_rfl) (by kernel_rfl) (by kernel_rfl)) ?_
  intro W base args ds gs before hval0 hW _ _
  have hval : ∀ (j : Nat) t v, Try.f9.params[j]? = some t → args[j]? = some v → Value.okWide Try.prog W .any base t v := hval0
  have hW' := hW
  obtain ⟨p, q, hA0, hV, rfl, _, _⟩ := hW
  have hA : DataW.TrodAll enc Try.prog W 0 (fun _ => true) true Try.f9.params.toList args.toList ds p := hA0
  rw [Try.params9] at hA hval
  obtain ⟨v0, vs0, d0, ds0, p0, q0, hargs, rfl, rfl, h0, r0⟩ := trodAll_cons hA
  obtain ⟨rfl, rfl, rfl⟩ := trodAll_nil r0
  obtain rfl : args = #[v0] := by cases args; simp_all
  obtain ⟨rfl, rfl⟩ := trodVars_none hV
  obtain ⟨xs0, hI0⟩ := open_bytes (hval 0 _ v0 rfl rfl) h0
  refine (FnMeetCounts_walk v0 xs0 W hI0).mono fun e W' ⟨he, hb⟩ => ⟨_, he, ?_⟩
  exact law_end rfl (by rw [Try.params9]; decide +kernel) rfl hW' rfl rfl rfl hb

theorem FnMeetCounts_facts : joinedFacts Try.prog 9 Try.f9 Rows.fnMeetCountsSpec Rows.fnMeetCountsRow = true :=
  facts_of (by kernel_rfl) q2 q3 (by kernel_rfl) (by kernel_rfl) (by kernel_rfl) q7 (by kernel_rfl) q9 (by kernel_rfl) (by kernel_rfl) (by kernel_rfl) (by kernel_rfl) (by kernel_rfl) (by kernel_rfl) (by kernel_rfl) (by kernel_rfl) (by kernel_rfl) (by kernel_rfl) (by kernel_rfl) (by kernel_rfl) (by kernel_rfl)
    (by rw [q22]; kernel_rfl) (by kernel_rfl) q23 head_enter (by kernel_rfl) head_lifts head_make (by kernel_rfl) (by kernel_rfl) (by kernel_rfl) (by kernel_rfl) (by kernel_rfl)

theorem FnMeetCounts_holds : Rows.FnMeetCountsSaid :=
  OpenClaim.holds_of_wide 9 Try.f9 rfl rfl rfl rfl rfl rfl rfl ⟨rfl, rfl, rfl, rfl, rfl⟩ rfl rfl rfl rfl rfl (by kernel_rfl) Try.func9 FnMeetCounts_facts
    (of_decide_eq_true (by kernel_rfl)) (by unfold Func.isWrapper; first | (rw [if_pos (by decide +kernel)]; kernel_rfl) | (rw [if_neg (by decide +kernel)]; exact ⟨rfl, rfl⟩))
    (fun os started H enc _ => FnMeetCounts_lifted os started H enc)
end Go.Proofs.Ytloalakpkjbeaaa
