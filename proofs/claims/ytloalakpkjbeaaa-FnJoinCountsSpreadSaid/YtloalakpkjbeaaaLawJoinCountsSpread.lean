/-
  FnJoinCountsSpread: true, for every code.
-/
import Derived.Test.YtloalakpkjbeaaaP4
import Derived.Test.YtloalakpkjbeaaaP5
import Derived.Test.YtloalakpkjbeaaaP7
import Derived.Test.YtloalakpkjbeaaaP11
import Derived.Test.YtloalakpkjbeaaaP15
namespace Go.Proofs.Ytloalakpkjbeaaa
open Go.RowKit
open Go.ChangeShapes Go.WideShapes Go.ChangeAt Go.Deep

def cACB : List Itm := [(⟨#[97]⟩, 2), (⟨#[99]⟩, 1), (⟨#[98]⟩, 3)]
theorem cACB_valid : validI cACB = true := by decide
theorem cACB_ok : okI cACB := ok_valid cACB_valid
theorem cACB_pos : ∀ s, 0 ≤ cnt cACB s := cnt_nonneg' (by decide)

set_option maxHeartbeats 3200000 in
set_option maxRecDepth 100000 in
theorem FnJoinCountsSpread_walk (v : Value) (bs : List Int) (w : World) (h : Bytes w v bs) :
    Calls Try.prog 11 #[v] w fun e w' => e = .returned (.bool true) ∧ Below w.heap.size w w' := by
  have h0 := h
  obtain ⟨ao, cap, rfl, hl, hc, hok, hcell⟩ := h0
  clear hcell hok
  go_enter Try.func11, Try.ntmps11
  by_cases hbig : (1048576 : Int) < (bs.length : Int)
  · go_wp2
    go_ret
    exact ⟨rfl, Below.refl _ _⟩
  go_wp2_with fail
  refine (DrawJoinCounts_any _ bs w h).mono ?_
  rintro e w1 ⟨va, xs, vb, ys, rfl, hlen, hxa, hxb, hb1⟩
  have H1 := Things.nil w1
  obtain ⟨G, hG⟩ : ∃ G, Hid (G = joiL xs ys) := ⟨_, Lib.hid rfl⟩
  obtain ⟨K, hK⟩ : ∃ K, Hid (K = joiB xs ys) := ⟨_, Lib.hid rfl⟩
  have cI := Lib.hid (fun (v0 v1 : Value) (w : World) (h0 : Items w v0 xs) (h1 : Items w v1 ys) => castI2 (JoinCounts_any v0 v1 xs ys w h0 h1) hG.out.symm hK.out.symm)
  have cS := Lib.hid (fun (v0 v1 : Value) (w : World) (h0 : Items w v0 xs) (h1 : Items w v1 ys) => castI2 (sJoinCounts_any v0 v1 xs ys w h0 h1) hG.out.symm hK.out.symm)
  go_wp2_with fail
  refine (cI.out _ _ _ (H1.arg hxa) (H1.arg hxb)).mono ?_
  rintro e w2 ⟨vo, rfl, ho, hb⟩
  have H2 := H1.newI ho hb
  clear ho hb H1
  go_wp2_with fail
  refine (cS.out _ _ _ (H2.arg hxa) (H2.arg hxb)).mono ?_
  rintro e w3 ⟨vw, rfl, ho, hb⟩
  have H3 := H2.newI ho hb
  clear ho hb H2
  clear cI cS
  go_wp2_with fail
  refine (equalI_T H3 (H3.items 1 rfl) (H3.items 0 rfl)).mono ?_
  rintro e w4 ⟨rfl, H4⟩
  clear H3
  cases K
  · skip
    go_wp2_with fail
    refine (equalI_T H4 (H4.items 1 rfl) (H4.items 0 rfl)).mono ?_
    rintro e w5 ⟨rfl, H5⟩
    clear H4
    go_wp2
    go_ret
    exact ⟨rfl, hb1.trans (H5.below.mono hb1.size)⟩
  · have hk := hK.out.symm
    have hp := joi_parts hk
    have al := spread_algebra hk cACB_valid cACB_pos
    obtain ⟨A, hA⟩ : ∃ A, Hid (A = posI xs) := ⟨_, Lib.hid rfl⟩
    obtain ⟨B, hB⟩ : ∃ B, Hid (B = posI ys) := ⟨_, Lib.hid rfl⟩
    obtain ⟨J, hJ⟩ : ∃ J, Hid (J = joiL (posI xs) (posI ys)) := ⟨_, Lib.hid rfl⟩
    obtain ⟨M, hM⟩ : ∃ M, Hid (M = metL (joiL (posI xs) (posI ys)) cACB) := ⟨_, Lib.hid rfl⟩
    obtain ⟨X, hX⟩ : ∃ X, Hid (X = metL (posI xs) cACB) := ⟨_, Lib.hid rfl⟩
    obtain ⟨Y, hY⟩ : ∃ Y, Hid (Y = metL (posI ys) cACB) := ⟨_, Lib.hid rfl⟩
    obtain ⟨Z, hZ⟩ : ∃ Z, Hid (Z = joiL (metL (posI xs) cACB) (metL (posI ys) cACB)) := ⟨_, Lib.hid rfl⟩
    have c1 := Lib.hid (fun (v0 : Value) (w : World) (h0 : Items w v0 xs) => castI (KeepCounts_any v0 xs w h0) ((kep_of hp.1).trans hA.out.symm))
    have c2 := Lib.hid (fun (v0 : Value) (w : World) (h0 : Items w v0 ys) => castI (KeepCounts_any v0 ys w h0) ((kep_of hp.2.1).trans hB.out.symm))
    have c3 := Lib.hid (fun (v0 v1 : Value) (w : World) (h0 : Items w v0 A) (h1 : Items w v1 B) => castI2 (JoinCounts_any v0 v1 A B w h0 h1) (show joiL A B = J by rw [hA.out, hB.out, hJ.out]) (show joiB A B = true by rw [hA.out, hB.out]; exact al.1))
    have c4 := Lib.hid (fun (v0 v1 : Value) (w : World) (h0 : Items w v0 J) (h1 : Items w v1 cACB) => castI (MeetCounts_any v0 v1 J cACB w h0 h1) (show metL J cACB = M by rw [hJ.out, hM.out]))
    have c5 := Lib.hid (fun (v0 v1 : Value) (w : World) (h0 : Items w v0 A) (h1 : Items w v1 cACB) => castI (MeetCounts_any v0 v1 A cACB w h0 h1) (show metL A cACB = X by rw [hA.out, hX.out]))
    have c6 := Lib.hid (fun (v0 v1 : Value) (w : World) (h0 : Items w v0 B) (h1 : Items w v1 cACB) => castI (MeetCounts_any v0 v1 B cACB w h0 h1) (show metL B cACB = Y by rw [hB.out, hY.out]))
    have c7 := Lib.hid (fun (v0 v1 : Value) (w : World) (h0 : Items w v0 X) (h1 : Items w v1 Y) => castI2 (JoinCounts_any v0 v1 X Y w h0 h1) (show joiL X Y = Z by rw [hX.out, hY.out, hZ.out]) (show joiB X Y = true by rw [hX.out, hY.out]; exact al.2.1))
    have c8 := Lib.hid (fun (v0 v1 : Value) (w : World) (h0 : Items w v0 M) (h1 : Items w v1 Z) => castB (SameCounts_any v0 v1 M Z w h0 h1) (show samB M Z = true by rw [hM.out, hZ.out]; exact al.2.2.1))
    have c9 := Lib.hid (fun (v0 : Value) (w : World) (h0 : Items w v0 G) => castB (ValidItems_any v0 G w h0) (show validI G = true by rw [hG.out]; exact al.2.2.2))
    clear hk hp al hG hK hA hB hJ hM hX hY hZ
    have H5 := H4.lit cACB #[.string ⟨#[97]⟩, .int .i64 2, .string ⟨#[99]⟩, .int .i64 1, .string ⟨#[98]⟩, .int .i64 3] 3 rfl rfl (by decide) cACB_ok
    clear H4
    go_wp2_with fail
    refine (c1.out _ _ (H5.arg hxa)).mono ?_
    rintro e w6 ⟨v1, rfl, ho, hb⟩
    have H6 := H5.newI ho hb
    clear ho hb H5
    go_wp2_with fail
    refine (c2.out _ _ (H6.arg hxb)).mono ?_
    rintro e w7 ⟨v2, rfl, ho, hb⟩
    have H7 := H6.newI ho hb
    clear ho hb H6
    go_wp2_with fail
    refine (c3.out _ _ _ (H7.items 1 rfl) (H7.items 0 rfl)).mono ?_
    rintro e w8 ⟨v3, rfl, ho, hb⟩
    have H8 := H7.newI ho hb
    clear ho hb H7
    go_wp2_with fail
    refine (c4.out _ _ _ (H8.items 0 rfl) (H8.items 3 rfl)).mono ?_
    rintro e w9 ⟨v4, rfl, ho, hb⟩
    have H9 := H8.newI ho hb
    clear ho hb H8
    go_wp2_with fail
    refine (c5.out _ _ _ (H9.items 3 rfl) (H9.items 4 rfl)).mono ?_
    rintro e w10 ⟨v5, rfl, ho, hb⟩
    have H10 := H9.newI ho hb
    clear ho hb H9
    go_wp2_with fail
    refine (c6.out _ _ _ (H10.items 3 rfl) (H10.items 5 rfl)).mono ?_
    rintro e w11 ⟨v6, rfl, ho, hb⟩
    have H11 := H10.newI ho hb
    clear ho hb H10
    go_wp2_with fail
    refine (c7.out _ _ _ (H11.items 1 rfl) (H11.items 0 rfl)).mono ?_
    rintro e w12 ⟨v7, rfl, ho, hb⟩
    have H12 := H11.newI ho hb
    clear ho hb H11
    go_wp2_with fail
    refine (c8.out _ _ _ (H12.items 3 rfl) (H12.items 0 rfl)).mono ?_
    rintro e w13 ⟨rfl, hb⟩
    have H13 := H12.quiet hb
    clear hb H12
    go_wp2_with fail
    refine (c9.out _ _ (H13.items 9 rfl)).mono ?_
    rintro e w14 ⟨rfl, hb⟩
    have H14 := H13.quiet hb
    clear hb H13
    go_wp2
    go_ret
    exact ⟨rfl, hb1.trans (H14.below.mono hb1.size)⟩

set_option maxRecDepth 100000 in
theorem FnJoinCountsSpread_lifted (os : Os) (started : os.Started) (H : Type) (enc : TypeId × Value → H) :
    ReturnsInHanded {} Try.checked os 11 .any (Rows.fnJoinCountsSpreadSpec.pre6 enc Try.prog Try.f11 Rows.fnJoinCountsSpreadRow.domain false) (Rows.fnJoinCountsSpreadSpec.post enc Try.prog Try.f11 false true false false) := by
  refine returnsInHanded_of_change (C := Try.checked) own started (by kernel_rfl) Try.func11
    (ChangeSpec.witness6 (enc := enc) (C := Try.checked) false ⟨#[], #[.slice none 0 0], []⟩ 8 (by kernel_rfl) (by kernel_rfl) (by kernel_rfl) (by kernel_rfl)) ?_
  intro W base args ds gs before hval0 hW _ _
  have hval : ∀ (j : Nat) t v, Try.f11.params[j]? = some t → args[j]? = some v → Value.okWide Try.prog W .any base t v := hval0
  have hW' := hW
  obtain ⟨p, q, hA0, hV, rfl, _, _⟩ := hW
  have hA : DataW.TrodAll enc Try.prog W 0 (fun _ => true) true Try.f11.params.toList args.toList ds p := hA0
  rw [Try.params11] at hA hval
  obtain ⟨v0, vs0, d0, ds0, p0, q0, hargs, rfl, rfl, h0, r0⟩ := trodAll_cons hA
  obtain ⟨rfl, rfl, rfl⟩ := trodAll_nil r0
  obtain rfl : args = #[v0] := by cases args; simp_all
  obtain ⟨rfl, rfl⟩ := trodVars_none hV
  obtain ⟨xs0, hI0⟩ := open_bytes (hval 0 _ v0 rfl rfl) h0
  refine (FnJoinCountsSpread_walk v0 xs0 W hI0).mono fun e W' ⟨he, hb⟩ => ⟨_, he, ?_⟩
  exact law_end rfl (by rw [Try.params11]; decide +kernel) rfl hW' rfl rfl rfl hb

theorem FnJoinCountsSpread_facts : joinedFacts Try.prog 11 Try.f11 Rows.fnJoinCountsSpreadSpec Rows.fnJoinCountsSpreadRow = true :=
  facts_of (by kernel_rfl) q2 q3 (by kernel_rfl) (by kernel_rfl) (by kernel_rfl) q7 (by kernel_rfl) q9 (by kernel_rfl) (by kernel_rfl) (by kernel_rfl) (by kernel_rfl) (by kernel_rfl) (by kernel_rfl) (by kernel_rfl) (by kernel_rfl) (by kernel_rfl) (by kernel_rfl) (by kernel_rfl) (by kernel_rfl) (by kernel_rfl)
    (by rw [q22]; kernel_rfl) (by kernel_rfl) q23 head_enter (by kernel_rfl) head_lifts head_make (by kernel_rfl) (by kernel_rfl) (by kernel_rfl) (by kernel_rfl) (by kernel_rfl)

theorem FnJoinCountsSpread_holds : Rows.FnJoinCountsSpreadSaid :=
  OpenClaim.holds_of_wide 11 Try.f11 rfl rfl rfl rfl rfl rfl rfl ⟨rfl, rfl, rfl, rfl, rfl⟩ rfl rfl rfl rfl rfl (by kernel_rfl) Try.func11 FnJoinCountsSpread_facts
    (of_decide_eq_true (by kernel_rfl)) (by unfold Func.isWrapper; first | (rw [if_pos (by decide +kernel)]; kernel_rfl) | (rw [if_neg (by decide +kernel)]; exact ⟨rfl, rfl⟩))
    (fun os started H enc _ => FnJoinCountsSpread_lifted os started H enc)
end Go.Proofs.Ytloalakpkjbeaaa
