/-
  FnLessCounts: true, for every code.
-/
import Derived.Test.YtloalakpkjbeaaaCst
import Derived.Test.YtloalakpkjbeaaaCal
import Derived.Test.YtloalakpkjbeaaaLwI
import Derived.Test.YtloalakpkjbeaaaSpec3
import Derived.Test.YtloalakpkjbeaaaImpl2
import Derived.Test.YtloalakpkjbeaaaImpl1
namespace Go.Proofs.Ytloalakpkjbeaaa
open Go.RowKit
open Go.ChangeShapes Go.WideShapes Go.ChangeAt Go.Deep

set_option maxHeartbeats 3200000 in
set_option maxRecDepth 100000 in
theorem FnLessCounts_walk (v : Value) (bs : List Int) (w : World) (h : Bytes w v bs) :
    Calls Try.prog 8 #[v] w fun e w' => e = .returned (.bool true) ∧ Below w.heap.size w w' := by
  have h0 := h
  obtain ⟨ao, cap, rfl, hl, hc, hok, hcell⟩ := h0
  clear hcell hok
  go_enter Try.func8, Try.ntmps8
  by_cases hbig : (1048576 : Int) < (bs.length : Int)
  · go_wp2
    go_ret
    exact ⟨rfl, Below.refl _ _⟩
  go_wp2_with fail
  refine (DrawLessCounts_any _ bs w h).mono ?_
  rintro e w1 ⟨va, xs, vb, ys, rfl, hlen, hxa, hxb, hb1⟩
  have H1 := Things.nil w1
  obtain ⟨G, hG⟩ : ∃ G, Hid (G = lesL xs ys) := ⟨_, rfl⟩
  obtain ⟨K, hK⟩ : ∃ K, Hid (K = lesB xs ys) := ⟨_, rfl⟩
  have cI := Lib.hid (fun (v0 v1 : Value) (w : World) (h0 : Items w v0 xs) (h1 : Items w v1 ys) => castI2 (LessCounts_any v0 v1 xs ys w h0 h1) hG.out.symm hK.out.symm)
  have cS := Lib.hid (fun (v0 v1 : Value) (w : World) (h0 : Items w v0 xs) (h1 : Items w v1 ys) => castI2 (sLessCounts_any v0 v1 xs ys w h0 h1) hG.out.symm hK.out.symm)
  go_wp2_with fail
  refine (cI.out va vb _ (H1.arg hxa) (H1.arg hxb)).mono ?_
  rintro e w2 ⟨vo, rfl, ho, hb⟩
  have H2 := H1.newI ho hb
  clear ho hb H1
  go_wp2_with fail
  refine (cS.out va vb _ (H2.arg hxa) (H2.arg hxb)).mono ?_
  rintro e w3 ⟨vw, rfl, ho, hb⟩
  have H3 := H2.newI ho hb
  clear ho hb H2
  clear cI cS
  go_wp2_with fail
  refine (equalI_T H3 (H3.items 1 rfl) (H3.items 0 rfl)).mono ?_
  rintro e w4 ⟨rfl, H4⟩
  clear H3
  cases K
  · skip
    go_wp2_with fail
    refine (equalI_T H4 (H4.items 1 rfl) (H4.items 0 rfl)).mono ?_
    rintro e w5 ⟨rfl, H5⟩
    clear H4
    go_wp2
    go_ret
    exact ⟨rfl, hb1.trans (H5.below.mono hb1.size)⟩
  · have hk := hK.out.symm
    have hp := les_parts hk
    have al := less_algebra (valid_posI hp.1) (valid_posI hp.2.1) nonneg_pos nonneg_pos
    obtain ⟨A, hA⟩ : ∃ A, Hid (A = posI xs) := ⟨_, rfl⟩
    obtain ⟨B, hB⟩ : ∃ B, Hid (B = posI ys) := ⟨_, rfl⟩
    obtain ⟨D, hD⟩ : ∃ D, Hid (D = lesL (posI xs) (posI ys)) := ⟨_, rfl⟩
    obtain ⟨M, hM⟩ : ∃ M, Hid (M = metL (posI xs) (posI ys)) := ⟨_, rfl⟩
    obtain ⟨S, hS⟩ : ∃ S, Hid (S = addL (lesL (posI xs) (posI ys)) (metL (posI xs) (posI ys))) := ⟨_, rfl⟩
    have c1 := Lib.hid (fun (v0 : Value) (w : World) (h0 : Items w v0 xs) => castI (KeepCounts_any v0 xs w h0) ((kep_of hp.1).trans hA.out.symm))
    have c2 := Lib.hid (fun (v0 : Value) (w : World) (h0 : Items w v0 ys) => castI (KeepCounts_any v0 ys w h0) ((kep_of hp.2.1).trans hB.out.symm))
    have c3 := Lib.hid (fun (v0 v1 : Value) (w : World) (h0 : Items w v0 A) (h1 : Items w v1 B) => castI2 (LessCounts_any v0 v1 A B w h0 h1) (show lesL A B = D by rw [hA.out, hB.out, hD.out]) (show lesB A B = true by rw [hA.out, hB.out]; exact al.1))
    have c4 := Lib.hid (fun (v0 v1 : Value) (w : World) (h0 : Items w v0 A) (h1 : Items w v1 B) => castI (MeetCounts_any v0 v1 A B w h0 h1) (show metL A B = M by rw [hA.out, hB.out, hM.out]))
    have c5 := Lib.hid (fun (v0 v1 : Value) (w : World) (h0 : Items w v0 D) (h1 : Items w v1 M) => castI2 (AddCounts_any v0 v1 D M w h0 h1) (show addL D M = S by rw [hD.out, hM.out, hS.out]) (show addB D M = true by rw [hD.out, hM.out]; exact al.2.1))
    have c6 := Lib.hid (fun (v0 v1 : Value) (w : World) (h0 : Items w v0 S) (h1 : Items w v1 A) => castB (SameCounts_any v0 v1 S A w h0 h1) (show samB S A = true by rw [hS.out, hA.out]; exact al.2.2))
    have c7 := Lib.hid (fun (v0 : Value) (w : World) (h0 : Items w v0 G) => castI (KeepCounts_any v0 G w h0) (show kepL G = G by rw [hG.out, (les_of hp.1 hp.2.1 hp.2.2).1, kep_of hp.2.2]; exact pos_self pos_pos))
    clear hk hp al hG hK hA hB hD hM hS
    go_wp2_with fail
    refine (c1.out va _ (H4.arg hxa)).mono ?_
    rintro e w5 ⟨v1, rfl, ho, hb⟩
    have H5 := H4.newI ho hb
    clear ho hb H4
    go_wp2_with fail
    refine (c2.out vb _ (H5.arg hxb)).mono ?_
    rintro e w6 ⟨v2, rfl, ho, hb⟩
    have H6 := H5.newI ho hb
    clear ho hb H5
    go_wp2_with fail
    refine (c3.out v1 v2 _ (H6.items 1 rfl) (H6.items 0 rfl)).mono ?_
    rintro e w7 ⟨v3, rfl, ho, hb⟩
    have H7 := H6.newI ho hb
    clear ho hb H6
    go_wp2_with fail
    refine (c4.out v1 v2 _ (H7.items 2 rfl) (H7.items 1 rfl)).mono ?_
    rintro e w8 ⟨v4, rfl, ho, hb⟩
    have H8 := H7.newI ho hb
    clear ho hb H7
    go_wp2_with fail
    refine (c5.out v3 v4 _ (H8.items 1 rfl) (H8.items 0 rfl)).mono ?_
    rintro e w9 ⟨v5, rfl, ho, hb⟩
    have H9 := H8.newI ho hb
    clear ho hb H8
    go_wp2_with fail
    refine (c6.out v5 v1 _ (H9.items 0 rfl) (H9.items 4 rfl)).mono ?_
    rintro e w10 ⟨rfl, hb⟩
    have H10 := H9.quiet hb
    clear hb H9
    go_wp2_with fail
    refine (c7.out vo _ (H10.items 6 rfl)).mono ?_
    rintro e w11 ⟨v7, rfl, ho, hb⟩
    have H11 := H10.newI ho hb
    clear ho hb H10
    go_wp2_with fail
    refine (equalI_T H11 (H11.items 0 rfl) (H11.items 7 rfl)).mono ?_
    rintro e w12 ⟨rfl, H12⟩
    clear H11
    go_wp2
    go_ret
    exact ⟨rfl, hb1.trans (H12.below.mono hb1.size)⟩

set_option maxRecDepth 100000 in
theorem FnLessCounts_lifted (os : Os) (started : os.Started) (H : Type) (enc : TypeId × Value → H) :
    ReturnsInHanded {} Try.checked os 8 .any (Rows.fnLessCountsSpec.pre6 enc Try.prog Try.f8 Rows.fnLessCountsRow.domain false) (Rows.fnLessCountsSpec.post enc Try.prog Try.f8 false true false false) := by
  refine returnsInHanded_of_change (C := Try.checked) own started (by kernel_rfl) Try.func8
    (ChangeSpec.witness6 (enc := enc) (C := Try.checked) false ⟨#[], #[.slice none 0 0], []⟩ 8 (by kernel_rfl) (by kernel_rfl) (by kernel_rfl) (by kernel_rfl)) ?_
  intro W base args ds gs before hval0 hW _ _
  have hval : ∀ (j : Nat) t v, Try.f8.params[j]? = some t → args[j]? = some v → Value.okWide Try.prog W .any base t v := hval0
  have hW' := hW
  obtain ⟨p, q, hA0, hV, rfl, _, _⟩ := hW
  have hA : DataW.TrodAll enc Try.prog W 0 (fun _ => true) true Try.f8.params.toList args.toList ds p := hA0
  rw [Try.params8] at hA hval
  obtain ⟨v0, vs0, d0, ds0, p0, q0, hargs, rfl, rfl, h0, r0⟩ := trodAll_cons hA
  obtain ⟨rfl, rfl, rfl⟩ := trodAll_nil r0
  obtain rfl : args = #[v0] := by cases args; simp_all
  obtain ⟨rfl, rfl⟩ := trodVars_none hV
  obtain ⟨xs0, hI0⟩ := open_bytes (hval 0 _ v0 rfl rfl) h0
  refine (FnLessCounts_walk v0 xs0 W hI0).mono fun e W' ⟨he, hb⟩ => ⟨_, he, ?_⟩
  exact law_end rfl (by rw [Try.params8]; decide +kernel) rfl hW' rfl rfl rfl hb

theorem FnLessCounts_facts : joinedFacts Try.prog 8 Try.f8 Rows.fnLessCountsSpec Rows.fnLessCountsRow = true :=
  facts_of (by kernel_rfl) q2 q3 (by kernel_rfl) (by kernel_rfl) (by kernel_rfl) q7 (by kernel_rfl) q9 (by kernel_rfl) (by kernel_rfl) (by kernel_rfl) (by kernel_rfl) (by kernel_rfl) (by kernel_rfl) (by kernel_rfl) (by kernel_rfl) (by kernel_rfl) (by kernel_rfl) (by kernel_rfl) (by kernel_rfl) (by kernel_rfl)
    (by rw [q22]; kernel_rfl) (by kernel_rfl) q23 head_enter (by kernel_rfl) head_lifts head_make (by kernel_rfl) (by kernel_rfl) (by kernel_rfl) (by kernel_rfl) (by kernel_rfl)

theorem FnLessCounts_holds : Rows.FnLessCountsSaid :=
  OpenClaim.holds_of_wide 8 Try.f8 rfl rfl rfl rfl rfl rfl rfl ⟨rfl, rfl, rfl, rfl, rfl⟩ rfl rfl rfl rfl rfl (by kernel_rfl) Try.func8 FnLessCounts_facts
    (of_decide_eq_true (by kernel_rfl)) (by unfold Func.isWrapper; first | (rw [if_pos (by decide +kernel)]; kernel_rfl) | (rw [if_neg (by decide +kernel)]; exact ⟨rfl, rfl⟩))
    (fun os started H enc _ => FnLessCounts_lifted os started H enc)
end Go.Proofs.Ytloalakpkjbeaaa
