/-
  FnAddCountsChain: true, for every code.
-/
import Derived.Test.YtloalakpkjbeaaaCst
import Derived.Test.YtloalakpkjbeaaaCal
import Derived.Test.YtloalakpkjbeaaaLwI
import Derived.Test.YtloalakpkjbeaaaSpec3
import Derived.Test.YtloalakpkjbeaaaImpl2
import Derived.Test.YtloalakpkjbeaaaImpl1
namespace Go.Proofs.Ytloalakpkjbeaaa
open Go.RowKit
open Go.ChangeShapes Go.WideShapes Go.ChangeAt Go.Deep

def cAB : List Itm := [(⟨#[97]⟩, 2), (⟨#[98]⟩, 1)]
theorem cAB_valid : validI cAB = true := by decide
theorem cAB_ok : okI cAB := ok_valid cAB_valid
theorem cAB_pos : ∀ s, 0 ≤ cnt cAB s := cnt_nonneg' (by decide)

set_option maxHeartbeats 3200000 in
set_option maxRecDepth 100000 in
theorem FnAddCountsChain_walk (v : Value) (bs : List Int) (w : World) (h : Bytes w v bs) :
    Calls Try.prog 7 #[v] w fun e w' => e = .returned (.bool true) ∧ Below w.heap.size w w' := by
  have h0 := h
  obtain ⟨ao, cap, rfl, hl, hc, hok, hcell⟩ := h0
  clear hcell hok
  go_enter Try.func7, Try.ntmps7
  by_cases hbig : (1048576 : Int) < (bs.length : Int)
  · go_wp2
    go_ret
    exact ⟨rfl, Below.refl _ _⟩
  go_wp2_with fail
  refine (DrawAddCounts_any _ bs w h).mono ?_
  rintro e w1 ⟨va, xs, vb, ys, rfl, hlen, hxa, hxb, hb1⟩
  have H1 := Things.nil w1
  obtain ⟨G, hG⟩ : ∃ G, Hid (G = addL xs ys) := ⟨_, Lib.hid rfl⟩
  obtain ⟨K, hK⟩ : ∃ K, Hid (K = addB xs ys) := ⟨_, Lib.hid rfl⟩
  have cI := Lib.hid (fun (v0 v1 : Value) (w : World) (h0 : Items w v0 xs) (h1 : Items w v1 ys) => castI2 (AddCounts_any v0 v1 xs ys w h0 h1) hG.out.symm hK.out.symm)
  have cS := Lib.hid (fun (v0 v1 : Value) (w : World) (h0 : Items w v0 xs) (h1 : Items w v1 ys) => castI2 (sAddCounts_any v0 v1 xs ys w h0 h1) hG.out.symm hK.out.symm)
  go_wp2_with fail
  refine (cI.out _ _ _ (H1.arg hxa) (H1.arg hxb)).mono ?_
  rintro e w2 ⟨vo, rfl, ho, hb⟩
  have H2 := H1.newI ho hb
  clear ho hb H1
  go_wp2_with fail
  refine (cS.out _ _ _ (H2.arg hxa) (H2.arg hxb)).mono ?_
  rintro e w3 ⟨vw, rfl, ho, hb⟩
  have H3 := H2.newI ho hb
  clear ho hb H2
  clear cI cS
  go_wp2_with fail
  refine (equalI_T H3 (H3.items 1 rfl) (H3.items 0 rfl)).mono ?_
  rintro e w4 ⟨rfl, H4⟩
  clear H3
  cases K
  · skip
    go_wp2_with fail
    refine (equalI_T H4 (H4.items 1 rfl) (H4.items 0 rfl)).mono ?_
    rintro e w5 ⟨rfl, H5⟩
    clear H4
    go_wp2
    go_ret
    exact ⟨rfl, hb1.trans (H5.below.mono hb1.size)⟩
  · have hk := hK.out.symm
    have hp := add_parts hk
    obtain ⟨A, hA⟩ : ∃ A, Hid (A = posI xs) := ⟨_, Lib.hid rfl⟩
    obtain ⟨B, hB⟩ : ∃ B, Hid (B = posI ys) := ⟨_, Lib.hid rfl⟩
    have c1 := Lib.hid (fun (v0 : Value) (w : World) (h0 : Items w v0 xs) => castI (KeepCounts_any v0 xs w h0) ((kep_of hp.1).trans hA.out.symm))
    have c2 := Lib.hid (fun (v0 : Value) (w : World) (h0 : Items w v0 ys) => castI (KeepCounts_any v0 ys w h0) ((kep_of hp.2.1).trans hB.out.symm))
    obtain ⟨X, hX⟩ : ∃ X, Hid (X = addL A B) := ⟨_, Lib.hid rfl⟩
    obtain ⟨P, hP⟩ : ∃ P, Hid (P = addB A B) := ⟨_, Lib.hid rfl⟩
    obtain ⟨Y, hY⟩ : ∃ Y, Hid (Y = addL X cAB) := ⟨_, Lib.hid rfl⟩
    obtain ⟨Q, hQ⟩ : ∃ Q, Hid (Q = addB X cAB) := ⟨_, Lib.hid rfl⟩
    obtain ⟨Z, hZ⟩ : ∃ Z, Hid (Z = addL B cAB) := ⟨_, Lib.hid rfl⟩
    obtain ⟨R, hR⟩ : ∃ R, Hid (R = addB B cAB) := ⟨_, Lib.hid rfl⟩
    obtain ⟨O, hO⟩ : ∃ O, Hid (O = addL A Z) := ⟨_, Lib.hid rfl⟩
    obtain ⟨S, hS⟩ : ∃ S, Hid (S = addB A Z) := ⟨_, Lib.hid rfl⟩
    have c3 := Lib.hid (fun (v0 v1 : Value) (w : World) (h0 : Items w v0 A) (h1 : Items w v1 B) => castI2 (AddCounts_any v0 v1 A B w h0 h1) hX.out.symm hP.out.symm)
    have c4 := Lib.hid (fun (v0 v1 : Value) (w : World) (h0 : Items w v0 X) (h1 : Items w v1 cAB) => castI2 (AddCounts_any v0 v1 X cAB w h0 h1) hY.out.symm hQ.out.symm)
    have c5 := Lib.hid (fun (v0 v1 : Value) (w : World) (h0 : Items w v0 B) (h1 : Items w v1 cAB) => castI2 (AddCounts_any v0 v1 B cAB w h0 h1) hZ.out.symm hR.out.symm)
    have c6 := Lib.hid (fun (v0 v1 : Value) (w : World) (h0 : Items w v0 A) (h1 : Items w v1 Z) => castI2 (AddCounts_any v0 v1 A Z w h0 h1) hO.out.symm hS.out.symm)
    have al : Hid (P = true → Q = true → R = true → S = true ∧ samB Y O = true) := fun hp1 hq1 hr1 => by
      rw [hP.out] at hp1
      rw [hQ.out, hX.out] at hq1
      rw [hR.out] at hr1
      rw [hS.out, hY.out, hO.out, hX.out, hZ.out]
      rw [hA.out, hB.out] at hp1 hq1 ⊢
      rw [hB.out] at hr1
      exact chain_algebra (valid_posI hp.1) (valid_posI hp.2.1) cAB_valid nonneg_pos nonneg_pos cAB_pos hp1 hq1 hr1
    clear hk hp hG hK hA hB hX hP hY hQ hZ hR hO hS
    go_wp2_with fail
    refine (c1.out _ _ (H4.arg hxa)).mono ?_
    rintro e w5 ⟨v1, rfl, ho, hb⟩
    have H5 := H4.newI ho hb
    clear ho hb H4
    go_wp2_with fail
    refine (c2.out _ _ (H5.arg hxb)).mono ?_
    rintro e w6 ⟨v2, rfl, ho, hb⟩
    have H6 := H5.newI ho hb
    clear ho hb H5
    have H7 := H6.lit cAB #[.string ⟨#[97]⟩, .int .i64 2, .string ⟨#[98]⟩, .int .i64 1] 2 rfl rfl (by decide) cAB_ok
    clear H6
    go_wp2_with fail
    refine (c3.out _ _ _ (H7.items 2 rfl) (H7.items 1 rfl)).mono ?_
    rintro e w8 ⟨v3, rfl, ho, hb⟩
    have H8 := H7.newI ho hb
    clear ho hb H7
    go_wp2_with fail
    refine (c4.out _ _ _ (H8.items 0 rfl) (H8.items 1 rfl)).mono ?_
    rintro e w9 ⟨v4, rfl, ho, hb⟩
    have H9 := H8.newI ho hb
    clear ho hb H8
    go_wp2_with fail
    refine (c5.out _ _ _ (H9.items 3 rfl) (H9.items 2 rfl)).mono ?_
    rintro e w10 ⟨v5, rfl, ho, hb⟩
    have H10 := H9.newI ho hb
    clear ho hb H9
    go_wp2_with fail
    refine (c6.out _ _ _ (H10.items 5 rfl) (H10.items 0 rfl)).mono ?_
    rintro e w11 ⟨v6, rfl, ho, hb⟩
    have H11 := H10.newI ho hb
    clear ho hb H10
    cases P
    · skip
      go_wp2
      go_ret
      exact ⟨rfl, hb1.trans (H11.below.mono hb1.size)⟩
    · skip
      cases Q
      · skip
        go_wp2
        go_ret
        exact ⟨rfl, hb1.trans (H11.below.mono hb1.size)⟩
      · skip
        cases R
        · skip
          go_wp2
          go_ret
          exact ⟨rfl, hb1.trans (H11.below.mono hb1.size)⟩
        · skip
          obtain ⟨hs, hm⟩ := al.out (by first | rfl | trivial) (by first | rfl | trivial) (by first | rfl | trivial)
          subst hs
          clear al
          have c7 := Lib.hid (fun (v0 v1 : Value) (w : World) (h0 : Items w v0 Y) (h1 : Items w v1 O) => castB (SameCounts_any v0 v1 Y O w h0 h1) (show samB Y O = true from hm))
          clear hm
          go_wp2_with fail
          refine (c7.out _ _ _ (H11.items 2 rfl) (H11.items 0 rfl)).mono ?_
          rintro e w12 ⟨rfl, hb⟩
          have H12 := H11.quiet hb
          clear hb H11
          go_wp2
          go_ret
          exact ⟨rfl, hb1.trans (H12.below.mono hb1.size)⟩

set_option maxRecDepth 100000 in
theorem FnAddCountsChain_lifted (os : Os) (started : os.Started) (H : Type) (enc : TypeId × Value → H) :
    ReturnsInHanded {} Try.checked os 7 .any (Rows.fnAddCountsChainSpec.pre6 enc Try.prog Try.f7 Rows.fnAddCountsChainRow.domain false) (Rows.fnAddCountsChainSpec.post enc Try.prog Try.f7 false true false false) := by
  refine returnsInHanded_of_change (C := Try.checked) own started (by kernel_rfl) Try.func7
    (ChangeSpec.witness6 (enc := enc) (C := Try.checked) false ⟨#[], #[.slice none 0 0], []⟩ 8 (by kernel_rfl) (by kernel_rfl) (by kernel_rfl) (by kernel_rfl)) ?_
  intro W base args ds gs before hval0 hW _ _
  have hval : ∀ (j : Nat) t v, Try.f7.params[j]? = some t → args[j]? = some v → Value.okWide Try.prog W .any base t v := hval0
  have hW' := hW
  obtain ⟨p, q, hA0, hV, rfl, _, _⟩ := hW
  have hA : DataW.TrodAll enc Try.prog W 0 (fun _ => true) true Try.f7.params.toList args.toList ds p := hA0
  rw [Try.params7] at hA hval
  obtain ⟨v0, vs0, d0, ds0, p0, q0, hargs, rfl, rfl, h0, r0⟩ := trodAll_cons hA
  obtain ⟨rfl, rfl, rfl⟩ := trodAll_nil r0
  obtain rfl : args = #[v0] := by cases args; simp_all
  obtain ⟨rfl, rfl⟩ := trodVars_none hV
  obtain ⟨xs0, hI0⟩ := open_bytes (hval 0 _ v0 rfl rfl) h0
  refine (FnAddCountsChain_walk v0 xs0 W hI0).mono fun e W' ⟨he, hb⟩ => ⟨_, he, ?_⟩
  exact law_end rfl (by rw [Try.params7]; decide +kernel) rfl hW' rfl rfl rfl hb

theorem FnAddCountsChain_facts : joinedFacts Try.prog 7 Try.f7 Rows.fnAddCountsChainSpec Rows.fnAddCountsChainRow = true :=
  facts_of (by kernel_rfl) q2 q3 (by kernel_rfl) (by kernel_rfl) (by kernel_rfl) q7 (by kernel_rfl) q9 (by kernel_rfl) (by kernel_rfl) (by kernel_rfl) (by kernel_rfl) (by kernel_rfl) (by kernel_rfl) (by kernel_rfl) (by kernel_rfl) (by kernel_rfl) (by kernel_rfl) (by kernel_rfl) (by kernel_rfl) (by kernel_rfl)
    (by rw [q22]; kernel_rfl) (by kernel_rfl) q23 head_enter (by kernel_rfl) head_lifts head_make (by kernel_rfl) (by kernel_rfl) (by kernel_rfl) (by kernel_rfl) (by kernel_rfl)

theorem FnAddCountsChain_holds : Rows.FnAddCountsChainSaid :=
  OpenClaim.holds_of_wide 7 Try.f7 rfl rfl rfl rfl rfl rfl rfl ⟨rfl, rfl, rfl, rfl, rfl⟩ rfl rfl rfl rfl rfl (by kernel_rfl) Try.func7 FnAddCountsChain_facts
    (of_decide_eq_true (by kernel_rfl)) (by unfold Func.isWrapper; first | (rw [if_pos (by decide +kernel)]; kernel_rfl) | (rw [if_neg (by decide +kernel)]; exact ⟨rfl, rfl⟩))
    (fun os started H enc _ => FnAddCountsChain_lifted os started H enc)
end Go.Proofs.Ytloalakpkjbeaaa
