/-
  FnAddCounts: true, for every code.
-/
import Derived.Test.YtloalakpkjbeaaaCst
import Derived.Test.YtloalakpkjbeaaaCal
import Derived.Test.YtloalakpkjbeaaaLwI
import Derived.Test.YtloalakpkjbeaaaSpec3
import Derived.Test.YtloalakpkjbeaaaImpl2
import Derived.Test.YtloalakpkjbeaaaImpl1
namespace Go.Proofs.Ytloalakpkjbeaaa
open Go.RowKit
open Go.ChangeShapes Go.WideShapes Go.ChangeAt Go.Deep

set_option maxHeartbeats 3200000 in
set_option maxRecDepth 100000 in
theorem FnAddCounts_walk (v : Value) (bs : List Int) (w : World) (h : Bytes w v bs) :
    Calls Try.prog 6 #[v] w fun e w' => e = .returned (.bool true) ∧ Below w.heap.size w w' := by
  have h0 := h
  obtain ⟨ao, cap, rfl, hl, hc, hok, hcell⟩ := h0
  clear hcell hok
  go_enter Try.func6, Try.ntmps6
  by_cases hbig : (1048576 : Int) < (bs.length : Int)
  · go_wp2
    go_ret
    exact ⟨rfl, Below.refl _ _⟩
  go_wp2_with fail
  refine (DrawAddCounts_any _ bs w h).mono ?_
  rintro e w1 ⟨va, xs, vb, ys, rfl, hlen, hxa, hxb, hb1⟩
  have H1 := Things.nil w1
  obtain ⟨G, hG⟩ : ∃ G, Hid (G = addL xs ys) := ⟨_, rfl⟩
  obtain ⟨K, hK⟩ : ∃ K, Hid (K = addB xs ys) := ⟨_, rfl⟩
  have cI := Lib.hid (fun (v0 v1 : Value) (w : World) (h0 : Items w v0 xs) (h1 : Items w v1 ys) => castI2 (AddCounts_any v0 v1 xs ys w h0 h1) hG.out.symm hK.out.symm)
  have cS := Lib.hid (fun (v0 v1 : Value) (w : World) (h0 : Items w v0 xs) (h1 : Items w v1 ys) => castI2 (sAddCounts_any v0 v1 xs ys w h0 h1) hG.out.symm hK.out.symm)
  go_wp2_with fail
  refine (cI.out va vb _ (H1.arg hxa) (H1.arg hxb)).mono ?_
  rintro e w2 ⟨vo, rfl, ho, hb⟩
  have H2 := H1.newI ho hb
  clear ho hb H1
  go_wp2_with fail
  refine (cS.out va vb _ (H2.arg hxa) (H2.arg hxb)).mono ?_
  rintro e w3 ⟨vw, rfl, ho, hb⟩
  have H3 := H2.newI ho hb
  clear ho hb H2
  clear cI cS
  go_wp2_with fail
  refine (equalI_T H3 (H3.items 1 rfl) (H3.items 0 rfl)).mono ?_
  rintro e w4 ⟨rfl, H4⟩
  clear H3
  cases K
  · skip
    go_wp2_with fail
    refine (equalI_T H4 (H4.items 1 rfl) (H4.items 0 rfl)).mono ?_
    rintro e w5 ⟨rfl, H5⟩
    clear H4
    go_wp2
    go_ret
    exact ⟨rfl, hb1.trans (H5.below.mono hb1.size)⟩
  · have hk := hK.out.symm
    have al := addc_algebra hk
    obtain ⟨T, hT⟩ : ∃ T, Hid (T = addL ys xs) := ⟨_, rfl⟩
    obtain ⟨P, hP⟩ : ∃ P, Hid (P = addL xs []) := ⟨_, rfl⟩
    have c1 := Lib.hid (fun (v0 v1 : Value) (w : World) (h0 : Items w v0 ys) (h1 : Items w v1 xs) => castI2 (AddCounts_any v0 v1 ys xs w h0 h1) hT.out.symm al.1)
    have c2 := Lib.hid (fun (v0 v1 : Value) (w : World) (h0 : Items w v0 xs) (h1 : Items w v1 []) => castI2 (AddCounts_any v0 v1 xs [] w h0 h1) hP.out.symm al.2.2.2.1)
    have c3 := Lib.hid (fun (v0 v1 : Value) (w : World) (h0 : Items w v0 T) (h1 : Items w v1 G) => castB (SameCounts_any v0 v1 T G w h0 h1) (show samB T G = true by rw [hT.out, hG.out]; exact al.2.1))
    have c4 := Lib.hid (fun (v0 : Value) (w : World) (h0 : Items w v0 G) => castI (KeepCounts_any v0 G w h0) (show kepL G = G by rw [hG.out]; exact al.2.2.1))
    have c5 := Lib.hid (fun (v0 : Value) (w : World) (h0 : Items w v0 xs) => castI (KeepCounts_any v0 xs w h0) (show kepL xs = P by rw [hP.out]; exact al.2.2.2.2.symm))
    clear hk al hG hK hT hP
    go_wp2_with fail
    refine (c1.out vb va _ (H4.arg hxb) (H4.arg hxa)).mono ?_
    rintro e w5 ⟨vt, rfl, ho, hb⟩
    have H5 := H4.newI ho hb
    clear ho hb H4
    go_wp2_with fail
    refine (c2.out va (.slice none 0 0) _ (H5.arg hxa) Items_nil).mono ?_
    rintro e w6 ⟨vk, rfl, ho, hb⟩
    have H6 := H5.newI ho hb
    clear ho hb H5
    go_wp2_with fail
    refine (c3.out vt vo _ (H6.items 1 rfl) (H6.items 3 rfl)).mono ?_
    rintro e w7 ⟨rfl, hb⟩
    have H7 := H6.quiet hb
    clear hb H6
    go_wp2_with fail
    refine (c4.out vo _ (H7.items 3 rfl)).mono ?_
    rintro e w8 ⟨v4, rfl, ho, hb⟩
    have H8 := H7.newI ho hb
    clear ho hb H7
    go_wp2_with fail
    refine (equalI_T H8 (H8.items 0 rfl) (H8.items 4 rfl)).mono ?_
    rintro e w9 ⟨rfl, H9⟩
    clear H8
    go_wp2_with fail
    refine (c5.out va _ (H9.arg hxa)).mono ?_
    rintro e w10 ⟨v5, rfl, ho, hb⟩
    have H10 := H9.newI ho hb
    clear ho hb H9
    go_wp2_with fail
    refine (equalI_T H10 (H10.items 2 rfl) (H10.items 0 rfl)).mono ?_
    rintro e w11 ⟨rfl, H11⟩
    clear H10
    go_wp2
    go_ret
    exact ⟨rfl, hb1.trans (H11.below.mono hb1.size)⟩

set_option maxRecDepth 100000 in
theorem FnAddCounts_lifted (os : Os) (started : os.Started) (H : Type) (enc : TypeId × Value → H) :
    ReturnsInHanded {} Try.checked os 6 .any (Rows.fnAddCountsSpec.pre6 enc Try.prog Try.f6 Rows.fnAddCountsRow.domain false) (Rows.fnAddCountsSpec.post enc Try.prog Try.f6 false true false false) := by
  refine returnsInHanded_of_change (C := Try.checked) own started (by kernel_rfl) Try.func6
    (ChangeSpec.witness6 (enc := enc) (C := Try.checked) false ⟨#[], #[.slice none 0 0], []⟩ 8 (by kernel_rfl) (by kernel_rfl) (by kernel_rfl) (by kernel_rfl)) ?_
  intro W base args ds gs before hval0 hW _ _
  have hval : ∀ (j : Nat) t v, Try.f6.params[j]? = some t → args[j]? = some v → Value.okWide Try.prog W .any base t v := hval0
  have hW' := hW
  obtain ⟨p, q, hA0, hV, rfl, _, _⟩ := hW
  have hA : DataW.TrodAll enc Try.prog W 0 (fun _ => true) true Try.f6.params.toList args.toList ds p := hA0
  rw [Try.params6] at hA hval
  obtain ⟨v0, vs0, d0, ds0, p0, q0, hargs, rfl, rfl, h0, r0⟩ := trodAll_cons hA
  obtain ⟨rfl, rfl, rfl⟩ := trodAll_nil r0
  obtain rfl : args = #[v0] := by cases args; simp_all
  obtain ⟨rfl, rfl⟩ := trodVars_none hV
  obtain ⟨xs0, hI0⟩ := open_bytes (hval 0 _ v0 rfl rfl) h0
  refine (FnAddCounts_walk v0 xs0 W hI0).mono fun e W' ⟨he, hb⟩ => ⟨_, he, ?_⟩
  exact law_end rfl (by rw [Try.params6]; decide +kernel) rfl hW' rfl rfl rfl hb

theorem FnAddCounts_facts : joinedFacts Try.prog 6 Try.f6 Rows.fnAddCountsSpec Rows.fnAddCountsRow = true :=
  facts_of (by kernel_rfl) q2 q3 (by kernel_rfl) (by kernel_rfl) (by kernel_rfl) q7 (by kernel_rfl) q9 (by kernel_rfl) (by kernel_rfl) (by kernel_rfl) (by kernel_rfl) (by kernel_rfl) (by kernel_rfl) (by kernel_rfl) (by kernel_rfl) (by kernel_rfl) (by kernel_rfl) (by kernel_rfl) (by kernel_rfl) (by kernel_rfl)
    (by rw [q22]; kernel_rfl) (by kernel_rfl) q23 head_enter (by kernel_rfl) head_lifts head_make (by kernel_rfl) (by kernel_rfl) (by kernel_rfl) (by kernel_rfl) (by kernel_rfl)

theorem FnAddCounts_holds : Rows.FnAddCountsSaid :=
  OpenClaim.holds_of_wide 6 Try.f6 rfl rfl rfl rfl rfl rfl rfl ⟨rfl, rfl, rfl, rfl, rfl⟩ rfl rfl rfl rfl rfl (by kernel_rfl) Try.func6 FnAddCounts_facts
    (of_decide_eq_true (by kernel_rfl)) (by unfold Func.isWrapper; first | (rw [if_pos (by decide +kernel)]; kernel_rfl) | (rw [if_neg (by decide +kernel)]; exact ⟨rfl, rfl⟩))
    (fun os started H enc _ => FnAddCounts_lifted os started H enc)
end Go.Proofs.Ytloalakpkjbeaaa
