/-
  FnKeepCounts: true, for every code.
-/
import Derived.Test.YtloalakpkjbeaaaCst
import Derived.Test.YtloalakpkjbeaaaCal
import Derived.Test.YtloalakpkjbeaaaLwI
import Derived.Test.YtloalakpkjbeaaaImplV
import Derived.Test.YtloalakpkjbeaaaSpec3
import Derived.Test.YtloalakpkjbeaaaImpl2
import Derived.Test.YtloalakpkjbeaaaImpl1
namespace Go.Proofs.Ytloalakpkjbeaaa
open Go.RowKit
open Go.ChangeShapes Go.WideShapes Go.ChangeAt Go.Deep

set_option maxHeartbeats 3200000 in
set_option maxRecDepth 100000 in
theorem FnKeepCounts_walk (v : Value) (bs : List Int) (w : World) (h : Bytes w v bs) :
    Calls Try.prog 12 #[v] w fun e w' => e = .returned (.bool true) ∧ Below w.heap.size w w' := by
  have h0 := h
  obtain ⟨ao, cap, rfl, hl, hc, hok, hcell⟩ := h0
  clear hcell hok
  go_enter Try.func12, Try.ntmps12
  by_cases hbig : (1048576 : Int) < (bs.length : Int)
  · go_wp2
    go_ret
    exact ⟨rfl, Below.refl _ _⟩
  go_wp2_with fail
  refine (DrawKeepCounts_any _ bs w h).mono ?_
  rintro e w1 ⟨va, xs, rfl, hlen, hxa, hb1⟩
  have H1 := Things.nil w1
  obtain ⟨G, hG⟩ : ∃ G, Hid (G = kepL xs) := ⟨_, Lib.hid rfl⟩
  have cI := Lib.hid (fun (v0 : Value) (w : World) (h0 : Items w v0 xs) => castI (KeepCounts_any v0 xs w h0) hG.out.symm)
  have cS := Lib.hid (fun (v0 : Value) (w : World) (h0 : Items w v0 xs) => castI (sKeepCounts_any v0 xs w h0) hG.out.symm)
  go_wp2_with fail
  refine (cI.out _ _ (H1.arg hxa)).mono ?_
  rintro e w2 ⟨vo, rfl, ho, hb⟩
  have H2 := H1.newI ho hb
  clear ho hb H1
  go_wp2_with fail
  refine (cS.out _ _ (H2.arg hxa)).mono ?_
  rintro e w3 ⟨vw, rfl, ho, hb⟩
  have H3 := H2.newI ho hb
  clear ho hb H2
  go_wp2_with fail
  refine (equalI_T H3 (H3.items 1 rfl) (H3.items 0 rfl)).mono ?_
  rintro e w4 ⟨rfl, H4⟩
  clear H3
  obtain ⟨V, hV⟩ : ∃ V, Hid (V = validI xs) := ⟨_, Lib.hid rfl⟩
  have cV := Lib.hid (fun (v0 : Value) (w : World) (h0 : Items w v0 xs) => castB (ValidItems_any v0 xs w h0) hV.out.symm)
  go_wp2_with fail
  refine (cV.out _ _ (H4.arg hxa)).mono ?_
  rintro e w5 ⟨rfl, hb⟩
  have H5 := H4.quiet hb
  clear hb H4
  cases V
  · skip
    go_wp2_with fail
    refine (cS.out _ _ (H5.arg hxa)).mono ?_
    rintro e w6 ⟨vs, rfl, ho, hb⟩
    have H6 := H5.newI ho hb
    clear ho hb H5
    go_wp2_with fail
    refine (equalI_T H6 (H6.items 2 rfl) (H6.items 0 rfl)).mono ?_
    rintro e w7 ⟨rfl, H7⟩
    clear H6
    go_wp2
    go_ret
    exact ⟨rfl, hb1.trans (H7.below.mono hb1.size)⟩
  · have hv := hV.out.symm
    have al := keep_algebra hv
    obtain ⟨N, hN⟩ : ∃ N, Hid (N = trnL xs) := ⟨_, Lib.hid rfl⟩
    obtain ⟨S, hS⟩ : ∃ S, Hid (S = subL (kepL xs) (trnL xs)) := ⟨_, Lib.hid rfl⟩
    have c1 := Lib.hid (fun (v0 : Value) (w : World) (h0 : Items w v0 xs) => castI (TurnCounts_any v0 xs w h0) hN.out.symm)
    have c2 := Lib.hid (fun (v0 v1 : Value) (w : World) (h0 : Items w v0 G) (h1 : Items w v1 N) => castI2 (SubtractCounts_any v0 v1 G N w h0 h1) (show subL G N = S by rw [hG.out, hN.out, hS.out]) (show subB G N = true by rw [hG.out, hN.out]; exact al.2.1))
    have c3 := Lib.hid (fun (v0 v1 : Value) (w : World) (h0 : Items w v0 S) (h1 : Items w v1 xs) => castB (SameCounts_any v0 v1 S xs w h0 h1) (show samB S xs = true by rw [hS.out]; exact al.2.2.1))
    have c4 := Lib.hid (fun (v0 : Value) (w : World) (h0 : Items w v0 G) => castI (KeepCounts_any v0 G w h0) (show kepL G = G by rw [hG.out]; exact al.2.2.2))
    clear hv al hG hN hS hV cI cS cV
    go_wp2_with fail
    refine (c1.out _ _ (H5.arg hxa)).mono ?_
    rintro e w6 ⟨v1, rfl, ho, hb⟩
    have H6 := H5.newI ho hb
    clear ho hb H5
    go_wp2_with fail
    refine (c2.out _ _ _ (H6.items 2 rfl) (H6.items 0 rfl)).mono ?_
    rintro e w7 ⟨v2, rfl, ho, hb⟩
    have H7 := H6.newI ho hb
    clear ho hb H6
    go_wp2_with fail
    refine (c3.out _ _ _ (H7.items 0 rfl) (H7.arg hxa)).mono ?_
    rintro e w8 ⟨rfl, hb⟩
    have H8 := H7.quiet hb
    clear hb H7
    go_wp2_with fail
    refine (c4.out _ _ (H8.items 3 rfl)).mono ?_
    rintro e w9 ⟨v4, rfl, ho, hb⟩
    have H9 := H8.newI ho hb
    clear ho hb H8
    go_wp2_with fail
    refine (equalI_T H9 (H9.items 0 rfl) (H9.items 4 rfl)).mono ?_
    rintro e w10 ⟨rfl, H10⟩
    clear H9
    go_wp2
    go_ret
    exact ⟨rfl, hb1.trans (H10.below.mono hb1.size)⟩

set_option maxRecDepth 100000 in
theorem FnKeepCounts_lifted (os : Os) (started : os.Started) (H : Type) (enc : TypeId × Value → H) :
    ReturnsInHanded {} Try.checked os 12 .any (Rows.fnKeepCountsSpec.pre6 enc Try.prog Try.f12 Rows.fnKeepCountsRow.domain false) (Rows.fnKeepCountsSpec.post enc Try.prog Try.f12 false true false false) := by
  refine returnsInHanded_of_change (C := Try.checked) own started (by kernel_rfl) Try.func12
    (ChangeSpec.witness6 (enc := enc) (C := Try.checked) false ⟨#[], #[.slice none 0 0], []⟩ 8 (by kernel_rfl) (by kernel_rfl) (by kernel_rfl) (by kernel_rfl)) ?_
  intro W base args ds gs before hval0 hW _ _
  have hval : ∀ (j : Nat) t v, Try.f12.params[j]? = some t → args[j]? = some v → Value.okWide Try.prog W .any base t v := hval0
  have hW' := hW
  obtain ⟨p, q, hA0, hV, rfl, _, _⟩ := hW
  have hA : DataW.TrodAll enc Try.prog W 0 (fun _ => true) true Try.f12.params.toList args.toList ds p := hA0
  rw [Try.params12] at hA hval
  obtain ⟨v0, vs0, d0, ds0, p0, q0, hargs, rfl, rfl, h0, r0⟩ := trodAll_cons hA
  obtain ⟨rfl, rfl, rfl⟩ := trodAll_nil r0
  obtain rfl : args = #[v0] := by cases args; simp_all
  obtain ⟨rfl, rfl⟩ := trodVars_none hV
  obtain ⟨xs0, hI0⟩ := open_bytes (hval 0 _ v0 rfl rfl) h0
  refine (FnKeepCounts_walk v0 xs0 W hI0).mono fun e W' ⟨he, hb⟩ => ⟨_, he, ?_⟩
  exact law_end rfl (by rw [Try.params12]; decide +kernel) rfl hW' rfl rfl rfl hb

theorem FnKeepCounts_facts : joinedFacts Try.prog 12 Try.f12 Rows.fnKeepCountsSpec Rows.fnKeepCountsRow = true :=
  facts_of (by kernel_rfl) q2 q3 (by kernel_rfl) (by kernel_rfl) (by kernel_rfl) q7 (by kernel_rfl) q9 (by kernel_rfl) (by kernel_rfl) (by kernel_rfl) (by kernel_rfl) (by kernel_rfl) (by kernel_rfl) (by kernel_rfl) (by kernel_rfl) (by kernel_rfl) (by kernel_rfl) (by kernel_rfl) (by kernel_rfl) (by kernel_rfl)
    (by rw [q22]; kernel_rfl) (by kernel_rfl) q23 head_enter (by kernel_rfl) head_lifts head_make (by kernel_rfl) (by kernel_rfl) (by kernel_rfl) (by kernel_rfl) (by kernel_rfl)

theorem FnKeepCounts_holds : Rows.FnKeepCountsSaid :=
  OpenClaim.holds_of_wide 12 Try.f12 rfl rfl rfl rfl rfl rfl rfl ⟨rfl, rfl, rfl, rfl, rfl⟩ rfl rfl rfl rfl rfl (by kernel_rfl) Try.func12 FnKeepCounts_facts
    (of_decide_eq_true (by kernel_rfl)) (by unfold Func.isWrapper; first | (rw [if_pos (by decide +kernel)]; kernel_rfl) | (rw [if_neg (by decide +kernel)]; exact ⟨rfl, rfl⟩))
    (fun os started H enc _ => FnKeepCounts_lifted os started H enc)
end Go.Proofs.Ytloalakpkjbeaaa
