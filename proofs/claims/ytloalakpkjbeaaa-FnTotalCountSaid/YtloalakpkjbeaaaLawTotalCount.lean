/-
  FnTotalCount: true, for every code.
-/
import Derived.Test.YtloalakpkjbeaaaP4
import Derived.Test.YtloalakpkjbeaaaP5
import Derived.Test.YtloalakpkjbeaaaP11
import Derived.Test.YtloalakpkjbeaaaP15
import Derived.Test.YtloalakpkjbeaaaP18
namespace Go.Proofs.Ytloalakpkjbeaaa
open Go.RowKit
open Go.ChangeShapes Go.WideShapes Go.ChangeAt Go.Deep

def cAZ : List Itm := [(⟨#[97]⟩, 2), (⟨#[122, 122]⟩, -5)]
theorem cAZ_valid : validI cAZ = true := by decide
theorem cAZ_ok : okI cAZ := ok_valid cAZ_valid
theorem totN_bd {a : List Itm} : -100000 ≤ totN a ∧ totN a ≤ 100000 := by
  unfold totN
  split
  · rename_i h
    rw [sumL_one h]
    have h1 := leftSum_bd (fun _ => true) (valid_num h)
    rw [leftSum_all (fun _ _ => rfl)] at h1
    have h2 := valid_len h
    omega
  · omega

set_option maxHeartbeats 3200000 in
set_option maxRecDepth 100000 in
theorem FnTotalCount_walk (v : Value) (bs : List Int) (w : World) (h : Bytes w v bs) :
    Calls Try.prog 14 #[v] w fun e w' => e = .returned (.bool true) ∧ Below w.heap.size w w' := by
  have h0 := h
  obtain ⟨ao, cap, rfl, hl, hc, hok, hcell⟩ := h0
  clear hcell hok
  go_enter Try.func14, Try.ntmps14
  by_cases hbig : (1048576 : Int) < (bs.length : Int)
  · go_wp2
    go_ret
    exact ⟨rfl, Below.refl _ _⟩
  go_wp2_with fail
  refine (DrawTotalCount_any _ bs w h).mono ?_
  rintro e w1 ⟨va, xs, rfl, hlen, hxa, hb1⟩
  have H1 := Things.nil w1
  obtain ⟨G, hG⟩ : ∃ G, Hid (G = totN xs) := ⟨_, Lib.hid rfl⟩
  have cI := Lib.hid (fun (v0 : Value) (w : World) (h0 : Items w v0 xs) => castN (TotalCount_any v0 xs w h0) hG.out.symm)
  have cS := Lib.hid (fun (v0 : Value) (w : World) (h0 : Items w v0 xs) => castN (sTotalCount_any v0 xs w h0) hG.out.symm)
  go_wp2_with fail
  refine (cI.out _ _ (H1.arg hxa)).mono ?_
  rintro e w2 ⟨rfl, hb⟩
  have H2 := H1.quiet hb
  clear hb H1
  go_wp2_with fail
  refine (cS.out _ _ (H2.arg hxa)).mono ?_
  rintro e w3 ⟨rfl, hb⟩
  have H3 := H2.quiet hb
  clear hb H2
  obtain ⟨V, hV⟩ : ∃ V, Hid (V = validI xs) := ⟨_, Lib.hid rfl⟩
  have cV := Lib.hid (fun (v0 : Value) (w : World) (h0 : Items w v0 xs) => castB (ValidItems_any v0 xs w h0) hV.out.symm)
  go_wp2_with fail
  refine (cV.out _ _ (H3.arg hxa)).mono ?_
  rintro e w4 ⟨rfl, hb⟩
  have H4 := H3.quiet hb
  clear hb H3
  cases V
  · skip
    go_wp2_with fail
    refine (cS.out _ _ (H4.arg hxa)).mono ?_
    rintro e w5 ⟨rfl, hb⟩
    have H5 := H4.quiet hb
    clear hb H4
    go_wp2
    go_ret
    exact ⟨rfl, hb1.trans (H5.below.mono hb1.size)⟩
  · have hv := hV.out.symm
    obtain ⟨S, hS⟩ : ∃ S, Hid (S = updL xs cAZ) := ⟨_, Lib.hid rfl⟩
    obtain ⟨K, hK⟩ : ∃ K, Hid (K = updB xs cAZ) := ⟨_, Lib.hid rfl⟩
    have c1 := Lib.hid (fun (v0 v1 : Value) (w : World) (h0 : Items w v0 xs) (h1 : Items w v1 cAZ) => castI2 (UpdateCounts_any v0 v1 xs cAZ w h0 h1) hS.out.symm hK.out.symm)
    have c2 : Hid (K = true → ∀ (v0 : Value) (w : World), Items w v0 S → Calls Try.prog 52 #[v0] w (RetQ (.int .i64 (G - 3)) w)) := fun hk v0 w h0 => castN (TotalCount_any v0 S w h0) (show totN S = G - 3 by rw [hS.out, hG.out]; exact total_algebra hv cAZ_valid rfl (by rw [← hK.out]; exact hk))
    have hbd := totN_bd (a := xs)
    rw [← hG.out] at hbd
    clear hG hS hK hV hv cI cS cV
    have H5 := H4.lit cAZ #[.string ⟨#[97]⟩, .int .i64 2, .string ⟨#[122, 122]⟩, .int .i64 (-5)] 2 rfl rfl (by decide) cAZ_ok
    clear H4
    go_wp2_with fail
    refine (c1.out _ _ _ (H5.arg hxa) (H5.items 0 rfl)).mono ?_
    rintro e w6 ⟨v1, rfl, ho, hb⟩
    have H6 := H5.newI ho hb
    clear ho hb H5
    cases K
    · skip
      go_wp2
      go_ret
      exact ⟨rfl, hb1.trans (H6.below.mono hb1.size)⟩
    · have c3 := Lib.hid (fun (v0 : Value) (w : World) (h0 : Items w v0 S) => c2.out (by first | rfl | trivial) v0 w h0)
      clear c2
      go_wp2_with fail
      refine (c3.out _ _ (H6.items 0 rfl)).mono ?_
      rintro e w7 ⟨rfl, hb⟩
      have H7 := H6.quiet hb
      clear hb H6
      go_wp2
      go_ret
      exact ⟨rfl, hb1.trans (H7.below.mono hb1.size)⟩

set_option maxRecDepth 100000 in
theorem FnTotalCount_lifted (os : Os) (started : os.Started) (H : Type) (enc : TypeId × Value → H) :
    ReturnsInHanded {} Try.checked os 14 .any (Rows.fnTotalCountSpec.pre6 enc Try.prog Try.f14 Rows.fnTotalCountRow.domain false) (Rows.fnTotalCountSpec.post enc Try.prog Try.f14 false true false false) := by
  refine returnsInHanded_of_change (C := Try.checked) own started (by kernel_rfl) Try.func14
    (ChangeSpec.witness6 (enc := enc) (C := Try.checked) false ⟨#[], #[.slice none 0 0], []⟩ 8 (by kernel_rfl) (by kernel_rfl) (by kernel_rfl) (by kernel_rfl)) ?_
  intro W base args ds gs before hval0 hW _ _
  have hval : ∀ (j : Nat) t v, Try.f14.params[j]? = some t → args[j]? = some v → Value.okWide Try.prog W .any base t v := hval0
  have hW' := hW
  obtain ⟨p, q, hA0, hV, rfl, _, _⟩ := hW
  have hA : DataW.TrodAll enc Try.prog W 0 (fun _ => true) true Try.f14.params.toList args.toList ds p := hA0
  rw [Try.params14] at hA hval
  obtain ⟨v0, vs0, d0, ds0, p0, q0, hargs, rfl, rfl, h0, r0⟩ := trodAll_cons hA
  obtain ⟨rfl, rfl, rfl⟩ := trodAll_nil r0
  obtain rfl : args = #[v0] := by cases args; simp_all
  obtain ⟨rfl, rfl⟩ := trodVars_none hV
  obtain ⟨xs0, hI0⟩ := open_bytes (hval 0 _ v0 rfl rfl) h0
  refine (FnTotalCount_walk v0 xs0 W hI0).mono fun e W' ⟨he, hb⟩ => ⟨_, he, ?_⟩
  exact law_end rfl (by rw [Try.params14]; decide +kernel) rfl hW' rfl rfl rfl hb

theorem FnTotalCount_facts : joinedFacts Try.prog 14 Try.f14 Rows.fnTotalCountSpec Rows.fnTotalCountRow = true :=
  facts_of (by kernel_rfl) q2 q3 (by kernel_rfl) (by kernel_rfl) (by kernel_rfl) q7 (by kernel_rfl) q9 (by kernel_rfl) (by kernel_rfl) (by kernel_rfl) (by kernel_rfl) (by kernel_rfl) (by kernel_rfl) (by kernel_rfl) (by kernel_rfl) (by kernel_rfl) (by kernel_rfl) (by kernel_rfl) (by kernel_rfl) (by kernel_rfl)
    (by rw [q22]; kernel_rfl) (by kernel_rfl) q23 head_enter (by kernel_rfl) head_lifts head_make (by kernel_rfl) (by kernel_rfl) (by kernel_rfl) (by kernel_rfl) (by kernel_rfl)

theorem FnTotalCount_holds : Rows.FnTotalCountSaid :=
  OpenClaim.holds_of_wide 14 Try.f14 rfl rfl rfl rfl rfl rfl rfl ⟨rfl, rfl, rfl, rfl, rfl⟩ rfl rfl rfl rfl rfl (by kernel_rfl) Try.func14 FnTotalCount_facts
    (of_decide_eq_true (by kernel_rfl)) (by unfold Func.isWrapper; first | (rw [if_pos (by decide +kernel)]; kernel_rfl) | (rw [if_neg (by decide +kernel)]; exact ⟨rfl, rfl⟩))
    (fun os started H enc _ => FnTotalCount_lifted os started H enc)
end Go.Proofs.Ytloalakpkjbeaaa
