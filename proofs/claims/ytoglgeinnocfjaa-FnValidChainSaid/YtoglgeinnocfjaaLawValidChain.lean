/-
  FnValidChain: true, for every code.
-/
import Derived.Test.YtoglgeinnocfjaaC7
import Derived.Test.YtoglgeinnocfjaaC20
import Derived.Test.YtoglgeinnocfjaaC21
import Derived.Test.YtoglgeinnocfjaaC22
namespace Go.Proofs.Ytoglgeinnocfjaa
open Go.RowKit
open Go.ChangeShapes Go.WideShapes Go.ChangeAt Go.Deep

set_option maxHeartbeats 4000000 in
set_option maxRecDepth 100000 in
theorem FnValidChain_walk (v : Value) (bs : List Int) (w : World) (h : Bytes w v bs) :
    Calls Try.prog 9 #[v] w fun e w' => e = .returned (.bool true) ∧ Below w.heap.size w w' := by
  have h0 := h
  obtain ⟨ao, cap, rfl, hl, hc, hok, hcell⟩ := h0
  clear hcell hok
  go_enter Try.func9, Try.ntmps9
  by_cases hbig : (1048576 : Int) < (bs.length : Int)
  · go_wp2
    go_ret
    exact ⟨rfl, Below.refl _ _⟩
  go_wp2_with fail
  refine (DrawValidChain_any _ bs w h).mono ?_
  rintro e w1 ⟨vc, ls, rfl, hbnd, hm, hbl⟩
  have H1 := (Things.nil w).new (t := readMT w.heap.size w1.heap.size vc ls) (Nat.le_refl _) (Nat.le_refl _) hm hbl
  obtain ⟨cp, cc, rfl, hcc, hcm⟩ := (H1.mapsR 0 rfl).slice
  have H2 := H1.boxed 51 [.slice cp ls.length cc]
  clear hm hbl H1 h
  obtain ⟨V, hV⟩ : ∃ V, Hid (V = validC ls) := ⟨_, Lib.hid rfl⟩
  have cI := Lib.hid (fun (v0 : Value) (w : World) (h0 : Maps w v0 ls) => (show Calls Try.prog 42 #[.agg #[v0]] w (RetQ (.bool V) w) by rw [hV.out]; exact VC_any v0 ls w h0))
  have cS := Lib.hid (fun (v0 : Value) (w : World) (h0 : Maps w v0 ls) => (show Calls Try.prog 43 #[.agg #[v0]] w (RetQ (.bool V) w) by rw [hV.out]; exact sVC_any v0 ls w h0))
  have c0_ := H2.box1 0 rfl
  go_wp2_with fail
  refine (cI.out _ _ (H2.mapsR 1 rfl)).mono ?_
  rintro e w3 ⟨rfl, hb⟩
  have H3 := H2.quiet hb
  clear c0_
  clear hb H2
  have c0_ := H3.box1 0 rfl
  go_wp2_with fail
  refine (cS.out _ _ (H3.mapsR 1 rfl)).mono ?_
  rintro e w4 ⟨rfl, hb⟩
  have H4 := H3.quiet hb
  clear c0_
  clear hb H3
  cases V
  · skip
    have c0_ := H4.box1 0 rfl
    go_wp2_with fail
    refine (cS.out _ _ (H4.mapsR 1 rfl)).mono ?_
    rintro e w5 ⟨rfl, hb⟩
    have H5 := H4.quiet hb
    clear c0_
    clear hb H4
    go_wp2
    go_ret
    exact ⟨rfl, H5.below⟩
  · obtain ⟨hz, hv0, hv1⟩ := vc_first hV.out.symm
    have HV0 := Lib.hid hv0
    have hzi : (0 : Int) < (ls.length : Int) := by omega
    have hz1 : (1 : Int) ≤ (ls.length : Int) := by omega
    have hcc1 : (1 : Int) ≤ (cc : Int) := by omega
    obtain ⟨b, o, cp2, x, e, hb, d0, hI⟩ := (H4.mapsR 1 rfl).at hz
    simp only [Value.slice.injEq] at e
    obtain ⟨rfl, _, rfl⟩ := e
    rw [Nat.add_zero] at d0
    have HI := Lib.hid hI
    have c2 := Lib.hid (fun (v0 : Value) (w : World) (h0 : Maps w v0 (ls.take 1)) => (show Calls Try.prog 42 #[.agg #[v0]] w (RetQ (.bool true) w) by have h1 := VC_any v0 (ls.take 1) w h0; rw [hv1] at h1; exact h1))
    clear hv0 hv1 hI hV cI cS
    have c0_ := H4.box1 0 rfl
    go_wp2_with fail
    refine (ValidItems_any _ _ _ HI.out).mono ?_
    rw [HV0.out]
    rintro e w5 ⟨rfl, hb2⟩
    have H5 := H4.quiet hb2
    clear d0 HI hb2 c0_
    have c0_ := H5.box1 0 rfl
    have HT := Lib.hid ((H5.mapsR 1 rfl).takeA (k := 1) (by omega))
    go_wp2_with fail
    refine (c2.out _ _ HT.out).mono ?_
    rintro e w6 ⟨rfl, hb⟩
    have H6 := H5.quiet hb
    clear hb H5
    go_wp2
    go_ret
    exact ⟨rfl, H6.below⟩

set_option maxRecDepth 100000 in
theorem FnValidChain_lifted (os : Os) (started : os.Started) (H : Type) (enc : TypeId × Value → H) :
    ReturnsInHanded {} Try.checked os 9 .any (Rows.fnValidChainSpec.pre6 enc Try.prog Try.f9 Rows.fnValidChainRow.domain false) (Rows.fnValidChainSpec.post enc Try.prog Try.f9 false true false false) := by
  refine returnsInHanded_of_change (C := Try.checked) own started (by kernel_rfl) Try.func9
    (ChangeSpec.witness6 (enc := enc) (C := Try.checked) false ⟨#[], #[.slice none 0 0], []⟩ 8 (by kernel_rfl) (by kernel_rfl) (by kernel_rfl) (by kernel_rfl)) ?_
  intro W base args ds gs before hval0 hW _ _
  have hval : ∀ (j : Nat) t v, Try.f9.params[j]? = some t → args[j]? = some v → Value.okWide Try.prog W .any base t v := hval0
  have hW' := hW
  obtain ⟨p, q, hA0, hV, rfl, _, _⟩ := hW
  have hA : DataW.TrodAll enc Try.prog W 0 (fun _ => true) true Try.f9.params.toList args.toList ds p := hA0
  rw [Try.params9] at hA hval
  obtain ⟨v0, vs0, d0, ds0, p0, q0, hargs, rfl, rfl, h0, r0⟩ := trodAll_cons hA
  obtain ⟨rfl, rfl, rfl⟩ := trodAll_nil r0
  obtain rfl : args = #[v0] := by cases args; simp_all
  obtain ⟨rfl, rfl⟩ := trodVars_none hV
  obtain ⟨xs0, hI0⟩ := open_bytes (hval 0 _ v0 rfl rfl) h0
  refine (FnValidChain_walk v0 xs0 W hI0).mono fun e W' ⟨he, hb⟩ => ⟨_, he, ?_⟩
  exact law_end rfl (by rw [Try.params9]; decide +kernel) rfl hW' rfl rfl rfl hb

theorem FnValidChain_facts : joinedFacts Try.prog 9 Try.f9 Rows.fnValidChainSpec Rows.fnValidChainRow = true :=
  facts_of (by kernel_rfl) q2 q3 (by kernel_rfl) (by kernel_rfl) (by kernel_rfl) q7 (by kernel_rfl) q9 (by kernel_rfl) (by kernel_rfl) (by kernel_rfl) (by kernel_rfl) (by kernel_rfl) (by kernel_rfl) (by kernel_rfl) (by kernel_rfl) (by kernel_rfl) (by kernel_rfl) (by kernel_rfl) (by kernel_rfl) (by kernel_rfl)
    (by rw [q22]; kernel_rfl) (by kernel_rfl) q23 head_enter (by kernel_rfl) head_lifts head_make (by kernel_rfl) (by kernel_rfl) (by kernel_rfl) (by kernel_rfl) (by kernel_rfl)

theorem FnValidChain_holds : Rows.FnValidChainSaid :=
  OpenClaim.holds_of_wide 9 Try.f9 rfl rfl rfl rfl rfl rfl rfl ⟨rfl, rfl, rfl, rfl, rfl⟩ rfl rfl rfl rfl rfl (by kernel_rfl) Try.func9 FnValidChain_facts
    (of_decide_eq_true (by kernel_rfl)) (by unfold Func.isWrapper; first | (rw [if_pos (by decide +kernel)]; kernel_rfl) | (rw [if_neg (by decide +kernel)]; exact ⟨rfl, rfl⟩))
    (fun os started H enc _ => FnValidChain_lifted os started H enc)
end Go.Proofs.Ytoglgeinnocfjaa
