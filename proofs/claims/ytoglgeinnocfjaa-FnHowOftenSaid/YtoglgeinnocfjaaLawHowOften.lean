/-
  FnHowOften: true, for every code.
-/
import Derived.Test.YtoglgeinnocfjaaC7
import Derived.Test.YtoglgeinnocfjaaC18
import Derived.Test.YtoglgeinnocfjaaC20
import Derived.Test.YtoglgeinnocfjaaC21
import Derived.Test.YtoglgeinnocfjaaC22
namespace Go.Proofs.Ytoglgeinnocfjaa
open Go.RowKit
open Go.ChangeShapes Go.WideShapes Go.ChangeAt Go.Deep

set_option maxHeartbeats 4000000 in
set_option maxRecDepth 100000 in
theorem FnHowOften_walk (v : Value) (bs : List Int) (w : World) (h : Bytes w v bs) :
    Calls Try.prog 13 #[v] w fun e w' => e = .returned (.bool true) ∧ Below w.heap.size w w' := by
  have h0 := h
  obtain ⟨ao, cap, rfl, hl, hc, hok, hcell⟩ := h0
  clear hcell hok
  go_enter Try.func13, Try.ntmps13
  by_cases hbig : (1048576 : Int) < (bs.length : Int)
  · go_wp2
    go_ret
    exact ⟨rfl, Below.refl _ _⟩
  go_wp2_with fail
  refine (DrawHowOften_any _ bs w h).mono ?_
  rintro e w1 ⟨vc, ls, s, rfl, hbnd, hm, hbl⟩
  have H1 := (Things.nil w).new (t := readMT w.heap.size w1.heap.size vc ls) (Nat.le_refl _) (Nat.le_refl _) hm hbl
  obtain ⟨cp, cc, rfl, hcc, hcm⟩ := (H1.mapsR 0 rfl).slice
  have H2 := H1.boxed 51 [.slice cp ls.length cc]
  clear hm hbl H1 h
  obtain ⟨O, hO⟩ : ∃ O, Hid (O = ofC ls s) := ⟨_, Lib.hid rfl⟩
  obtain ⟨V, hV⟩ : ∃ V, Hid (V = validC ls) := ⟨_, Lib.hid rfl⟩
  have cV := Lib.hid (fun (v0 : Value) (w : World) (h0 : Maps w v0 ls) => (show Calls Try.prog 42 #[.agg #[v0]] w (RetQ (.bool V) w) by rw [hV.out]; exact VC_any v0 ls w h0))
  have cI := Lib.hid (fun (v0 : Value) (w : World) (h0 : Maps w v0 ls) => (show Calls Try.prog 49 #[.agg #[v0], .string s] w (RetQ (.int .i64 O) w) by rw [hO.out]; exact HowOften_any v0 ls s w h0))
  have cS := Lib.hid (fun (v0 : Value) (w : World) (h0 : Maps w v0 ls) => (show Calls Try.prog 60 #[.agg #[v0], .string s] w (RetQ (.int .i64 O) w) by rw [hO.out]; exact sHowOften_any v0 ls s w h0))
  have c0_ := H2.box1 0 rfl
  go_wp2_with fail
  refine (cI.out _ _ (H2.mapsR 1 rfl)).mono ?_
  rintro e w3 ⟨rfl, hb⟩
  have H3 := H2.quiet hb
  clear c0_
  clear hb H2
  have c0_ := H3.box1 0 rfl
  go_wp2_with fail
  refine (cS.out _ _ (H3.mapsR 1 rfl)).mono ?_
  rintro e w4 ⟨rfl, hb⟩
  have H4 := H3.quiet hb
  clear c0_
  clear hb H3
  have c0_ := H4.box1 0 rfl
  go_wp2_with fail
  refine (cV.out _ _ (H4.mapsR 1 rfl)).mono ?_
  rintro e w5 ⟨rfl, hb⟩
  have H5 := H4.quiet hb
  clear c0_
  clear hb H4
  cases V
  · skip
    have c0_ := H5.box1 0 rfl
    go_wp2_with fail
    refine (cS.out _ _ (H5.mapsR 1 rfl)).mono ?_
    rintro e w6 ⟨rfl, hb⟩
    have H6 := H5.quiet hb
    clear c0_
    clear hb H5
    go_wp2
    go_ret
    exact ⟨rfl, H6.below⟩
  · have hv := hV.out.symm
    obtain ⟨hz, hv0, hv1⟩ := vc_first hv
    obtain ⟨A, hA⟩ : ∃ A, Hid (A = oftP (ls.take 1) s) := ⟨_, Lib.hid rfl⟩
    obtain ⟨D, hD⟩ : ∃ D, Hid (D = ls.drop 1) := ⟨_, Lib.hid rfl⟩
    obtain ⟨B, hB⟩ : ∃ B, Hid (B = oftP (ls.drop 1) s) := ⟨_, Lib.hid rfl⟩
    have hAB : O = A + B := by rw [hO.out, ofC_yes hv, hA.out, hB.out]; exact oft_split s ls
    have bA := oftP_le (ls.take 1) s
    have bB := oftP_le (ls.drop 1) s
    rw [← hA.out, List.length_take] at bA
    rw [← hB.out, List.length_drop] at bB
    have hl4 := (validC_iff.1 hv).2.2
    have hwr : IntKind.i64.wrap (A + B) = A + B := IntWalk.i64_in _ (by omega)
    have hz1 : (1 : Int) ≤ (ls.length : Int) := by omega
    have hcc1 : (1 : Int) ≤ (cc : Int) := by omega
    have c1 := Lib.hid (fun (v0 : Value) (w : World) (h0 : Maps w v0 (ls.take 1)) => (show Calls Try.prog 49 #[.agg #[v0], .string s] w (RetQ (.int .i64 A) w) by have h1 := HowOften_any v0 (ls.take 1) s w h0; rw [ofC_yes hv1, ← hA.out] at h1; exact h1))
    have cP := Lib.hid (fun (h1 : 1 < ls.length) (v0 : Value) (w : World) (h0 : Maps w v0 ls) => (show Calls Try.prog 55 #[.agg #[v0]] w (NewM (fun v => .agg #[v]) D w) by have h2 := ParentsOf_any v0 ls w h0; rw [pa_more hv (by omega), ← hD.out] at h2; exact h2))
    have c2 := Lib.hid (fun (h1 : 1 < ls.length) (v0 : Value) (w : World) (h0 : Maps w v0 D) => (show Calls Try.prog 49 #[.agg #[v0], .string s] w (RetQ (.int .i64 B) w) by rw [hD.out] at h0; have h2 := HowOften_any v0 (ls.drop 1) s w h0; rw [ofC_yes (vc_drop hv h1), ← hB.out] at h2; exact h2))
    have hB0 : Hid (¬ 1 < ls.length → B = 0) := fun h => by have : ls.length = 1 := by omega
                                                            rw [hB.out, List.drop_of_length_le (by omega)]; rfl
    clear hv hv0 hv1 hA hB hD hO hV cI cS cV bA bB hl4 hz
    have HT := Lib.hid ((H5.mapsR 1 rfl).takeA (k := 1) (by omega))
    have c0_ := H5.box1 0 rfl
    go_wp2_with fail
    refine (c1.out _ _ HT.out).mono ?_
    rintro e w6 ⟨rfl, hb⟩
    have H6 := H5.quiet hb
    clear c0_
    clear hb H5
    clear HT c1
    by_cases hl1 : 1 < ls.length
    · have hl2 : (1 : Int) < (ls.length : Int) := by omega
      have cP2 := Lib.hid (cP.out hl1)
      have c3 := Lib.hid (c2.out hl1)
      clear cP c2 hB0 hl1
      have c0_ := H6.box1 0 rfl
      go_wp2_with fail
      refine (cP2.out _ _ (H6.mapsR 1 rfl)).mono ?_
      rintro e w7 ⟨va, rfl, ho, hbl⟩
      have H7 := H6.newM ho hbl
      obtain ⟨ap, ac, rfl, hac, ham⟩ := (H7.mapsO 0 rfl).slice
      clear c0_
      clear H6 ho hbl
      go_wp2_with fail
      refine (c3.out _ _ (H7.mapsO 0 rfl)).mono ?_
      rintro e w8 ⟨rfl, hb⟩
      have H8 := H7.quiet hb
      clear hb H7
      have hq : (O == A + B) = true := by rw [hAB]; exact beq_self_eq_true _
      clear hAB
      go_wp2
      go_ret
      exact ⟨rfl, H8.below⟩
    · have hl2 : ¬ (1 : Int) < (ls.length : Int) := by omega
      have c0_ := H6.box1 0 rfl
      have hBz : B = 0 := hB0.out hl1
      subst hBz
      clear cP c2 hB0 hl1
      rw [Int.add_zero] at hwr
      have hq : (O == A + 0) = true := by rw [hAB]; exact beq_self_eq_true _
      have hq2 : (O == A) = true := by rw [hAB, Int.add_zero]; exact beq_self_eq_true _
      clear hAB
      go_wp2
      go_ret
      exact ⟨rfl, H6.below⟩

set_option maxRecDepth 100000 in
theorem FnHowOften_lifted (os : Os) (started : os.Started) (H : Type) (enc : TypeId × Value → H) :
    ReturnsInHanded {} Try.checked os 13 .any (Rows.fnHowOftenSpec.pre6 enc Try.prog Try.f13 Rows.fnHowOftenRow.domain false) (Rows.fnHowOftenSpec.post enc Try.prog Try.f13 false true false false) := by
  refine returnsInHanded_of_change (C := Try.checked) own started (by kernel_rfl) Try.func13
    (ChangeSpec.witness6 (enc := enc) (C := Try.checked) false ⟨#[], #[.slice none 0 0], []⟩ 8 (by kernel_rfl) (by kernel_rfl) (by kernel_rfl) (by kernel_rfl)) ?_
  intro W base args ds gs before hval0 hW _ _
  have hval : ∀ (j : Nat) t v, Try.f13.params[j]? = some t → args[j]? = some v → Value.okWide Try.prog W .any base t v := hval0
  have hW' := hW
  obtain ⟨p, q, hA0, hV, rfl, _, _⟩ := hW
  have hA : DataW.TrodAll enc Try.prog W 0 (fun _ => true) true Try.f13.params.toList args.toList ds p := hA0
  rw [Try.params13] at hA hval
  obtain ⟨v0, vs0, d0, ds0, p0, q0, hargs, rfl, rfl, h0, r0⟩ := trodAll_cons hA
  obtain ⟨rfl, rfl, rfl⟩ := trodAll_nil r0
  obtain rfl : args = #[v0] := by cases args; simp_all
  obtain ⟨rfl, rfl⟩ := trodVars_none hV
  obtain ⟨xs0, hI0⟩ := open_bytes (hval 0 _ v0 rfl rfl) h0
  refine (FnHowOften_walk v0 xs0 W hI0).mono fun e W' ⟨he, hb⟩ => ⟨_, he, ?_⟩
  exact law_end rfl (by rw [Try.params13]; decide +kernel) rfl hW' rfl rfl rfl hb

theorem FnHowOften_facts : joinedFacts Try.prog 13 Try.f13 Rows.fnHowOftenSpec Rows.fnHowOftenRow = true :=
  facts_of (by kernel_rfl) q2 q3 (by kernel_rfl) (by kernel_rfl) (by kernel_rfl) q7 (by kernel_rfl) q9 (by kernel_rfl) (by kernel_rfl) (by kernel_rfl) (by kernel_rfl) (by kernel_rfl) (by kernel_rfl) (by kernel_rfl) (by kernel_rfl) (by kernel_rfl) (by kernel_rfl) (by kernel_rfl) (by kernel_rfl) (by kernel_rfl)
    (by rw [q22]; kernel_rfl) (by kernel_rfl) q23 head_enter (by kernel_rfl) head_lifts head_make (by kernel_rfl) (by kernel_rfl) (by kernel_rfl) (by kernel_rfl) (by kernel_rfl)

theorem FnHowOften_holds : Rows.FnHowOftenSaid :=
  OpenClaim.holds_of_wide 13 Try.f13 rfl rfl rfl rfl rfl rfl rfl ⟨rfl, rfl, rfl, rfl, rfl⟩ rfl rfl rfl rfl rfl (by kernel_rfl) Try.func13 FnHowOften_facts
    (of_decide_eq_true (by kernel_rfl)) (by unfold Func.isWrapper; first | (rw [if_pos (by decide +kernel)]; kernel_rfl) | (rw [if_neg (by decide +kernel)]; exact ⟨rfl, rfl⟩))
    (fun os started H enc _ => FnHowOften_lifted os started H enc)
end Go.Proofs.Ytoglgeinnocfjaa
