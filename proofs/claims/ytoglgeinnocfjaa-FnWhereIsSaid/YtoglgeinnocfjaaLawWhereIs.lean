/-
  FnWhereIs: true, for every code.
-/
import Derived.Test.YtoglgeinnocfjaaC7
import Derived.Test.YtoglgeinnocfjaaC17
import Derived.Test.YtoglgeinnocfjaaC20
import Derived.Test.YtoglgeinnocfjaaC21
import Derived.Test.YtoglgeinnocfjaaC22
namespace Go.Proofs.Ytoglgeinnocfjaa
open Go.RowKit
open Go.ChangeShapes Go.WideShapes Go.ChangeAt Go.Deep

theorem plc_has {l : List Itm} {s : ByteArray} (hv : validI l = true) (h : hasI l s = true) : 0 ≤ plcN l s := by
  unfold plcN
  rw [hv, if_pos rfl]
  obtain ⟨k, _, h1, _⟩ := plcI_yes (l := l) (s := s) 0 h
  rw [h1]
  omega
theorem plc_hasnt {l : List Itm} {s : ByteArray} (h : hasI l s = false) : plcN l s = -1 := by
  unfold plcN
  rw [plcI_no 0 h]
  split <;> rfl

set_option maxHeartbeats 4000000 in
set_option maxRecDepth 100000 in
theorem FnWhereIs_walk (v : Value) (bs : List Int) (w : World) (h : Bytes w v bs) :
    Calls Try.prog 10 #[v] w fun e w' => e = .returned (.bool true) ∧ Below w.heap.size w w' := by
  have h0 := h
  obtain ⟨ao, cap, rfl, hl, hc, hok, hcell⟩ := h0
  clear hcell hok
  go_enter Try.func10, Try.ntmps10
  by_cases hbig : (1048576 : Int) < (bs.length : Int)
  · go_wp2
    go_ret
    exact ⟨rfl, Below.refl _ _⟩
  go_wp2_with fail
  refine (DrawWhereIs_any _ bs w h).mono ?_
  rintro e w1 ⟨vc, ls, s, rfl, hbnd, hm, hbl⟩
  have H1 := (Things.nil w).new (t := readMT w.heap.size w1.heap.size vc ls) (Nat.le_refl _) (Nat.le_refl _) hm hbl
  obtain ⟨cp, cc, rfl, hcc, hcm⟩ := (H1.mapsR 0 rfl).slice
  have H2 := H1.boxed 51 [.slice cp ls.length cc]
  clear hm hbl H1 h
  obtain ⟨W, hW⟩ : ∃ W, Hid (W = whC ls s) := ⟨_, Lib.hid rfl⟩
  obtain ⟨V, hV⟩ : ∃ V, Hid (V = validC ls) := ⟨_, Lib.hid rfl⟩
  have cV := Lib.hid (fun (v0 : Value) (w : World) (h0 : Maps w v0 ls) => (show Calls Try.prog 42 #[.agg #[v0]] w (RetQ (.bool V) w) by rw [hV.out]; exact VC_any v0 ls w h0))
  have cI := Lib.hid (fun (v0 : Value) (w : World) (h0 : Maps w v0 ls) => (show Calls Try.prog 46 #[.agg #[v0], .string s] w (RetQ (.int .i64 W) w) by rw [hW.out]; exact WhereIs_any v0 ls s w h0))
  have cS := Lib.hid (fun (v0 : Value) (w : World) (h0 : Maps w v0 ls) => (show Calls Try.prog 47 #[.agg #[v0], .string s] w (RetQ (.int .i64 W) w) by rw [hW.out]; exact sWhereIs_any v0 ls s w h0))
  have c0_ := H2.box1 0 rfl
  go_wp2_with fail
  refine (cI.out _ _ (H2.mapsR 1 rfl)).mono ?_
  rintro e w3 ⟨rfl, hb⟩
  have H3 := H2.quiet hb
  clear c0_
  clear hb H2
  have c0_ := H3.box1 0 rfl
  go_wp2_with fail
  refine (cS.out _ _ (H3.mapsR 1 rfl)).mono ?_
  rintro e w4 ⟨rfl, hb⟩
  have H4 := H3.quiet hb
  clear c0_
  clear hb H3
  have c0_ := H4.box1 0 rfl
  go_wp2_with fail
  refine (cV.out _ _ (H4.mapsR 1 rfl)).mono ?_
  rintro e w5 ⟨rfl, hb⟩
  have H5 := H4.quiet hb
  clear c0_
  clear hb H4
  cases V
  · skip
    have c0_ := H5.box1 0 rfl
    go_wp2_with fail
    refine (cS.out _ _ (H5.mapsR 1 rfl)).mono ?_
    rintro e w6 ⟨rfl, hb⟩
    have H6 := H5.quiet hb
    clear c0_
    clear hb H5
    go_wp2
    go_ret
    exact ⟨rfl, H6.below⟩
  · have hv := hV.out.symm
    have hw : W = whP ls s := by rw [hW.out, whC_yes hv]
    obtain ⟨O, hO⟩ : ∃ O, Hid (O = oftP ls s) := ⟨_, Lib.hid rfl⟩
    have cO := Lib.hid (fun (v0 : Value) (w : World) (h0 : Maps w v0 ls) => (show Calls Try.prog 49 #[.agg #[v0], .string s] w (RetQ (.int .i64 O) w) by have h1 := HowOften_any v0 ls s w h0; rw [ofC_yes hv, ← hO.out] at h1; exact h1))
    have hWO : Hid (0 ≤ W ↔ 0 < O) := by unfold Hid; rw [hw, hO.out]; exact wh_oft s ls
    have hWl : Hid (∀ (k : Nat) (h : k < ls.length), hasI ls[k] s = true → 0 ≤ W ∧ W ≤ k) := by unfold Hid; rw [hw]; exact wh_le s ls
    have hWa : Hid (∀ (k : Nat) (h : k < ls.length), W = k → hasI ls[k] s = true) := by unfold Hid; rw [hw]; exact wh_at s ls
    have hVa : Hid (∀ (k : Nat) (h : k < ls.length), validI ls[k] = true) := fun k h => (validC_iff.1 hv).1 _ (List.getElem_mem h)
    clear hv hw hO hV hW cI cS cV
    have c0_ := H5.box1 0 rfl
    go_wp2
    go_loopw [6] (fun i wr => ∃ k : Nat, i = .int .i64 k ∧ k ≤ ls.length ∧ Below w5.heap.size w5 wr) (fun i _ => ls.length - (intOf i).toNat)
    case atStart => exact ⟨0, rfl, Nat.zero_le _, Below.refl _ _⟩
    case round =>
      obtain ⟨k, rfl, hk, hbl⟩ := hrel
      by_cases hlt : k < ls.length
      · skip
        have R := H5.quiet hbl
        obtain ⟨b, o, cp2, x, e, hb, d0, hI⟩ := (R.mapsR 1 rfl).at hlt
        simp only [Value.slice.injEq] at e
        obtain ⟨rfl, _, rfl⟩ := e
        have HI := Lib.hid hI
        clear c0_
        have c0_ := R.box1 0 rfl
        have hki : (0 : Int) ≤ (k : Int) := by omega
        have hkl : (k : Int) < (ls.length : Int) := by omega
        obtain ⟨P, hP⟩ : ∃ P, Hid (P = plcN ls[k] s) := ⟨_, Lib.hid rfl⟩
        clear hI
        go_wp2_with fail
        refine (PlaceOf_any _ _ _ _ HI.out).mono ?_
        rw [← hP.out]
        rintro e wq ⟨rfl, hq⟩
        have hbl2 := hbl.trans (hq.mono hbl.size)
        clear d0 HI c0_ R hq
        cases hh : hasI ls[k] s
        · have hPn : P = -1 := by rw [hP.out]; exact plc_hasnt hh
          have hkW : ¬ (k : Int) = W := fun e => by have := hWa.out k hlt e.symm; rw [hh] at this; cases this
          have hkW2 : ((k : Int) == W) = false := by rw [beq_eq_false_iff_ne]; exact hkW
          subst hPn
          clear hh
          go_wp2
          go_roundw
          case rel => exact ⟨k + 1, by go_num, by omega, hbl2⟩
          case measure => simp [intOf]; omega
        · have hPn : 0 ≤ P := by rw [hP.out]; exact plc_has (hVa.out k hlt) hh
          obtain ⟨hW0, hWk⟩ := hWl.out k hlt hh
          have hW1 : ¬ W < 0 := by omega
          have hW2 : ¬ (k : Int) < W := by omega
          clear hh
          by_cases hkW : (k : Int) = W
          · have hkW2 : ((k : Int) == W) = true := by rw [hkW]; exact beq_self_eq_true _
            go_wp2
            go_roundw
            case rel => exact ⟨k + 1, by go_num, by omega, hbl2⟩
            case measure => simp [intOf]; omega
          · have hkW2 : ((k : Int) == W) = false := by rw [beq_eq_false_iff_ne]; exact hkW
            go_wp2
            go_roundw
            case rel => exact ⟨k + 1, by go_num, by omega, hbl2⟩
            case measure => simp [intOf]; omega
      · obtain rfl : k = ls.length := by omega
        have H6 := H5.quiet hbl
        clear H5
        clear c0_
        have c0_ := H6.box1 0 rfl
        clear hWl hWa hVa
        go_wp2_with fail
        refine (cO.out _ _ (H6.mapsR 1 rfl)).mono ?_
        rintro e w7 ⟨rfl, hb⟩
        have H7 := H6.quiet hb
        clear c0_
        clear hb H6
        have hq : (decide (0 ≤ W) == decide (0 < O)) = true := by rw [beq_iff_eq, decide_eq_decide]; exact hWO.out
        go_wp2
        go_ret
        exact ⟨rfl, H7.below⟩

set_option maxRecDepth 100000 in
theorem FnWhereIs_lifted (os : Os) (started : os.Started) (H : Type) (enc : TypeId × Value → H) :
    ReturnsInHanded {} Try.checked os 10 .any (Rows.fnWhereIsSpec.pre6 enc Try.prog Try.f10 Rows.fnWhereIsRow.domain false) (Rows.fnWhereIsSpec.post enc Try.prog Try.f10 false true false false) := by
  refine returnsInHanded_of_change (C := Try.checked) own started (by kernel_rfl) Try.func10
    (ChangeSpec.witness6 (enc := enc) (C := Try.checked) false ⟨#[], #[.slice none 0 0], []⟩ 8 (by kernel_rfl) (by kernel_rfl) (by kernel_rfl) (by kernel_rfl)) ?_
  intro W base args ds gs before hval0 hW _ _
  have hval : ∀ (j : Nat) t v, Try.f10.params[j]? = some t → args[j]? = some v → Value.okWide Try.prog W .any base t v := hval0
  have hW' := hW
  obtain ⟨p, q, hA0, hV, rfl, _, _⟩ := hW
  have hA : DataW.TrodAll enc Try.prog W 0 (fun _ => true) true Try.f10.params.toList args.toList ds p := hA0
  rw [Try.params10] at hA hval
  obtain ⟨v0, vs0, d0, ds0, p0, q0, hargs, rfl, rfl, h0, r0⟩ := trodAll_cons hA
  obtain ⟨rfl, rfl, rfl⟩ := trodAll_nil r0
  obtain rfl : args = #[v0] := by cases args; simp_all
  obtain ⟨rfl, rfl⟩ := trodVars_none hV
  obtain ⟨xs0, hI0⟩ := open_bytes (hval 0 _ v0 rfl rfl) h0
  refine (FnWhereIs_walk v0 xs0 W hI0).mono fun e W' ⟨he, hb⟩ => ⟨_, he, ?_⟩
  exact law_end rfl (by rw [Try.params10]; decide +kernel) rfl hW' rfl rfl rfl hb

theorem FnWhereIs_facts : joinedFacts Try.prog 10 Try.f10 Rows.fnWhereIsSpec Rows.fnWhereIsRow = true :=
  facts_of (by kernel_rfl) q2 q3 (by kernel_rfl) (by kernel_rfl) (by kernel_rfl) q7 (by kernel_rfl) q9 (by kernel_rfl) (by kernel_rfl) (by kernel_rfl) (by kernel_rfl) (by kernel_rfl) (by kernel_rfl) (by kernel_rfl) (by kernel_rfl) (by kernel_rfl) (by kernel_rfl) (by kernel_rfl) (by kernel_rfl) (by kernel_rfl)
    (by rw [q22]; kernel_rfl) (by kernel_rfl) q23 head_enter (by kernel_rfl) head_lifts head_make (by kernel_rfl) (by kernel_rfl) (by kernel_rfl) (by kernel_rfl) (by kernel_rfl)

theorem FnWhereIs_holds : Rows.FnWhereIsSaid :=
  OpenClaim.holds_of_wide 10 Try.f10 rfl rfl rfl rfl rfl rfl rfl ⟨rfl, rfl, rfl, rfl, rfl⟩ rfl rfl rfl rfl rfl (by kernel_rfl) Try.func10 FnWhereIs_facts
    (of_decide_eq_true (by kernel_rfl)) (by unfold Func.isWrapper; first | (rw [if_pos (by decide +kernel)]; kernel_rfl) | (rw [if_neg (by decide +kernel)]; exact ⟨rfl, rfl⟩))
    (fun os started H enc _ => FnWhereIs_lifted os started H enc)
end Go.Proofs.Ytoglgeinnocfjaa
