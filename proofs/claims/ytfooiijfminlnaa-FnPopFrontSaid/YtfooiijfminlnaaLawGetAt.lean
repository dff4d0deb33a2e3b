/-
  FnGetAt: true, for every code.
-/
import Derived.Test.YtfooiijfminlnaaLwN
import Derived.Test.YtfooiijfminlnaaOpenB
namespace Go.Proofs.Ytfooiijfminlnaa
open Go.RowKit
open Go.ChangeShapes Go.WideShapes Go.ChangeAt Go.Deep

theorem in_front {xs : List Int} {m : Int} (h : validD xs m = true) {j : Nat} (hj : j < xs.length) : inD xs m (j : Int) = j := by
  unfold inD; rw [h, if_pos rfl]; unfold atI; rw [if_neg (by omega), if_pos (by omega)]
theorem in_back {xs : List Int} {m k : Int} (h : validD xs m = true) (h1 : -(xs.length : Int) ≤ k) (h2 : k < 0) : inD xs m k = k + (xs.length : Int) := by
  unfold inD; rw [h, if_pos rfl]; unfold atI; rw [if_pos (by omega)]
theorem in_out {xs : List Int} {m k : Int} (h : validD xs m = true) (h1 : k < -(xs.length : Int) ∨ (xs.length : Int) ≤ k) : inD xs m k = -1 := by
  unfold inD; rw [h, if_pos rfl]; unfold atI; rw [if_neg (by omega), if_neg (by omega)]
theorem getOk_yes {i : Int} (h : 0 ≤ i) : getOk i = true := decide_eq_true h
theorem getOk_no : getOk (-1) = false := rfl
theorem get_twice {xs : List Int} {m : Int} (h : validD xs m = true) {j : Nat} (hj : j < xs.length) :
    getV xs (inD xs m (j : Int)) = xs[j] ∧ getOk (inD xs m (j : Int)) = true ∧ getV xs (inD xs m ((j : Int) - (xs.length : Int))) = xs[j] ∧ getOk (inD xs m ((j : Int) - (xs.length : Int))) = true := by
  have e1 := in_front h hj
  have e2 : inD xs m ((j : Int) - (xs.length : Int)) = (j : Int) := by rw [in_back h (by omega) (by omega)]; omega
  rw [e1, e2]
  exact ⟨getV_at hj, getOk_yes (by omega), getV_at hj, getOk_yes (by omega)⟩

set_option maxHeartbeats 1600000 in
set_option maxRecDepth 100000 in
theorem FnGetAt_walk (v : Value) (bs : List Int) (w : World) (h : Bytes w v bs) :
    Calls Try.prog 4 #[v] w fun e w' => e = .returned (.bool true) ∧ Below w.heap.size w w' := by
  have h0 := h
  obtain ⟨ao, cap, rfl, hl, hc, hok, hcell⟩ := h0
  clear hcell hok
  go_enter Try.func4, Try.ntmps4
  by_cases hbig : (1048576 : Int) < (bs.length : Int)
  · go_wp2
    go_ret
    exact ⟨rfl, Below.refl _ _⟩
  go_wp2_with fail
  refine (DrawGetAt_any _ bs w h).mono ?_
  rintro e w1 ⟨vd, xs, m, k, rfl, ho, hb, hk, hbl⟩
  have H1 := (Things.nil w).new (t := numT w.heap.size w1.heap.size vd xs) (Nat.le_refl _) (Nat.le_refl _) ho hbl
  obtain ⟨dp, dc, rfl, hdc, hdm⟩ := (H1.nums 0 rfl).slice
  have HB1 := H1.boxed 25 [.slice dp xs.length dc, .int .i64 m]
  obtain ⟨d0, d1⟩ := HB1.box2 0 rfl
  obtain ⟨A, hA⟩ : ∃ A, Hid (A = getV xs (inD xs m k)) := ⟨_, rfl⟩
  obtain ⟨B, hB⟩ : ∃ B, Hid (B = getOk (inD xs m k)) := ⟨_, rfl⟩
  have cI := Lib.hid (fun (v : Value) (w : World) (h : Nums w v xs) => (show Calls Try.prog 20 #[.agg #[v, .int .i64 m], .int .i64 k] w (RetN (.tuple #[.int .i64 A, .bool B]) w) by rw [hA.out, hB.out]; exact GetAt_any v xs m k w h hk))
  have cS := Lib.hid (fun (v : Value) (w : World) (h : Nums w v xs) => (show Calls Try.prog 22 #[.agg #[v, .int .i64 m], .int .i64 k] w (RetN (.tuple #[.int .i64 A, .bool B]) w) by rw [hA.out, hB.out]; exact sGetAt_any v xs m k w h hk))
  clear ho hbl H1 h
  go_wp2_with fail
  refine (cI.out _ _ (HB1.nums 1 rfl)).mono ?_
  rintro e w2 ⟨rfl, hbl⟩
  have H2 := HB1.quiet hbl
  clear HB1 hbl d0 d1
  obtain ⟨d0, d1⟩ := H2.box2 0 rfl
  go_wp2_with fail
  refine (cS.out _ _ (H2.nums 1 rfl)).mono ?_
  rintro e w3 ⟨rfl, hbl⟩
  have H3 := H2.quiet hbl
  clear H2 hbl d0 d1 cS
  obtain ⟨d0, d1⟩ := H3.box2 0 rfl
  cases hv : validD xs m
  all_goals
    have HV := Lib.hid hv
    clear hv
    go_wp2_with fail
    refine (VD_v _ (H3.nums 1 rfl) HV.out).mono ?_
    rintro e w4 ⟨rfl, hbl⟩
    have H4 := H3.quiet hbl
    clear H3 hbl d0 d1
    obtain ⟨d0, d1⟩ := H4.box2 0 rfl
  · go_wp2
    go_ret
    exact ⟨rfl, H4.below⟩
  · have hlen : xs.length ≤ 10 := validD_len HV.out
    by_cases hk0 : 0 ≤ k
    · obtain ⟨j, rfl⟩ := Int.eq_ofNat_of_zero_le hk0
      by_cases hkn : (j : Int) < (xs.length : Int)
      · have hj : j < xs.length := by omega
        obtain ⟨e1, e2, e3, e4⟩ := get_twice HV.out hj
        have hAx := hA.out.trans e1
        have hBt := hB.out.trans e2
        have c3 := Lib.hid (fun (v : Value) (w : World) (h : Nums w v xs) => (show Calls Try.prog 20 #[.agg #[v, .int .i64 m], .int .i64 ((j : Int) - (xs.length : Int))] w (RetN (.tuple #[.int .i64 A, .bool true]) w) by
          have h1 := GetAt_any v xs m ((j : Int) - (xs.length : Int)) w h (by omega)
          rw [e3, e4, ← hAx] at h1
          exact h1))
        have HAX := Lib.hid hAx
        clear e1 e2 e3 e4 hAx cI hA hB
        subst hBt
        have hw := IntWalk.i64_in ((j : Int) - (xs.length : Int)) (by omega)
        go_wp2_with fail
        refine (c3.out _ _ (H4.nums 1 rfl)).mono ?_
        rintro e w5 ⟨rfl, hbl⟩
        have H5 := H4.quiet hbl
        clear H4 hbl d0 d1 c3
        obtain ⟨d0, d1⟩ := H5.box2 0 rfl
        obtain ⟨ap, acp, ee, _, _, _, hcell⟩ := H5.nums 1 rfl
        simp only [Value.slice.injEq] at ee
        obtain ⟨rfl, -, -⟩ := ee
        obtain ⟨b, o, rfl, hbb, hcc⟩ := hcell j hj
        rw [← HAX.out] at hcc
        clear hcell
        go_wp2
        go_ret
        exact ⟨rfl, H5.below⟩
      · have hBf : B = false := by rw [hB.out, in_out HV.out (by omega)]; rfl
        clear hA hB cI
        subst hBf
        have hge : -(xs.length : Int) ≤ (j : Int) := by omega
        have hjn : decide (j < xs.length) = false := decide_eq_false (by omega)
        go_wp2
        go_ret
        exact ⟨rfl, H4.below⟩
    · by_cases hkn : -(xs.length : Int) ≤ k
      · have hBt : B = true := by rw [hB.out, in_back HV.out hkn (by omega)]; exact getOk_yes (by omega)
        clear hA hB cI
        subst hBt
        have hlt : k < (xs.length : Int) := by omega
        go_wp2
        go_ret
        exact ⟨rfl, H4.below⟩
      · have hBf : B = false := by rw [hB.out, in_out HV.out (by omega)]; rfl
        clear hA hB cI
        subst hBf
        go_wp2
        go_ret
        exact ⟨rfl, H4.below⟩

set_option maxRecDepth 100000 in
theorem FnGetAt_lifted (os : Os) (started : os.Started) (H : Type) (enc : TypeId × Value → H) :
    ReturnsInHanded {} Try.checked os 4 .any (Rows.fnGetAtSpec.pre6 enc Try.prog Try.f4 Rows.fnGetAtRow.domain false) (Rows.fnGetAtSpec.post enc Try.prog Try.f4 false true false false) := by
  refine returnsInHanded_of_change (C := Try.checked) own started (by kernel_rfl) Try.func4
    (ChangeSpec.witness6 (enc := enc) (C := Try.checked) false ⟨#[], #[.slice none 0 0], []⟩ 8 (by kernel_rfl) (by kernel_rfl) (by kernel_rfl) (by kernel_rfl)) ?_
  intro W base args ds gs before hval0 hW _ _
  have hval : ∀ (j : Nat) t v, Try.f4.params[j]? = some t → args[j]? = some v → Value.okWide Try.prog W .any base t v := hval0
  have hW' := hW
  obtain ⟨p, q, hA0, hV, rfl, _, _⟩ := hW
  have hA : DataW.TrodAll enc Try.prog W 0 (fun _ => true) true Try.f4.params.toList args.toList ds p := hA0
  rw [Try.params4] at hA hval
  obtain ⟨v0, vs0, d0, ds0, p0, q0, hargs, rfl, rfl, h0, r0⟩ := trodAll_cons hA
  obtain ⟨rfl, rfl, rfl⟩ := trodAll_nil r0
  obtain rfl : args = #[v0] := by cases args; simp_all
  obtain ⟨rfl, rfl⟩ := trodVars_none hV
  obtain ⟨xs0, hI0⟩ := open_bytes (hval 0 _ v0 rfl rfl) h0
  refine (FnGetAt_walk v0 xs0 W hI0).mono fun e W' ⟨he, hb⟩ => ⟨_, he, ?_⟩
  exact law_end rfl (by rw [Try.params4]; decide +kernel) rfl hW' rfl rfl rfl hb

theorem FnGetAt_facts : joinedFacts Try.prog 4 Try.f4 Rows.fnGetAtSpec Rows.fnGetAtRow = true :=
  facts_of (by kernel_rfl) q2 q3 (by kernel_rfl) (by kernel_rfl) (by kernel_rfl) q7 (by kernel_rfl) q9 (by kernel_rfl) (by kernel_rfl) (by kernel_rfl) (by kernel_rfl) (by kernel_rfl) (by kernel_rfl) (by kernel_rfl) (by kernel_rfl) (by kernel_rfl) (by kernel_rfl) (by kernel_rfl) (by kernel_rfl) (by kernel_rfl)
    (by rw [q22]; kernel_rfl) (by kernel_rfl) q23 head_enter (by kernel_rfl) head_lifts head_make (by kernel_rfl) (by kernel_rfl) (by kernel_rfl) (by kernel_rfl) (by kernel_rfl)

theorem FnGetAt_holds : Rows.FnGetAtSaid :=
  OpenClaim.holds_of_wide 4 Try.f4 rfl rfl rfl rfl rfl rfl rfl ⟨rfl, rfl, rfl, rfl, rfl⟩ rfl rfl rfl rfl rfl (by kernel_rfl) Try.func4 FnGetAt_facts
    (of_decide_eq_true (by kernel_rfl)) (by unfold Func.isWrapper; first | (rw [if_pos (by decide +kernel)]; kernel_rfl) | (rw [if_neg (by decide +kernel)]; exact ⟨rfl, rfl⟩))
    (fun os started H enc _ => FnGetAt_lifted os started H enc)
end Go.Proofs.Ytfooiijfminlnaa
