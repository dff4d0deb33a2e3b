/-
  FnScaleCounts: true, for every code.
-/
import Derived.Test.YtbiflkekhabpoaaEqualItems
import Derived.Test.YtbiflkekhabpoaaTotal
import Derived.Test.YtbiflkekhabpoaaImpl1
namespace Go.Proofs.Ytbiflkekhabpoaa
open Go.RowKit
open Go.ChangeShapes Go.WideShapes Go.ChangeAt Go.Deep

theorem sum_scale (a : List Itm) (m : Int) : sumI (a.map fun x => (x.1, x.2 * m)) = m * sumI a := by
  induction a with
  | nil => simp [sumI]
  | cons x r ih =>
    simp only [List.map_cons, sumI, ih]
    rw [Int.mul_add, Int.mul_comm x.2 m]
theorem twice_eq {a : List Itm} (h : validI a = true) : sumL a a 1 = sumL [] a 2 := by
  have hu := valid_uniq h
  rw [sumL_valid h, addAll_mk hu hu, scale_eq hu]
  have e1 : (keysL a).filter (fun k => !hasI a k) = [] := by
    rw [List.filter_eq_nil_iff]
    intro k hk
    rw [mem_keys] at hk
    simp [hk]
  rw [e1, List.append_nil]
  show (a.map (·.1)).map _ = _
  rw [List.map_map]
  refine List.map_congr_left fun x hx => ?_
  show (x.1, cnt a x.1 + cnt a x.1 * 1) = (x.1, x.2 * 2)
  rw [cnt_at_mem hu hx]
  congr 1
  omega
theorem sum_bd {a : List Itm} (h : validI a = true) : -100000 ≤ sumI a ∧ sumI a ≤ 100000 := by
  have h1 := leftSum_bd (fun _ => true) (valid_num h)
  rw [leftSum_all (fun _ _ => rfl)] at h1
  have h2 := valid_len h
  omega

theorem equal_obj {W w : World} {L : List Obj} (H : Objs W w L) (i j : Nat) {v u : Value} {xs : List Itm} (h : L[i]? = some (itemsO v xs)) (h' : L[j]? = some (itemsO u xs)) :
    Calls Try.prog 70 #[v, u] w fun e w' => e = .returned (.bool true) ∧ Objs W w' L := by
  refine (equalItems_any v u xs xs w (H.items i h) (H.items j h')).mono ?_
  rintro e w' ⟨rfl, hb⟩
  exact ⟨by rw [decide_eq_true rfl], H.quiet hb⟩

set_option maxHeartbeats 3200000 in
set_option maxRecDepth 100000 in
theorem FnScaleCounts_walk (v : Value) (bs : List Int) (w : World) (h : Bytes w v bs) :
    Calls Try.prog 23 #[v] w fun e w' => e = .returned (.bool true) ∧ Below w.heap.size w w' := by
  have h0 := h
  obtain ⟨ao, cap, rfl, hl, hc, hok, hcell⟩ := h0
  clear hcell hok
  go_enter Try.func23, Try.ntmps23
  by_cases hbig : (1048576 : Int) < (bs.length : Int)
  · go_wp2
    go_ret
    exact ⟨rfl, Below.refl _ _⟩
  go_wp2_with fail
  refine (DrawScaleCounts_any _ bs w h).mono ?_
  rintro e w1 ⟨v1, xs, n, rfl, hn, hown, hlen, hb1⟩
  have H1 := (Objs.nil w).new (o := itemsO v1 xs) hown hb1
  clear hown hb1 h
  obtain ⟨G, hG⟩ : ∃ G, Hid (G = if (validI xs && numB n) = true then chkI (sumL [] xs n) else []) := ⟨_, rfl⟩
  obtain ⟨K, hK⟩ : ∃ K, Hid (K = ((validI xs && numB n) && validI (sumL [] xs n))) := ⟨_, rfl⟩
  have cI := Lib.hid (fun (va : Value) (w : World) (h : Items w va xs) => (show Calls Try.prog 59 #[va, .int .i64 n] w (NewI2 G K w) by rw [hG.out, hK.out]; exact ScaleCounts_any va xs n w h))
  have cS := Lib.hid (fun (va : Value) (w : World) (h : Items w va xs) => (show Calls Try.prog 58 #[va, .int .i64 n] w (NewI2 G K w) by rw [hG.out, hK.out]; exact sScaleCounts_any va xs n w h))
  go_wp2_with fail
  refine (cI.out v1 w1 (H1.items 0 rfl)).mono ?_
  rintro e w2 ⟨v2, rfl, ho, hb⟩
  have H2 := H1.newI ho hb
  clear ho hb H1
  go_wp2_with fail
  refine (cS.out v1 w2 (H2.items 1 rfl)).mono ?_
  rintro e w3 ⟨v3, rfl, ho, hb⟩
  have H3 := H2.newI ho hb
  clear ho hb H2
  go_wp2_with fail
  refine (equal_obj H3 1 0 rfl rfl).mono ?_
  rintro e w4 ⟨rfl, H4⟩
  clear H3
  cases K
  · go_wp2_with fail
    refine (equal_obj H4 1 0 rfl rfl).mono ?_
    rintro e w5 ⟨rfl, H5⟩
    go_wp2
    go_ret
    exact ⟨rfl, H5.below⟩
  · have hk := hK.out.symm
    rw [Bool.and_eq_true, Bool.and_eq_true] at hk
    obtain ⟨⟨hv, hm⟩, hs⟩ := hk
    have hG' : G = sumL [] xs n := by
      rw [hG.out, hv, hm]
      simp only [Bool.and_self, if_true]
      unfold chkI
      rw [hs, if_pos rfl]
    have hT := sum_bd hv
    have hm2 := numB_iff.1 hm
    have htot := Lib.hid (show sumI G = n * sumI xs by rw [hG', scale_eq (valid_uniq hv), sum_scale])
    have hTS := sum_bd hs
    rw [← hG', htot.out] at hTS
    obtain ⟨T, hTe⟩ : ∃ T, Hid (T = sumI xs) := ⟨_, rfl⟩
    have c1 := Lib.hid (fun (va : Value) (w : World) (h : Items w va G) => (show Calls Try.prog 61 #[va] w (fun e w' => e = .returned (.int .i64 (n * T)) ∧ Below w.heap.size w w') by
      have h1 := TotalCount_any va G w h
      have h2 : validI G = true := by rw [hG']; exact hs
      rw [h2, if_pos rfl, sumL_one h2, htot.out, ← hTe.out] at h1
      exact h1))
    have c2 := Lib.hid (fun (va : Value) (w : World) (h : Items w va xs) => (show Calls Try.prog 61 #[va] w (fun e w' => e = .returned (.int .i64 T) ∧ Below w.heap.size w w') by
      have h1 := TotalCount_any va xs w h
      rw [hv, if_pos rfl, sumL_one hv, ← hTe.out] at h1
      exact h1))
    rw [← hTe.out] at hTS hT
    have e1 : IntKind.i64.wrap (n * T) = n * T := IntWalk.i64_in _ (by omega)
    obtain ⟨G2, hG2⟩ : ∃ G2, Hid (G2 = chkI (sumL [] xs 2)) := ⟨_, rfl⟩
    obtain ⟨K2, hK2⟩ : ∃ K2, Hid (K2 = validI (sumL [] xs 2)) := ⟨_, rfl⟩
    have c3 := Lib.hid (fun (va : Value) (w : World) (h : Items w va xs) => (show Calls Try.prog 59 #[va, .int .i64 2] w (NewI2 G2 K2 w) by
      have h1 := ScaleCounts_any va xs 2 w h
      rw [hv, show numB 2 = true from rfl, ← hG2.out, ← hK2.out] at h1
      simpa using h1))
    have c4 := Lib.hid (fun (va vb : Value) (w : World) (h : Items w va xs) (h' : Items w vb xs) => (show Calls Try.prog 41 #[va, vb] w (NewI2 G2 K2 w) by
      have h1 := UpdateCounts_any va vb xs xs w h h'
      rw [hv, twice_eq hv, ← hG2.out, ← hK2.out] at h1
      simpa using h1))
    clear hv hm hs hG' hm2 htot hTS hT
    go_wp2_with fail
    refine (c3.out v1 _ (H4.items 2 rfl)).mono ?_
    rintro e w5 ⟨v5, rfl, ho, hb⟩
    have H5 := H4.newI ho hb
    clear ho hb H4
    go_wp2_with fail
    refine (c4.out v1 v1 _ (H5.items 3 rfl) (H5.items 3 rfl)).mono ?_
    rintro e w6 ⟨v6, rfl, ho, hb⟩
    have H6 := H5.newI ho hb
    clear ho hb H5
    go_wp2_with fail
    refine (c1.out v2 _ (H6.items 3 rfl)).mono ?_
    rintro e w7 ⟨rfl, hb⟩
    have H7 := H6.quiet hb
    clear hb H6
    go_wp2_with fail
    refine (c2.out v1 _ (H7.items 4 rfl)).mono ?_
    rintro e w8 ⟨rfl, hb⟩
    have H8 := H7.quiet hb
    clear hb H7
    cases K2
    · go_wp2
      go_ret
      exact ⟨rfl, H8.below⟩
    · go_wp2_with fail
      refine (equal_obj H8 1 0 rfl rfl).mono ?_
      rintro e w9 ⟨rfl, H9⟩
      go_wp2
      go_ret
      exact ⟨rfl, H9.below⟩

set_option maxRecDepth 100000 in
theorem FnScaleCounts_lifted (os : Os) (started : os.Started) (H : Type) (enc : TypeId × Value → H) :
    ReturnsInHanded {} Try.checked os 23 .any (Rows.fnScaleCountsSpec.pre6 enc Try.prog Try.f23 Rows.fnScaleCountsRow.domain false) (Rows.fnScaleCountsSpec.post enc Try.prog Try.f23 false true false false) := by
  refine returnsInHanded_of_change (C := Try.checked) own started (by kernel_rfl) Try.func23
    (ChangeSpec.witness6 (enc := enc) (C := Try.checked) false ⟨#[], #[.slice none 0 0], []⟩ 8 (by kernel_rfl) (by kernel_rfl) (by kernel_rfl) (by kernel_rfl)) ?_
  intro W base args ds gs before hval0 hW _ _
  have hval : ∀ (j : Nat) t v, Try.f23.params[j]? = some t → args[j]? = some v → Value.okWide Try.prog W .any base t v := hval0
  have hW' := hW
  obtain ⟨p, q, hA0, hV, rfl, _, _⟩ := hW
  have hA : DataW.TrodAll enc Try.prog W 0 (fun _ => true) true Try.f23.params.toList args.toList ds p := hA0
  rw [Try.params23] at hA hval
  obtain ⟨v0, vs0, d0, ds0, p0, q0, hargs, rfl, rfl, h0, r0⟩ := trodAll_cons hA
  obtain ⟨rfl, rfl, rfl⟩ := trodAll_nil r0
  obtain rfl : args = #[v0] := by cases args; simp_all
  obtain ⟨rfl, rfl⟩ := trodVars_none hV
  obtain ⟨xs0, hI0⟩ := open_bytes (hval 0 _ v0 rfl rfl) h0
  refine (FnScaleCounts_walk v0 xs0 W hI0).mono fun e W' ⟨he, hb⟩ => ⟨_, he, ?_⟩
  exact law_end rfl (by rw [Try.params23]; decide +kernel) rfl hW' rfl rfl rfl hb

theorem FnScaleCounts_facts : joinedFacts Try.prog 23 Try.f23 Rows.fnScaleCountsSpec Rows.fnScaleCountsRow = true :=
  facts_of (by kernel_rfl) q2 q3 (by kernel_rfl) (by kernel_rfl) (by kernel_rfl) q7 (by kernel_rfl) q9 (by kernel_rfl) (by kernel_rfl) (by kernel_rfl) (by kernel_rfl) (by kernel_rfl) (by kernel_rfl) (by kernel_rfl) (by kernel_rfl) (by kernel_rfl) (by kernel_rfl) (by kernel_rfl) (by kernel_rfl) (by kernel_rfl)
    (by rw [q22]; kernel_rfl) (by kernel_rfl) q23 head_enter (by kernel_rfl) head_lifts head_make (by kernel_rfl) (by kernel_rfl) (by kernel_rfl) (by kernel_rfl) (by kernel_rfl)

theorem FnScaleCounts_holds : Rows.FnScaleCountsSaid :=
  OpenClaim.holds_of_wide 23 Try.f23 rfl rfl rfl rfl rfl rfl rfl ⟨rfl, rfl, rfl, rfl, rfl⟩ rfl rfl rfl rfl rfl (by kernel_rfl) Try.func23 FnScaleCounts_facts
    (of_decide_eq_true (by kernel_rfl)) (by unfold Func.isWrapper; first | (rw [if_pos (by decide +kernel)]; kernel_rfl) | (rw [if_neg (by decide +kernel)]; exact ⟨rfl, rfl⟩))
    (fun os started H enc _ => FnScaleCounts_lifted os started H enc)
end Go.Proofs.Ytbiflkekhabpoaa
