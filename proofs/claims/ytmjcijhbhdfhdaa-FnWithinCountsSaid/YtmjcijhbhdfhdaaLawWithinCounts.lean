/-
  FnWithinCounts: true, for every code.
-/
import Derived.Test.YtmjcijhbhdfhdaaP4
import Derived.Test.YtmjcijhbhdfhdaaP5
import Derived.Test.YtmjcijhbhdfhdaaP7
import Derived.Test.YtmjcijhbhdfhdaaP11
import Derived.Test.YtmjcijhbhdfhdaaP16
namespace Go.Proofs.Ytmjcijhbhdfhdaa
open Go.RowKit
open Go.ChangeShapes Go.WideShapes Go.ChangeAt Go.Deep

set_option maxHeartbeats 3200000 in
set_option maxRecDepth 100000 in
theorem FnWithinCounts_walk (v : Value) (bs : List Int) (w : World) (h : Bytes w v bs) :
    Calls Try.prog 6 #[v] w fun e w' => e = .returned (.bool true) ∧ Below w.heap.size w w' := by
  have h0 := h
  obtain ⟨ao, cap, rfl, hl, hc, hok, hcell⟩ := h0
  clear hcell hok
  go_enter Try.func6, Try.ntmps6
  by_cases hbig : (1048576 : Int) < (bs.length : Int)
  · go_wp2
    go_ret
    exact ⟨rfl, Below.refl _ _⟩
  go_wp2_with fail
  refine (DrawWithinCounts_any _ bs w h).mono ?_
  rintro e w1 ⟨va, xs, vb, ys, rfl, hlen, hxa, hxb, hb1⟩
  have H1 := Things.nil w1
  obtain ⟨G, hG⟩ : ∃ G, Hid (G = witB xs ys) := ⟨_, Lib.hid rfl⟩
  have cI := Lib.hid (fun (v0 v1 : Value) (w : World) (h0 : Items w v0 xs) (h1 : Items w v1 ys) => castB (WithinCounts_any v0 v1 xs ys w h0 h1) hG.out.symm)
  have cS := Lib.hid (fun (v0 v1 : Value) (w : World) (h0 : Items w v0 xs) (h1 : Items w v1 ys) => castB (sWithinCounts_any v0 v1 xs ys w h0 h1) hG.out.symm)
  go_wp2_with fail
  refine (cI.out _ _ _ (H1.arg hxa) (H1.arg hxb)).mono ?_
  rintro e w2 ⟨rfl, hb⟩
  have H2 := H1.quiet hb
  clear hb H1
  go_wp2_with fail
  refine (cS.out _ _ _ (H2.arg hxa) (H2.arg hxb)).mono ?_
  rintro e w3 ⟨rfl, hb⟩
  have H3 := H2.quiet hb
  clear hb H2
  obtain ⟨V, hV⟩ : ∃ V, Hid (V = validI xs) := ⟨_, Lib.hid rfl⟩
  obtain ⟨U, hU⟩ : ∃ U, Hid (U = validI ys) := ⟨_, Lib.hid rfl⟩
  have cV := Lib.hid (fun (v0 : Value) (w : World) (h0 : Items w v0 xs) => castB (ValidItems_any v0 xs w h0) hV.out.symm)
  have cU := Lib.hid (fun (v0 : Value) (w : World) (h0 : Items w v0 ys) => castB (ValidItems_any v0 ys w h0) hU.out.symm)
  go_wp2_with fail
  refine (cV.out _ _ (H3.arg hxa)).mono ?_
  rintro e w4 ⟨rfl, hb⟩
  have H4 := H3.quiet hb
  clear hb H3
  cases V
  · skip
    go_wp2_with fail
    refine (cS.out _ _ _ (H4.arg hxa) (H4.arg hxb)).mono ?_
    rintro e w5 ⟨rfl, hb⟩
    have H5 := H4.quiet hb
    clear hb H4
    go_wp2
    go_ret
    exact ⟨rfl, hb1.trans (H5.below.mono hb1.size)⟩
  · have hv := hV.out.symm
    go_wp2_with fail
    refine (cU.out _ _ (H4.arg hxb)).mono ?_
    rintro e w5 ⟨rfl, hb⟩
    have H5 := H4.quiet hb
    clear hb H4
    cases U
    · skip
      go_wp2_with fail
      refine (cS.out _ _ _ (H5.arg hxa) (H5.arg hxb)).mono ?_
      rintro e w6 ⟨rfl, hb⟩
      have H6 := H5.quiet hb
      clear hb H5
      go_wp2
      go_ret
      exact ⟨rfl, hb1.trans (H6.below.mono hb1.size)⟩
    · have hu := hU.out.symm
      have c1 := Lib.hid (fun (v0 v1 : Value) (w : World) (h0 : Items w v0 xs) (h1 : Items w v1 xs) => castB (WithinCounts_any v0 v1 xs xs w h0 h1) ((wit_iff hv hv).2 fun s => Int.le_refl _))
      obtain ⟨S, hS⟩ : ∃ S, Hid (S = samB xs ys) := ⟨_, Lib.hid rfl⟩
      obtain ⟨R, hR⟩ : ∃ R, Hid (R = witB ys xs) := ⟨_, Lib.hid rfl⟩
      have c2 := Lib.hid (fun (v0 v1 : Value) (w : World) (h0 : Items w v0 xs) (h1 : Items w v1 ys) => castB (SameCounts_any v0 v1 xs ys w h0 h1) hS.out.symm)
      have c3 := Lib.hid (fun (v0 v1 : Value) (w : World) (h0 : Items w v0 ys) (h1 : Items w v1 xs) => castB (WithinCounts_any v0 v1 ys xs w h0 h1) hR.out.symm)
      have hm : S = (G && R) := by
        rw [Bool.eq_iff_iff, Bool.and_eq_true, hS.out, hG.out, hR.out, sam_iff hv hu, wit_iff hv hu, wit_iff hu hv]
        exact ⟨fun h => ⟨fun s => by rw [h]; exact Int.le_refl _, fun s => by rw [h]; exact Int.le_refl _⟩, fun h s => Int.le_antisymm (h.1 s) (h.2 s)⟩
      subst hm
      clear hv hu hG hS hR hV hU cI cS cV cU
      go_wp2_with fail
      refine (c1.out _ _ _ (H5.arg hxa) (H5.arg hxa)).mono ?_
      rintro e w6 ⟨rfl, hb⟩
      have H6 := H5.quiet hb
      clear hb H5
      cases G
      · skip
        go_wp2_with fail
        refine (c2.out _ _ _ (H6.arg hxa) (H6.arg hxb)).mono ?_
        rintro e w7 ⟨rfl, hb⟩
        have H7 := H6.quiet hb
        clear hb H6
        go_wp2
        go_ret
        exact ⟨rfl, hb1.trans (H7.below.mono hb1.size)⟩
      · skip
        go_wp2_with fail
        refine (c3.out _ _ _ (H6.arg hxb) (H6.arg hxa)).mono ?_
        rintro e w7 ⟨rfl, hb⟩
        have H7 := H6.quiet hb
        clear hb H6
        go_wp2_with fail
        refine (c2.out _ _ _ (H7.arg hxa) (H7.arg hxb)).mono ?_
        rintro e w8 ⟨rfl, hb⟩
        have H8 := H7.quiet hb
        clear hb H7
        cases R
        · skip
          go_wp2
          go_ret
          exact ⟨rfl, hb1.trans (H8.below.mono hb1.size)⟩
        · skip
          go_wp2
          go_ret
          exact ⟨rfl, hb1.trans (H8.below.mono hb1.size)⟩

set_option maxRecDepth 100000 in
theorem FnWithinCounts_lifted (os : Os) (started : os.Started) (H : Type) (enc : TypeId × Value → H) :
    ReturnsInHanded {} Try.checked os 6 .any (Rows.fnWithinCountsSpec.pre6 enc Try.prog Try.f6 Rows.fnWithinCountsRow.domain false) (Rows.fnWithinCountsSpec.post enc Try.prog Try.f6 false true false false) := by
  refine returnsInHanded_of_change (C := Try.checked) own started (by kernel_rfl) Try.func6
    (ChangeSpec.witness6 (enc := enc) (C := Try.checked) false ⟨#[], #[.slice none 0 0], []⟩ 8 (by kernel_rfl) (by kernel_rfl) (by kernel_rfl) (by kernel_rfl)) ?_
  intro W base args ds gs before hval0 hW _ _
  have hval : ∀ (j : Nat) t v, Try.f6.params[j]? = some t → args[j]? = some v → Value.okWide Try.prog W .any base t v := hval0
  have hW' := hW
  obtain ⟨p, q, hA0, hV, rfl, _, _⟩ := hW
  have hA : DataW.TrodAll enc Try.prog W 0 (fun _ => true) true Try.f6.params.toList args.toList ds p := hA0
  rw [Try.params6] at hA hval
  obtain ⟨v0, vs0, d0, ds0, p0, q0, hargs, rfl, rfl, h0, r0⟩ := trodAll_cons hA
  obtain ⟨rfl, rfl, rfl⟩ := trodAll_nil r0
  obtain rfl : args = #[v0] := by cases args; simp_all
  obtain ⟨rfl, rfl⟩ := trodVars_none hV
  obtain ⟨xs0, hI0⟩ := open_bytes (hval 0 _ v0 rfl rfl) h0
  refine (FnWithinCounts_walk v0 xs0 W hI0).mono fun e W' ⟨he, hb⟩ => ⟨_, he, ?_⟩
  exact law_end rfl (by rw [Try.params6]; decide +kernel) rfl hW' rfl rfl rfl hb

theorem FnWithinCounts_facts : joinedFacts Try.prog 6 Try.f6 Rows.fnWithinCountsSpec Rows.fnWithinCountsRow = true :=
  facts_of (by kernel_rfl) q2 q3 (by kernel_rfl) (by kernel_rfl) (by kernel_rfl) q7 (by kernel_rfl) q9 (by kernel_rfl) (by kernel_rfl) (by kernel_rfl) (by kernel_rfl) (by kernel_rfl) (by kernel_rfl) (by kernel_rfl) (by kernel_rfl) (by kernel_rfl) (by kernel_rfl) (by kernel_rfl) (by kernel_rfl) (by kernel_rfl)
    (by rw [q22]; kernel_rfl) (by kernel_rfl) q23 head_enter (by kernel_rfl) head_lifts head_make (by kernel_rfl) (by kernel_rfl) (by kernel_rfl) (by kernel_rfl) (by kernel_rfl)

theorem FnWithinCounts_holds : Rows.FnWithinCountsSaid :=
  OpenClaim.holds_of_wide 6 Try.f6 rfl rfl rfl rfl rfl rfl rfl ⟨rfl, rfl, rfl, rfl, rfl⟩ rfl rfl rfl rfl rfl (by kernel_rfl) Try.func6 FnWithinCounts_facts
    (of_decide_eq_true (by kernel_rfl)) (by unfold Func.isWrapper; first | (rw [if_pos (by decide +kernel)]; kernel_rfl) | (rw [if_neg (by decide +kernel)]; exact ⟨rfl, rfl⟩))
    (fun os started H enc _ => FnWithinCounts_lifted os started H enc)
end Go.Proofs.Ytmjcijhbhdfhdaa
