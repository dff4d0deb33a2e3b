/-
  FnCountOf: true, for every code.
-/
import Derived.Test.YtloalakpkjbeaaaP4
import Derived.Test.YtloalakpkjbeaaaP5
import Derived.Test.YtloalakpkjbeaaaP11
import Derived.Test.YtloalakpkjbeaaaP15
import Derived.Test.YtloalakpkjbeaaaP17
namespace Go.Proofs.Ytloalakpkjbeaaa
open Go.RowKit
open Go.ChangeShapes Go.WideShapes Go.ChangeAt Go.Deep

theorem cof_get {a : List Itm} (h : validI a = true) (s : ByteArray) : cofN a s = cnt a s ∧ getN a s = cnt a s ∧ (okG a s = false → cnt a s = 0) := by
  refine ⟨by unfold cofN; rw [if_pos h, sumL_one h], ?_, fun hk => ?_⟩
  · unfold getN okG
    rw [h, Bool.true_and]
    cases hh : hasI a s
    · rw [cnt_none hh]; rfl
    · rfl
  · unfold okG at hk
    rw [h, Bool.true_and] at hk
    exact cnt_none hk

set_option maxHeartbeats 3200000 in
set_option maxRecDepth 100000 in
theorem FnCountOf_walk (v : Value) (bs : List Int) (w : World) (h : Bytes w v bs) :
    Calls Try.prog 4 #[v] w fun e w' => e = .returned (.bool true) ∧ Below w.heap.size w w' := by
  have h0 := h
  obtain ⟨ao, cap, rfl, hl, hc, hok, hcell⟩ := h0
  clear hcell hok
  go_enter Try.func4, Try.ntmps4
  by_cases hbig : (1048576 : Int) < (bs.length : Int)
  · go_wp2
    go_ret
    exact ⟨rfl, Below.refl _ _⟩
  go_wp2_with fail
  refine (DrawCountOf_any _ bs w h).mono ?_
  rintro e w1 ⟨va, xs, s, rfl, hlen, hxa, hb1⟩
  have H1 := Things.nil w1
  obtain ⟨G, hG⟩ : ∃ G, Hid (G = cofN xs s) := ⟨_, Lib.hid rfl⟩
  have cI := Lib.hid (fun (v0 : Value) (w : World) (h0 : Items w v0 xs) => castN (CountOf_any v0 xs s w h0 hlen.2) hG.out.symm)
  have cS := Lib.hid (fun (v0 : Value) (w : World) (h0 : Items w v0 xs) => castN (sCountOf_any v0 xs s w h0) hG.out.symm)
  go_wp2_with fail
  refine (cI.out _ _ (H1.arg hxa)).mono ?_
  rintro e w2 ⟨rfl, hb⟩
  have H2 := H1.quiet hb
  clear hb H1
  go_wp2_with fail
  refine (cS.out _ _ (H2.arg hxa)).mono ?_
  rintro e w3 ⟨rfl, hb⟩
  have H3 := H2.quiet hb
  clear hb H2
  obtain ⟨V, hV⟩ : ∃ V, Hid (V = validI xs) := ⟨_, Lib.hid rfl⟩
  have cV := Lib.hid (fun (v0 : Value) (w : World) (h0 : Items w v0 xs) => castB (ValidItems_any v0 xs w h0) hV.out.symm)
  go_wp2_with fail
  refine (cV.out _ _ (H3.arg hxa)).mono ?_
  rintro e w4 ⟨rfl, hb⟩
  have H4 := H3.quiet hb
  clear hb H3
  cases V
  · skip
    go_wp2_with fail
    refine (cS.out _ _ (H4.arg hxa)).mono ?_
    rintro e w5 ⟨rfl, hb⟩
    have H5 := H4.quiet hb
    clear hb H4
    go_wp2
    go_ret
    exact ⟨rfl, hb1.trans (H5.below.mono hb1.size)⟩
  · have al := cof_get hV.out.symm s
    obtain ⟨K, hK⟩ : ∃ K, Hid (K = okG xs s) := ⟨_, Lib.hid rfl⟩
    have c1 := Lib.hid (fun (v0 : Value) (w : World) (h0 : Items w v0 xs) => castNB (GetItem_any v0 xs s w h0) (show getN xs s = G by rw [hG.out, al.1, al.2.1]) hK.out.symm)
    have hz : Hid (K = false → G = 0) := fun hk => by rw [hG.out, al.1]; exact al.2.2 (by rw [← hK.out]; exact hk)
    clear al hG hK cI cS cV
    go_wp2_with fail
    refine (c1.out _ _ (H4.arg hxa)).mono ?_
    rintro e w5 ⟨rfl, hb⟩
    have H5 := H4.quiet hb
    clear hb H4
    cases K
    · obtain rfl := hz.out (by first | rfl | trivial)
      go_wp2
      go_ret
      exact ⟨rfl, hb1.trans (H5.below.mono hb1.size)⟩
    · skip
      go_wp2
      go_ret
      exact ⟨rfl, hb1.trans (H5.below.mono hb1.size)⟩

set_option maxRecDepth 100000 in
theorem FnCountOf_lifted (os : Os) (started : os.Started) (H : Type) (enc : TypeId × Value → H) :
    ReturnsInHanded {} Try.checked os 4 .any (Rows.fnCountOfSpec.pre6 enc Try.prog Try.f4 Rows.fnCountOfRow.domain false) (Rows.fnCountOfSpec.post enc Try.prog Try.f4 false true false false) := by
  refine returnsInHanded_of_change (C := Try.checked) own started (by kernel_rfl) Try.func4
    (ChangeSpec.witness6 (enc := enc) (C := Try.checked) false ⟨#[], #[.slice none 0 0], []⟩ 8 (by kernel_rfl) (by kernel_rfl) (by kernel_rfl) (by kernel_rfl)) ?_
  intro W base args ds gs before hval0 hW _ _
  have hval : ∀ (j : Nat) t v, Try.f4.params[j]? = some t → args[j]? = some v → Value.okWide Try.prog W .any base t v := hval0
  have hW' := hW
  obtain ⟨p, q, hA0, hV, rfl, _, _⟩ := hW
  have hA : DataW.TrodAll enc Try.prog W 0 (fun _ => true) true Try.f4.params.toList args.toList ds p := hA0
  rw [Try.params4] at hA hval
  obtain ⟨v0, vs0, d0, ds0, p0, q0, hargs, rfl, rfl, h0, r0⟩ := trodAll_cons hA
  obtain ⟨rfl, rfl, rfl⟩ := trodAll_nil r0
  obtain rfl : args = #[v0] := by cases args; simp_all
  obtain ⟨rfl, rfl⟩ := trodVars_none hV
  obtain ⟨xs0, hI0⟩ := open_bytes (hval 0 _ v0 rfl rfl) h0
  refine (FnCountOf_walk v0 xs0 W hI0).mono fun e W' ⟨he, hb⟩ => ⟨_, he, ?_⟩
  exact law_end rfl (by rw [Try.params4]; decide +kernel) rfl hW' rfl rfl rfl hb

theorem FnCountOf_facts : joinedFacts Try.prog 4 Try.f4 Rows.fnCountOfSpec Rows.fnCountOfRow = true :=
  facts_of (by kernel_rfl) q2 q3 (by kernel_rfl) (by kernel_rfl) (by kernel_rfl) q7 (by kernel_rfl) q9 (by kernel_rfl) (by kernel_rfl) (by kernel_rfl) (by kernel_rfl) (by kernel_rfl) (by kernel_rfl) (by kernel_rfl) (by kernel_rfl) (by kernel_rfl) (by kernel_rfl) (by kernel_rfl) (by kernel_rfl) (by kernel_rfl)
    (by rw [q22]; kernel_rfl) (by kernel_rfl) q23 head_enter (by kernel_rfl) head_lifts head_make (by kernel_rfl) (by kernel_rfl) (by kernel_rfl) (by kernel_rfl) (by kernel_rfl)

theorem FnCountOf_holds : Rows.FnCountOfSaid :=
  OpenClaim.holds_of_wide 4 Try.f4 rfl rfl rfl rfl rfl rfl rfl ⟨rfl, rfl, rfl, rfl, rfl⟩ rfl rfl rfl rfl rfl (by kernel_rfl) Try.func4 FnCountOf_facts
    (of_decide_eq_true (by kernel_rfl)) (by unfold Func.isWrapper; first | (rw [if_pos (by decide +kernel)]; kernel_rfl) | (rw [if_neg (by decide +kernel)]; exact ⟨rfl, rfl⟩))
    (fun os started H enc _ => FnCountOf_lifted os started H enc)
end Go.Proofs.Ytloalakpkjbeaaa
