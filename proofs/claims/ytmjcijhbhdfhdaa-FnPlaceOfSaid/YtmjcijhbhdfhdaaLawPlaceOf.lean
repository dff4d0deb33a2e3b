/-
  FnPlaceOf: true, for every code.
-/
import Derived.Test.YtmjcijhbhdfhdaaP4
import Derived.Test.YtmjcijhbhdfhdaaP11
import Derived.Test.YtmjcijhbhdfhdaaP13
import Derived.Test.YtmjcijhbhdfhdaaP16
import Derived.Test.YtmjcijhbhdfhdaaP18
namespace Go.Proofs.Ytmjcijhbhdfhdaa
open Go.RowKit
open Go.ChangeShapes Go.WideShapes Go.ChangeAt Go.Deep

set_option maxHeartbeats 3200000 in
set_option maxRecDepth 100000 in
theorem FnPlaceOf_walk (v : Value) (bs : List Int) (w : World) (h : Bytes w v bs) :
    Calls Try.prog 13 #[v] w fun e w' => e = .returned (.bool true) ∧ Below w.heap.size w w' := by
  have h0 := h
  obtain ⟨ao, cap, rfl, hl, hc, hok, hcell⟩ := h0
  clear hcell hok
  go_enter Try.func13, Try.ntmps13
  by_cases hbig : (1048576 : Int) < (bs.length : Int)
  · go_wp2
    go_ret
    exact ⟨rfl, Below.refl _ _⟩
  go_wp2_with fail
  refine (DrawPlaceOf_any _ bs w h).mono ?_
  rintro e w1 ⟨va, xs, s, rfl, hlen, hxa, hb1⟩
  have H1 := Things.nil w1
  obtain ⟨G, hG⟩ : ∃ G, Hid (G = plcN xs s) := ⟨_, Lib.hid rfl⟩
  have cI := Lib.hid (fun (v0 : Value) (w : World) (h0 : Items w v0 xs) => castN (PlaceOf_any v0 xs s w h0) hG.out.symm)
  have cS := Lib.hid (fun (v0 : Value) (w : World) (h0 : Items w v0 xs) => castN (sPlaceOf_any v0 xs s w h0) hG.out.symm)
  go_wp2_with fail
  refine (cI.out _ _ (H1.arg hxa)).mono ?_
  rintro e w2 ⟨rfl, hb⟩
  have H2 := H1.quiet hb
  clear hb H1
  go_wp2_with fail
  refine (cS.out _ _ (H2.arg hxa)).mono ?_
  rintro e w3 ⟨rfl, hb⟩
  have H3 := H2.quiet hb
  clear hb H2
  obtain ⟨V, hV⟩ : ∃ V, Hid (V = validI xs) := ⟨_, Lib.hid rfl⟩
  have cV := Lib.hid (fun (v0 : Value) (w : World) (h0 : Items w v0 xs) => castB (ValidItems_any v0 xs w h0) hV.out.symm)
  go_wp2_with fail
  refine (cV.out _ _ (H3.arg hxa)).mono ?_
  rintro e w4 ⟨rfl, hb⟩
  have H4 := H3.quiet hb
  clear hb H3
  cases V
  · skip
    go_wp2_with fail
    refine (cS.out _ _ (H4.arg hxa)).mono ?_
    rintro e w5 ⟨rfl, hb⟩
    have H5 := H4.quiet hb
    clear hb H4
    go_wp2
    go_ret
    exact ⟨rfl, hb1.trans (H5.below.mono hb1.size)⟩
  · have hv := hV.out.symm
    clear cI cS cV hV
    obtain ⟨ao1, cap1, rfl, hlc1, hcm1, hok1, hcell1⟩ := H4.arg hxa
    have HX := Lib.hid (H4.arg hxa)
    go_wp2
    go_loopw [6] (fun i wr => ∃ k : Nat, i = .int .i64 k ∧ k ≤ xs.length ∧ Below w4.heap.size w4 wr) (fun i _ => xs.length - (intOf i).toNat)
    case atStart => exact ⟨0, rfl, Nat.zero_le _, Below.refl _ _⟩
    case round =>
      obtain ⟨k, rfl, hk, hbl⟩ := hrel
      by_cases hlt : k < xs.length
      · skip
        obtain ⟨b1, o1, rfl, hbk1, k1, k2⟩ := hcell1 k hlt
        have c1 := (hbl.cell (p := ⟨b1, _, none⟩) hbk1).trans k1
        have cP := Lib.hid (fun (v0 : Value) (w : World) (h0 : Items w v0 xs) => castN (PlaceOf_any v0 xs xs[k].1 w h0) (plc_at hv hlt))
        have HX2 := Lib.hid (HX.out.mono hbl (Nat.le_refl _))
        clear k1 k2
        go_wp2_with fail
        refine (cP.out _ _ HX2.out).mono ?_
        rintro e w9 ⟨rfl, hb9⟩
        have hbl9 := hbl.trans (hb9.mono hbl.size)
        clear cP HX2 c1
        go_wp2
        go_roundw
        case rel => exact ⟨k + 1, by go_num, by omega, hbl9⟩
        case measure => simp [intOf]; omega
      · obtain rfl : k = xs.length := by omega
        have H5 := H4.quiet hbl
        clear H4
        cases hh : hasI xs s
        · obtain rfl : G = -1 := hG.out.trans (plc_no hh)
          clear hG hh
          go_wp2
          go_ret
          exact ⟨rfl, hb1.trans (H5.below.mono hb1.size)⟩
        · obtain ⟨j, hj, p1, p2, _⟩ := plc_yes hv hh
          obtain rfl : G = (j : Int) := hG.out.trans p1
          obtain ⟨b1, o1, rfl, hbk1, k1, k2⟩ := hcell1 j hj
          have c1 := (hbl.cell (p := ⟨b1, _, none⟩) hbk1).trans k1
          rw [p2] at c1
          have hj2 : (j : Int) < (xs.length : Int) := by omega
          have hj3 : (0 : Int) ≤ (j : Int) := by omega
          clear p1 p2 hG hh k1 k2 hcell1 hbl
          go_wp2
          go_ret
          exact ⟨rfl, hb1.trans (H5.below.mono hb1.size)⟩

set_option maxRecDepth 100000 in
theorem FnPlaceOf_lifted (os : Os) (started : os.Started) (H : Type) (enc : TypeId × Value → H) :
    ReturnsInHanded {} Try.checked os 13 .any (Rows.fnPlaceOfSpec.pre6 enc Try.prog Try.f13 Rows.fnPlaceOfRow.domain false) (Rows.fnPlaceOfSpec.post enc Try.prog Try.f13 false true false false) := by
  refine returnsInHanded_of_change (C := Try.checked) own started (by kernel_rfl) Try.func13
    (ChangeSpec.witness6 (enc := enc) (C := Try.checked) false ⟨#[], #[.slice none 0 0], []⟩ 8 (by kernel_rfl) (by kernel_rfl) (by kernel_rfl) (by kernel_rfl)) ?_
  intro W base args ds gs before hval0 hW _ _
  have hval : ∀ (j : Nat) t v, Try.f13.params[j]? = some t → args[j]? = some v → Value.okWide Try.prog W .any base t v := hval0
  have hW' := hW
  obtain ⟨p, q, hA0, hV, rfl, _, _⟩ := hW
  have hA : DataW.TrodAll enc Try.prog W 0 (fun _ => true) true Try.f13.params.toList args.toList ds p := hA0
  rw [Try.params13] at hA hval
  obtain ⟨v0, vs0, d0, ds0, p0, q0, hargs, rfl, rfl, h0, r0⟩ := trodAll_cons hA
  obtain ⟨rfl, rfl, rfl⟩ := trodAll_nil r0
  obtain rfl : args = #[v0] := by cases args; simp_all
  obtain ⟨rfl, rfl⟩ := trodVars_none hV
  obtain ⟨xs0, hI0⟩ := open_bytes (hval 0 _ v0 rfl rfl) h0
  refine (FnPlaceOf_walk v0 xs0 W hI0).mono fun e W' ⟨he, hb⟩ => ⟨_, he, ?_⟩
  exact law_end rfl (by rw [Try.params13]; decide +kernel) rfl hW' rfl rfl rfl hb

theorem FnPlaceOf_facts : joinedFacts Try.prog 13 Try.f13 Rows.fnPlaceOfSpec Rows.fnPlaceOfRow = true :=
  facts_of (by kernel_rfl) q2 q3 (by kernel_rfl) (by kernel_rfl) (by kernel_rfl) q7 (by kernel_rfl) q9 (by kernel_rfl) (by kernel_rfl) (by kernel_rfl) (by kernel_rfl) (by kernel_rfl) (by kernel_rfl) (by kernel_rfl) (by kernel_rfl) (by kernel_rfl) (by kernel_rfl) (by kernel_rfl) (by kernel_rfl) (by kernel_rfl)
    (by rw [q22]; kernel_rfl) (by kernel_rfl) q23 head_enter (by kernel_rfl) head_lifts head_make (by kernel_rfl) (by kernel_rfl) (by kernel_rfl) (by kernel_rfl) (by kernel_rfl)

theorem FnPlaceOf_holds : Rows.FnPlaceOfSaid :=
  OpenClaim.holds_of_wide 13 Try.f13 rfl rfl rfl rfl rfl rfl rfl ⟨rfl, rfl, rfl, rfl, rfl⟩ rfl rfl rfl rfl rfl (by kernel_rfl) Try.func13 FnPlaceOf_facts
    (of_decide_eq_true (by kernel_rfl)) (by unfold Func.isWrapper; first | (rw [if_pos (by decide +kernel)]; kernel_rfl) | (rw [if_neg (by decide +kernel)]; exact ⟨rfl, rfl⟩))
    (fun os started H enc _ => FnPlaceOf_lifted os started H enc)
end Go.Proofs.Ytmjcijhbhdfhdaa
