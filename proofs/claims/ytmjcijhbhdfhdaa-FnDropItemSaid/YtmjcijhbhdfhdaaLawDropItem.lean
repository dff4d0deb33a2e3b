/-
  FnDropItem: true, for every code.
-/
import Derived.Test.YtmjcijhbhdfhdaaP5
import Derived.Test.YtmjcijhbhdfhdaaP11
import Derived.Test.YtmjcijhbhdfhdaaP13
import Derived.Test.YtmjcijhbhdfhdaaP16
import Derived.Test.YtmjcijhbhdfhdaaP18
namespace Go.Proofs.Ytmjcijhbhdfhdaa
open Go.RowKit
open Go.ChangeShapes Go.WideShapes Go.ChangeAt Go.Deep

set_option maxHeartbeats 3200000 in
set_option maxRecDepth 100000 in
theorem FnDropItem_walk (v : Value) (bs : List Int) (w : World) (h : Bytes w v bs) :
    Calls Try.prog 10 #[v] w fun e w' => e = .returned (.bool true) ∧ Below w.heap.size w w' := by
  have h0 := h
  obtain ⟨ao, cap, rfl, hl, hc, hok, hcell⟩ := h0
  clear hcell hok
  go_enter Try.func10, Try.ntmps10
  by_cases hbig : (1048576 : Int) < (bs.length : Int)
  · go_wp2
    go_ret
    exact ⟨rfl, Below.refl _ _⟩
  go_wp2_with fail
  refine (DrawDropItem_any _ bs w h).mono ?_
  rintro e w1 ⟨va, xs, s, rfl, hlen, hxa, hb1⟩
  have H1 := Things.nil w1
  obtain ⟨G, hG⟩ : ∃ G, Hid (G = drpL xs s) := ⟨_, Lib.hid rfl⟩
  obtain ⟨K, hK⟩ : ∃ K, Hid (K = okG xs s) := ⟨_, Lib.hid rfl⟩
  have cI := Lib.hid (fun (v0 : Value) (w : World) (h0 : Items w v0 xs) => castI2 (DropItem_any v0 xs s w h0) hG.out.symm hK.out.symm)
  have cS := Lib.hid (fun (v0 : Value) (w : World) (h0 : Items w v0 xs) => castI2 (sDropItem_any v0 xs s w h0) hG.out.symm hK.out.symm)
  go_wp2_with fail
  refine (cI.out _ _ (H1.arg hxa)).mono ?_
  rintro e w2 ⟨vo, rfl, ho, hb⟩
  have H2 := H1.newI ho hb
  clear ho hb H1
  go_wp2_with fail
  refine (cS.out _ _ (H2.arg hxa)).mono ?_
  rintro e w3 ⟨vw, rfl, ho, hb⟩
  have H3 := H2.newI ho hb
  clear ho hb H2
  clear cI cS
  go_wp2_with fail
  refine (equalI_T H3 (H3.items 1 rfl) (H3.items 0 rfl)).mono ?_
  rintro e w4 ⟨rfl, H4⟩
  clear H3
  cases K
  · skip
    go_wp2_with fail
    refine (equalI_T H4 (H4.items 1 rfl) (H4.items 0 rfl)).mono ?_
    rintro e w5 ⟨rfl, H5⟩
    clear H4
    go_wp2
    go_ret
    exact ⟨rfl, hb1.trans (H5.below.mono hb1.size)⟩
  · have hk := hK.out.symm
    have al := drop_algebra hk
    obtain ⟨C, hC⟩ : ∃ C, Hid (C = cofN xs s) := ⟨_, Lib.hid rfl⟩
    obtain ⟨M, hM⟩ : ∃ M, Hid (M = movL xs s true) := ⟨_, Lib.hid rfl⟩
    have hcb : -9999 ≤ C ∧ C ≤ 9999 := by rw [hC.out]; unfold cofN; rw [if_pos (okG_parts hk).1, sumL_one (okG_parts hk).1]; exact cnt_valid (okG_parts hk).1 s
    have c1 := Lib.hid (fun (v0 : Value) (w : World) (h0 : Items w v0 xs) => castN (CountOf_any v0 xs s w h0 hlen.2) hC.out.symm)
    have c2 := Lib.hid (fun (v0 : Value) (w : World) (h0 : Items w v0 G) => castI2 (PutItem_any v0 G s C w h0 hlen.2 (by omega)) (show putL G s C = M by rw [hG.out, hC.out, hM.out]; exact al.2.2.1) (show okP G s C = true by rw [hG.out, hC.out]; exact al.2.1))
    have c3 := Lib.hid (fun (v0 : Value) (w : World) (h0 : Items w v0 xs) => castI2 (MoveItem_any v0 xs s true w h0) hM.out.symm hk)
    have c4 := Lib.hid (fun (v0 : Value) (w : World) (h0 : Items w v0 G) => castN (PlaceOf_any v0 G s w h0) (show plcN G s = -1 by rw [hG.out]; exact al.1))
    have hlG : G.length + 1 = xs.length := by rw [hG.out]; exact al.2.2.2
    clear hk al hG hK hC hM hcb
    go_wp2_with fail
    refine (c1.out _ _ (H4.arg hxa)).mono ?_
    rintro e w5 ⟨rfl, hb⟩
    have H5 := H4.quiet hb
    clear hb H4
    go_wp2_with fail
    refine (c2.out _ _ (H5.items 1 rfl)).mono ?_
    rintro e w6 ⟨v2, rfl, ho, hb⟩
    have H6 := H5.newI ho hb
    clear ho hb H5
    go_wp2_with fail
    refine (c3.out _ _ (H6.arg hxa)).mono ?_
    rintro e w7 ⟨v3, rfl, ho, hb⟩
    have H7 := H6.newI ho hb
    clear ho hb H6
    go_wp2_with fail
    refine (c4.out _ _ (H7.items 3 rfl)).mono ?_
    rintro e w8 ⟨rfl, hb⟩
    have H8 := H7.quiet hb
    clear hb H7
    go_wp2_with fail
    refine (equalI_T H8 (H8.items 1 rfl) (H8.items 0 rfl)).mono ?_
    rintro e w9 ⟨rfl, H9⟩
    clear H8
    obtain ⟨ao1, cap1, rfl, _, _, _, _⟩ := H9.items 3 rfl
    have hxa0 := hxa
    obtain ⟨ao2, cap2, rfl, _, _, _, _⟩ := hxa0
    have hwr : IntKind.i64.wrap ((xs.length : Int) - 1) = (G.length : Int) := by rw [IntWalk.i64_in _ (by omega)]; omega
    clear hlG
    go_wp2
    go_ret
    exact ⟨rfl, hb1.trans (H9.below.mono hb1.size)⟩

set_option maxRecDepth 100000 in
theorem FnDropItem_lifted (os : Os) (started : os.Started) (H : Type) (enc : TypeId × Value → H) :
    ReturnsInHanded {} Try.checked os 10 .any (Rows.fnDropItemSpec.pre6 enc Try.prog Try.f10 Rows.fnDropItemRow.domain false) (Rows.fnDropItemSpec.post enc Try.prog Try.f10 false true false false) := by
  refine returnsInHanded_of_change (C := Try.checked) own started (by kernel_rfl) Try.func10
    (ChangeSpec.witness6 (enc := enc) (C := Try.checked) false ⟨#[], #[.slice none 0 0], []⟩ 8 (by kernel_rfl) (by kernel_rfl) (by kernel_rfl) (by kernel_rfl)) ?_
  intro W base args ds gs before hval0 hW _ _
  have hval : ∀ (j : Nat) t v, Try.f10.params[j]? = some t → args[j]? = some v → Value.okWide Try.prog W .any base t v := hval0
  have hW' := hW
  obtain ⟨p, q, hA0, hV, rfl, _, _⟩ := hW
  have hA : DataW.TrodAll enc Try.prog W 0 (fun _ => true) true Try.f10.params.toList args.toList ds p := hA0
  rw [Try.params10] at hA hval
  obtain ⟨v0, vs0, d0, ds0, p0, q0, hargs, rfl, rfl, h0, r0⟩ := trodAll_cons hA
  obtain ⟨rfl, rfl, rfl⟩ := trodAll_nil r0
  obtain rfl : args = #[v0] := by cases args; simp_all
  obtain ⟨rfl, rfl⟩ := trodVars_none hV
  obtain ⟨xs0, hI0⟩ := open_bytes (hval 0 _ v0 rfl rfl) h0
  refine (FnDropItem_walk v0 xs0 W hI0).mono fun e W' ⟨he, hb⟩ => ⟨_, he, ?_⟩
  exact law_end rfl (by rw [Try.params10]; decide +kernel) rfl hW' rfl rfl rfl hb

theorem FnDropItem_facts : joinedFacts Try.prog 10 Try.f10 Rows.fnDropItemSpec Rows.fnDropItemRow = true :=
  facts_of (by kernel_rfl) q2 q3 (by kernel_rfl) (by kernel_rfl) (by kernel_rfl) q7 (by kernel_rfl) q9 (by kernel_rfl) (by kernel_rfl) (by kernel_rfl) (by kernel_rfl) (by kernel_rfl) (by kernel_rfl) (by kernel_rfl) (by kernel_rfl) (by kernel_rfl) (by kernel_rfl) (by kernel_rfl) (by kernel_rfl) (by kernel_rfl)
    (by rw [q22]; kernel_rfl) (by kernel_rfl) q23 head_enter (by kernel_rfl) head_lifts head_make (by kernel_rfl) (by kernel_rfl) (by kernel_rfl) (by kernel_rfl) (by kernel_rfl)

theorem FnDropItem_holds : Rows.FnDropItemSaid :=
  OpenClaim.holds_of_wide 10 Try.f10 rfl rfl rfl rfl rfl rfl rfl ⟨rfl, rfl, rfl, rfl, rfl⟩ rfl rfl rfl rfl rfl (by kernel_rfl) Try.func10 FnDropItem_facts
    (of_decide_eq_true (by kernel_rfl)) (by unfold Func.isWrapper; first | (rw [if_pos (by decide +kernel)]; kernel_rfl) | (rw [if_neg (by decide +kernel)]; exact ⟨rfl, rfl⟩))
    (fun os started H enc _ => FnDropItem_lifted os started H enc)
end Go.Proofs.Ytmjcijhbhdfhdaa
