/-
  FnMoveItem: true, for every code.
-/
import Derived.Test.YtmjcijhbhdfhdaaP11
import Derived.Test.YtmjcijhbhdfhdaaP13
import Derived.Test.YtmjcijhbhdfhdaaP16
import Derived.Test.YtmjcijhbhdfhdaaP18
import Derived.Test.YtmjcijhbhdfhdaaP23
namespace Go.Proofs.Ytmjcijhbhdfhdaa
open Go.RowKit
open Go.ChangeShapes Go.WideShapes Go.ChangeAt Go.Deep

set_option maxHeartbeats 3200000 in
set_option maxRecDepth 100000 in
theorem FnMoveItem_walk (v : Value) (bs : List Int) (w : World) (h : Bytes w v bs) :
    Calls Try.prog 11 #[v] w fun e w' => e = .returned (.bool true) ∧ Below w.heap.size w w' := by
  have h0 := h
  obtain ⟨ao, cap, rfl, hl, hc, hok, hcell⟩ := h0
  clear hcell hok
  go_enter Try.func11, Try.ntmps11
  by_cases hbig : (1048576 : Int) < (bs.length : Int)
  · go_wp2
    go_ret
    exact ⟨rfl, Below.refl _ _⟩
  go_wp2_with fail
  refine (DrawMoveItem_any _ bs w h).mono ?_
  rintro e w1 ⟨va, xs, s, z, rfl, hlen, hxa, hb1⟩
  have H1 := Things.nil w1
  obtain ⟨G, hG⟩ : ∃ G, Hid (G = movL xs s z) := ⟨_, Lib.hid rfl⟩
  obtain ⟨K, hK⟩ : ∃ K, Hid (K = okG xs s) := ⟨_, Lib.hid rfl⟩
  have cI := Lib.hid (fun (v0 : Value) (w : World) (h0 : Items w v0 xs) => castI2 (MoveItem_any v0 xs s z w h0) hG.out.symm hK.out.symm)
  have cS := Lib.hid (fun (v0 : Value) (w : World) (h0 : Items w v0 xs) => castI2 (sMoveItem_any v0 xs s z w h0) hG.out.symm hK.out.symm)
  go_wp2_with fail
  refine (cI.out _ _ (H1.arg hxa)).mono ?_
  rintro e w2 ⟨vo, rfl, ho, hb⟩
  have H2 := H1.newI ho hb
  clear ho hb H1
  go_wp2_with fail
  refine (cS.out _ _ (H2.arg hxa)).mono ?_
  rintro e w3 ⟨vw, rfl, ho, hb⟩
  have H3 := H2.newI ho hb
  clear ho hb H2
  clear cI cS
  go_wp2_with fail
  refine (equalI_T H3 (H3.items 1 rfl) (H3.items 0 rfl)).mono ?_
  rintro e w4 ⟨rfl, H4⟩
  clear H3
  cases K
  · skip
    go_wp2_with fail
    refine (equalI_T H4 (H4.items 1 rfl) (H4.items 0 rfl)).mono ?_
    rintro e w5 ⟨rfl, H5⟩
    clear H4
    go_wp2
    go_ret
    exact ⟨rfl, hb1.trans (H5.below.mono hb1.size)⟩
  · have hk := hK.out.symm
    have al := move_algebra hk z
    have am := move_at hk z
    obtain ⟨D, hD⟩ : ∃ D, Hid (D = drpL xs s) := ⟨_, Lib.hid rfl⟩
    have c1 := Lib.hid (fun (v0 : Value) (w : World) (h0 : Items w v0 xs) => castI2 (DropItem_any v0 xs s w h0) hD.out.symm hk)
    have c2 := Lib.hid (fun (v0 : Value) (w : World) (h0 : Items w v0 G) => castI2 (DropItem_any v0 G s w h0) (show drpL G s = D by rw [hG.out, hD.out]; exact al.2.2.1) (show okG G s = true by rw [hG.out]; exact al.1))
    have c3 := Lib.hid (fun (v0 v1 : Value) (w : World) (h0 : Items w v0 G) (h1 : Items w v1 xs) => castB (SameItems_any v0 v1 G xs w h0 h1) (show smB G xs = true by rw [hG.out]; exact sm_of (okG_parts al.1).1 (by rw [mov_of hk]; exact mov_perm (okG_parts hk).2 z)))
    rw [← hG.out] at am
    clear al hG hK hk hD
    cases z
    · obtain ⟨hj, p1⟩ := am
      simp only [Bool.false_eq_true, if_false] at hj p1
      obtain ⟨ao1, cap1, rfl, hlc1, hcm1⟩ := Items.shape (H4.items 1 rfl)
      have hj2 : (0 : Int) < (G.length : Int) := by omega
      go_wp2_with fail
      refine (c1.out _ _ (H4.arg hxa)).mono ?_
      rintro e w5 ⟨v1, rfl, ho, hb⟩
      have H5 := H4.newI ho hb
      clear ho hb H4
      go_wp2_with fail
      refine (c2.out _ _ (H5.items 2 rfl)).mono ?_
      rintro e w6 ⟨v2, rfl, ho, hb⟩
      have H6 := H5.newI ho hb
      clear ho hb H5
      obtain ⟨b1, o1, rfl, hbk1, k1, k2⟩ := Items.cellAt (H6.items 3 rfl) hj
      rw [p1] at k1
      simp only [Nat.zero_mul, Nat.add_zero] at k1
      clear k2
      go_wp2_with fail
      refine (c3.out _ _ _ (H6.items 3 rfl) (H6.arg hxa)).mono ?_
      rintro e w7 ⟨rfl, hb⟩
      have H7 := H6.quiet hb
      clear hb H6
      go_wp2_with fail
      refine (equalI_T H7 (H7.items 1 rfl) (H7.items 0 rfl)).mono ?_
      rintro e w8 ⟨rfl, H8⟩
      clear H7
      go_wp2
      go_ret
      exact ⟨rfl, hb1.trans (H8.below.mono hb1.size)⟩
    · obtain ⟨hj, p1⟩ := am
      simp only [if_true] at hj p1
      obtain ⟨ao1, cap1, rfl, hlc1, hcm1⟩ := Items.shape (H4.items 1 rfl)
      obtain ⟨j, hj0⟩ : ∃ j : Nat, G.length = j + 1 := ⟨G.length - 1, by omega⟩
      have hj1 : j < G.length := by omega
      have p2 : G[j].1 = s := by
        have e : j = G.length - 1 := by omega
        subst e
        exact p1
      have hj2 : (j : Int) < (G.length : Int) := by omega
      have hj3 : (0 : Int) ≤ (j : Int) := by omega
      have hwr : IntKind.i64.wrap ((G.length : Int) - 1) = (j : Int) := by rw [IntWalk.i64_in _ (by omega)]; omega
      clear p1 hj hj0
      go_wp2_with fail
      refine (c1.out _ _ (H4.arg hxa)).mono ?_
      rintro e w5 ⟨v1, rfl, ho, hb⟩
      have H5 := H4.newI ho hb
      clear ho hb H4
      go_wp2_with fail
      refine (c2.out _ _ (H5.items 2 rfl)).mono ?_
      rintro e w6 ⟨v2, rfl, ho, hb⟩
      have H6 := H5.newI ho hb
      clear ho hb H5
      obtain ⟨b1, o1, rfl, hbk1, k1, k2⟩ := Items.cellAt (H6.items 3 rfl) hj1
      rw [p2] at k1
      clear k2
      go_wp2_with fail
      refine (c3.out _ _ _ (H6.items 3 rfl) (H6.arg hxa)).mono ?_
      rintro e w7 ⟨rfl, hb⟩
      have H7 := H6.quiet hb
      clear hb H6
      go_wp2_with fail
      refine (equalI_T H7 (H7.items 1 rfl) (H7.items 0 rfl)).mono ?_
      rintro e w8 ⟨rfl, H8⟩
      clear H7
      go_wp2
      go_ret
      exact ⟨rfl, hb1.trans (H8.below.mono hb1.size)⟩

set_option maxRecDepth 100000 in
theorem FnMoveItem_lifted (os : Os) (started : os.Started) (H : Type) (enc : TypeId × Value → H) :
    ReturnsInHanded {} Try.checked os 11 .any (Rows.fnMoveItemSpec.pre6 enc Try.prog Try.f11 Rows.fnMoveItemRow.domain false) (Rows.fnMoveItemSpec.post enc Try.prog Try.f11 false true false false) := by
  refine returnsInHanded_of_change (C := Try.checked) own started (by kernel_rfl) Try.func11
    (ChangeSpec.witness6 (enc := enc) (C := Try.checked) false ⟨#[], #[.slice none 0 0], []⟩ 8 (by kernel_rfl) (by kernel_rfl) (by kernel_rfl) (by kernel_rfl)) ?_
  intro W base args ds gs before hval0 hW _ _
  have hval : ∀ (j : Nat) t v, Try.f11.params[j]? = some t → args[j]? = some v → Value.okWide Try.prog W .any base t v := hval0
  have hW' := hW
  obtain ⟨p, q, hA0, hV, rfl, _, _⟩ := hW
  have hA : DataW.TrodAll enc Try.prog W 0 (fun _ => true) true Try.f11.params.toList args.toList ds p := hA0
  rw [Try.params11] at hA hval
  obtain ⟨v0, vs0, d0, ds0, p0, q0, hargs, rfl, rfl, h0, r0⟩ := trodAll_cons hA
  obtain ⟨rfl, rfl, rfl⟩ := trodAll_nil r0
  obtain rfl : args = #[v0] := by cases args; simp_all
  obtain ⟨rfl, rfl⟩ := trodVars_none hV
  obtain ⟨xs0, hI0⟩ := open_bytes (hval 0 _ v0 rfl rfl) h0
  refine (FnMoveItem_walk v0 xs0 W hI0).mono fun e W' ⟨he, hb⟩ => ⟨_, he, ?_⟩
  exact law_end rfl (by rw [Try.params11]; decide +kernel) rfl hW' rfl rfl rfl hb

theorem FnMoveItem_facts : joinedFacts Try.prog 11 Try.f11 Rows.fnMoveItemSpec Rows.fnMoveItemRow = true :=
  facts_of (by kernel_rfl) q2 q3 (by kernel_rfl) (by kernel_rfl) (by kernel_rfl) q7 (by kernel_rfl) q9 (by kernel_rfl) (by kernel_rfl) (by kernel_rfl) (by kernel_rfl) (by kernel_rfl) (by kernel_rfl) (by kernel_rfl) (by kernel_rfl) (by kernel_rfl) (by kernel_rfl) (by kernel_rfl) (by kernel_rfl) (by kernel_rfl)
    (by rw [q22]; kernel_rfl) (by kernel_rfl) q23 head_enter (by kernel_rfl) head_lifts head_make (by kernel_rfl) (by kernel_rfl) (by kernel_rfl) (by kernel_rfl) (by kernel_rfl)

theorem FnMoveItem_holds : Rows.FnMoveItemSaid :=
  OpenClaim.holds_of_wide 11 Try.f11 rfl rfl rfl rfl rfl rfl rfl ⟨rfl, rfl, rfl, rfl, rfl⟩ rfl rfl rfl rfl rfl (by kernel_rfl) Try.func11 FnMoveItem_facts
    (of_decide_eq_true (by kernel_rfl)) (by unfold Func.isWrapper; first | (rw [if_pos (by decide +kernel)]; kernel_rfl) | (rw [if_neg (by decide +kernel)]; exact ⟨rfl, rfl⟩))
    (fun os started H enc _ => FnMoveItem_lifted os started H enc)
end Go.Proofs.Ytmjcijhbhdfhdaa
