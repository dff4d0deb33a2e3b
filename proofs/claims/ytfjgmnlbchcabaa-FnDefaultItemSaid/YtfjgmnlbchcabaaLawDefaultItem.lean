/-
  FnDefaultItem: true, for every code.
-/
import Derived.Test.YtfjgmnlbchcabaaP11
import Derived.Test.YtfjgmnlbchcabaaP21
import Derived.Test.YtfjgmnlbchcabaaP23
import Derived.Test.YtfjgmnlbchcabaaP24
import Derived.Test.YtfjgmnlbchcabaaP25
namespace Go.Proofs.Ytfjgmnlbchcabaa
open Go.RowKit
open Go.ChangeShapes Go.WideShapes Go.ChangeAt Go.Deep

theorem okD_parts {l : List Itm} {k : ByteArray} {n : Int} (h : okD l k n = true) : validI l = true ∧ okP l k (defI l k n) = true ∧ defL l k n = putI l k (defI l k n) ∧ defN l k n = defI l k n := by
  have h0 := h
  unfold okD at h
  obtain ⟨hv, _, e⟩ := okP_parts h
  exact ⟨hv, h, by unfold defL; exact e, by unfold defN; rw [if_pos h0]⟩
theorem def_algebra {l : List Itm} {k : ByteArray} {n : Int} (h : okD l k n = true) (m : Int) :
    okD (defL l k n) k m = true ∧ defN (defL l k n) k m = defN l k n ∧ defL (defL l k n) k m = defL l k n ∧ (okG l k = true → defN l k n = getN l k ∧ defL l k n = l) ∧ (okG l k = false → defN l k n = n) := by
  obtain ⟨hv, hp, e1, e2⟩ := okD_parts h
  obtain ⟨_, hq, _⟩ := okP_parts hp
  rw [e1, e2]
  have hh : hasI (putI l k (defI l k n)) k = true := by rw [hasI_putI]; simp
  have ed : defI (putI l k (defI l k n)) k m = defI l k n := by
    show (if hasI (putI l k (defI l k n)) k = true then _ else m) = _
    rw [if_pos hh, cnt_putI_same]
  have ep : putI (putI l k (defI l k n)) k (defI l k n) = putI l k (defI l k n) := putI_two l k _ _
  have ok2 : okD (putI l k (defI l k n)) k m = true := by
    unfold okD
    rw [ed]
    exact (okP_of hq (by rw [ep]; exact hq)).1
  obtain ⟨_, _, e3, e4⟩ := okD_parts ok2
  refine ⟨ok2, by rw [e4, ed], by rw [e3, ed, ep], fun hg => ?_, fun hg => ?_⟩
  · have hk := (okG_parts hg).2
    have e5 : defI l k n = cnt l k := by unfold defI; rw [if_pos hk]
    rw [e5, putI_self hk]
    exact ⟨(getn_of hg).symm, rfl⟩
  · have hk : hasI l k = false := by unfold okG at hg; rwa [hv, Bool.true_and] at hg
    unfold defI
    rw [if_neg (by simp [hk])]

set_option maxHeartbeats 3200000 in
set_option maxRecDepth 100000 in
theorem FnDefaultItem_walk (v : Value) (bs : List Int) (w : World) (h : Bytes w v bs) :
    Calls Try.prog 5 #[v] w fun e w' => e = .returned (.bool true) ∧ Below w.heap.size w w' := by
  have h0 := h
  obtain ⟨ao, cap, rfl, hl, hc, hok, hcell⟩ := h0
  clear hcell hok
  go_enter Try.func5, Try.ntmps5
  by_cases hbig : (1048576 : Int) < (bs.length : Int)
  · go_wp2
    go_ret
    exact ⟨rfl, Below.refl _ _⟩
  go_wp2_with fail
  refine (DrawDefaultItem_any _ bs w h).mono ?_
  rintro e w1 ⟨va, xs, s, n, rfl, hlen, hxa, hb1⟩
  have H1 := Things.nil w1
  obtain ⟨G, hG⟩ : ∃ G, Hid (G = defL xs s n) := ⟨_, Lib.hid rfl⟩
  obtain ⟨D, hD⟩ : ∃ D, Hid (D = defN xs s n) := ⟨_, Lib.hid rfl⟩
  obtain ⟨K, hK⟩ : ∃ K, Hid (K = okD xs s n) := ⟨_, Lib.hid rfl⟩
  have cI := Lib.hid (fun (v0 : Value) (w : World) (h0 : Items w v0 xs) => castLI (DefaultItem_any v0 xs s n w h0 hlen.2.1 (by omega)) hG.out.symm hD.out.symm hK.out.symm)
  have cS := Lib.hid (fun (v0 : Value) (w : World) (h0 : Items w v0 xs) => castLI (sDefaultItem_any v0 xs s n w h0 hlen.2.1 (by omega)) hG.out.symm hD.out.symm hK.out.symm)
  go_wp2_with fail
  refine (cI.out _ _ (H1.arg hxa)).mono ?_
  rintro e w2 ⟨vo, rfl, ho, hb⟩
  have H2 := H1.newI ho hb
  clear ho hb H1
  go_wp2_with fail
  refine (cS.out _ _ (H2.arg hxa)).mono ?_
  rintro e w3 ⟨vw, rfl, ho, hb⟩
  have H3 := H2.newI ho hb
  clear ho hb H2
  clear cI cS
  go_wp2_with fail
  refine (equalI_T H3 (H3.items 1 rfl) (H3.items 0 rfl)).mono ?_
  rintro e w4 ⟨rfl, H4⟩
  clear H3
  cases K
  · skip
    go_wp2_with fail
    refine (equalI_T H4 (H4.items 1 rfl) (H4.items 0 rfl)).mono ?_
    rintro e w5 ⟨rfl, H5⟩
    clear H4
    go_wp2
    go_ret
    exact ⟨rfl, hb1.trans (H5.below.mono hb1.size)⟩
  · have hwr : IntKind.i64.wrap (n + 1) = n + 1 := IntWalk.i64_in _ (by omega)
    obtain ⟨a1, a2, a3, a4, a5⟩ := def_algebra hK.out.symm (n + 1)
    rw [← hG.out] at a1 a2 a3 a4
    rw [← hD.out] at a2 a4 a5
    obtain ⟨O, hO⟩ : ∃ O, Hid (O = okG xs s) := ⟨_, Lib.hid rfl⟩
    obtain ⟨N, hN⟩ : ∃ N, Hid (N = getN xs s) := ⟨_, Lib.hid rfl⟩
    have c1 := Lib.hid (fun (v0 : Value) (w : World) (h0 : Items w v0 G) => castLI (DefaultItem_any v0 G s (n + 1) w h0 hlen.2.1 (by omega)) a3 a2 a1)
    have c2 := Lib.hid (fun (v0 : Value) (w : World) (h0 : Items w v0 xs) => castNB (GetItem_any v0 xs s w h0) hN.out.symm hO.out.symm)
    have A4 : Hid (O = true → D = N ∧ G = xs) := fun h => by rw [hN.out]; exact a4 (by rw [← hO.out]; exact h)
    have A5 : Hid (O = false → D = n) := fun h => a5 (by rw [← hO.out]; exact h)
    clear a1 a2 a3 a4 a5 hG hD hK hO hN
    go_wp2_with fail
    refine (c1.out _ _ (H4.items 1 rfl)).mono ?_
    rintro e w5 ⟨v1, rfl, ho, hb⟩
    have H5 := H4.newI ho hb
    clear ho hb H4
    go_wp2_with fail
    refine (c2.out _ _ (H5.arg hxa)).mono ?_
    rintro e w6 ⟨rfl, hb⟩
    have H6 := H5.quiet hb
    clear hb H5
    go_wp2_with fail
    refine (equalI_T H6 (H6.items 0 rfl) (H6.items 2 rfl)).mono ?_
    rintro e w7 ⟨rfl, H7⟩
    clear H6
    cases O
    · obtain rfl := A5.out (by first | rfl | trivial)
      go_wp2
      go_ret
      exact ⟨rfl, hb1.trans (H7.below.mono hb1.size)⟩
    · obtain ⟨hDN, hGx⟩ := A4.out (by first | rfl | trivial)
      subst hDN
      subst hGx
      go_wp2_with fail
      refine (equalI_T H7 (H7.items 2 rfl) (H7.arg hxa)).mono ?_
      rintro e w8 ⟨rfl, H8⟩
      clear H7
      go_wp2
      go_ret
      exact ⟨rfl, hb1.trans (H8.below.mono hb1.size)⟩

set_option maxRecDepth 100000 in
theorem FnDefaultItem_lifted (os : Os) (started : os.Started) (H : Type) (enc : TypeId × Value → H) :
    ReturnsInHanded {} Try.checked os 5 .any (Rows.fnDefaultItemSpec.pre6 enc Try.prog Try.f5 Rows.fnDefaultItemRow.domain false) (Rows.fnDefaultItemSpec.post enc Try.prog Try.f5 false true false false) := by
  refine returnsInHanded_of_change (C := Try.checked) own started (by kernel_rfl) Try.func5
    (ChangeSpec.witness6 (enc := enc) (C := Try.checked) false ⟨#[], #[.slice none 0 0], []⟩ 8 (by kernel_rfl) (by kernel_rfl) (by kernel_rfl) (by kernel_rfl)) ?_
  intro W base args ds gs before hval0 hW _ _
  have hval : ∀ (j : Nat) t v, Try.f5.params[j]? = some t → args[j]? = some v → Value.okWide Try.prog W .any base t v := hval0
  have hW' := hW
  obtain ⟨p, q, hA0, hV, rfl, _, _⟩ := hW
  have hA : DataW.TrodAll enc Try.prog W 0 (fun _ => true) true Try.f5.params.toList args.toList ds p := hA0
  rw [Try.params5] at hA hval
  obtain ⟨v0, vs0, d0, ds0, p0, q0, hargs, rfl, rfl, h0, r0⟩ := trodAll_cons hA
  obtain ⟨rfl, rfl, rfl⟩ := trodAll_nil r0
  obtain rfl : args = #[v0] := by cases args; simp_all
  obtain ⟨rfl, rfl⟩ := trodVars_none hV
  obtain ⟨xs0, hI0⟩ := open_bytes (hval 0 _ v0 rfl rfl) h0
  refine (FnDefaultItem_walk v0 xs0 W hI0).mono fun e W' ⟨he, hb⟩ => ⟨_, he, ?_⟩
  exact law_end rfl (by rw [Try.params5]; decide +kernel) rfl hW' rfl rfl rfl hb

theorem FnDefaultItem_facts : joinedFacts Try.prog 5 Try.f5 Rows.fnDefaultItemSpec Rows.fnDefaultItemRow = true :=
  facts_of (by kernel_rfl) q2 q3 (by kernel_rfl) (by kernel_rfl) (by kernel_rfl) q7 (by kernel_rfl) q9 (by kernel_rfl) (by kernel_rfl) (by kernel_rfl) (by kernel_rfl) (by kernel_rfl) (by kernel_rfl) (by kernel_rfl) (by kernel_rfl) (by kernel_rfl) (by kernel_rfl) (by kernel_rfl) (by kernel_rfl) (by kernel_rfl)
    (by rw [q22]; kernel_rfl) (by kernel_rfl) q23 head_enter (by kernel_rfl) head_lifts head_make (by kernel_rfl) (by kernel_rfl) (by kernel_rfl) (by kernel_rfl) (by kernel_rfl)

theorem FnDefaultItem_holds : Rows.FnDefaultItemSaid :=
  OpenClaim.holds_of_wide 5 Try.f5 rfl rfl rfl rfl rfl rfl rfl ⟨rfl, rfl, rfl, rfl, rfl⟩ rfl rfl rfl rfl rfl (by kernel_rfl) Try.func5 FnDefaultItem_facts
    (of_decide_eq_true (by kernel_rfl)) (by unfold Func.isWrapper; first | (rw [if_pos (by decide +kernel)]; kernel_rfl) | (rw [if_neg (by decide +kernel)]; exact ⟨rfl, rfl⟩))
    (fun os started H enc _ => FnDefaultItem_lifted os started H enc)
end Go.Proofs.Ytfjgmnlbchcabaa
