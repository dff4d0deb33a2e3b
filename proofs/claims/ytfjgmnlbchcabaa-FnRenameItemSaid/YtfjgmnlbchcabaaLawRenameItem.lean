/-
  FnRenameItem: true, for every code.
-/
import Derived.Test.YtfjgmnlbchcabaaP11
import Derived.Test.YtfjgmnlbchcabaaP21
import Derived.Test.YtfjgmnlbchcabaaP23
import Derived.Test.YtfjgmnlbchcabaaP24
import Derived.Test.YtfjgmnlbchcabaaP25
namespace Go.Proofs.Ytfjgmnlbchcabaa
open Go.RowKit
open Go.ChangeShapes Go.WideShapes Go.ChangeAt Go.Deep

theorem plc_sp {a r : List Itm} {x : Itm} {k : ByteArray} (hx : x.1 = k) (ha : hasI a k = false) : ∀ i : Nat, plcI (a ++ x :: r) k i = (i + a.length : Nat) := by
  induction a with
  | nil => intro i; simp [plcI, hx]
  | cons y q ih =>
    intro i
    simp only [hasI, Bool.or_eq_false_iff, decide_eq_false_iff_not] at ha
    show plcI (y :: (q ++ x :: r)) k i = _
    unfold plcI
    rw [if_neg ha.1, ih ha.2]
    simp only [List.length_cons]
    omega
theorem ren_algebra {l : List Itm} {k t : ByteArray} (h : okR l k t = true) : okR (renL l k t) t k = true ∧ renL (renL l k t) t k = l ∧ plcN (renL l k t) t = plcN l k := by
  have h0 := h
  unfold okR at h
  simp only [Bool.and_eq_true, Bool.not_eq_true'] at h
  obtain ⟨⟨⟨hv, hk⟩, ht⟩, hr⟩ := h
  have e0 : renL l k t = renI l k t := by unfold renL; rw [if_pos h0]
  obtain ⟨a, x, r, e, hx, ha⟩ := hasI_split hk
  have e1 : renI l k t = a ++ (t, x.2) :: r := by rw [e]; exact renI_sp hx ha t
  have hne : k ≠ t := by rintro rfl; rw [hk] at ht; cases ht
  rw [e, hasI_append] at ht
  simp only [hasI, Bool.or_eq_false_iff, decide_eq_false_iff_not] at ht
  have hu := valid_uniq hv
  rw [e] at hu
  have hkr := hasI_of_uniq hu
  rw [hx] at hkr
  have e2 : renI (a ++ (t, x.2) :: r) t k = l := by
    rw [renI_sp rfl ht.1 k, e]
    show a ++ (k, x.2) :: r = a ++ x :: r
    rw [← hx]
  rw [e1] at hr
  rw [e0, e1]
  have ok2 : okR (a ++ (t, x.2) :: r) t k = true := by
    unfold okR
    rw [hr, e2, hv, hasI_sp rfl, hasI_append, hkr.1]
    simp [hasI, hkr.2, Ne.symm hne]
  refine ⟨ok2, by unfold renL; rw [if_pos ok2, e2], ?_⟩
  unfold plcN
  rw [if_pos hr, if_pos hv, plc_sp rfl ht.1, e, plc_sp hx ha]

set_option maxHeartbeats 3200000 in
set_option maxRecDepth 100000 in
theorem FnRenameItem_walk (v : Value) (bs : List Int) (w : World) (h : Bytes w v bs) :
    Calls Try.prog 6 #[v] w fun e w' => e = .returned (.bool true) ∧ Below w.heap.size w w' := by
  have h0 := h
  obtain ⟨ao, cap, rfl, hl, hc, hok, hcell⟩ := h0
  clear hcell hok
  go_enter Try.func6, Try.ntmps6
  by_cases hbig : (1048576 : Int) < (bs.length : Int)
  · go_wp2
    go_ret
    exact ⟨rfl, Below.refl _ _⟩
  go_wp2_with fail
  refine (DrawRenameItem_any _ bs w h).mono ?_
  rintro e w1 ⟨va, xs, s, t, rfl, hlen, hxa, hb1⟩
  have H1 := Things.nil w1
  obtain ⟨G, hG⟩ : ∃ G, Hid (G = renL xs s t) := ⟨_, Lib.hid rfl⟩
  obtain ⟨K, hK⟩ : ∃ K, Hid (K = okR xs s t) := ⟨_, Lib.hid rfl⟩
  have cI := Lib.hid (fun (v0 : Value) (w : World) (h0 : Items w v0 xs) => castI2 (RenameItem_any v0 xs s t w h0 hlen.2.2) hG.out.symm hK.out.symm)
  have cS := Lib.hid (fun (v0 : Value) (w : World) (h0 : Items w v0 xs) => castI2 (sRenameItem_any v0 xs s t w h0 hlen.2.2) hG.out.symm hK.out.symm)
  go_wp2_with fail
  refine (cI.out _ _ (H1.arg hxa)).mono ?_
  rintro e w2 ⟨vo, rfl, ho, hb⟩
  have H2 := H1.newI ho hb
  clear ho hb H1
  go_wp2_with fail
  refine (cS.out _ _ (H2.arg hxa)).mono ?_
  rintro e w3 ⟨vw, rfl, ho, hb⟩
  have H3 := H2.newI ho hb
  clear ho hb H2
  clear cI cS
  go_wp2_with fail
  refine (equalI_T H3 (H3.items 1 rfl) (H3.items 0 rfl)).mono ?_
  rintro e w4 ⟨rfl, H4⟩
  clear H3
  cases K
  · skip
    go_wp2_with fail
    refine (equalI_T H4 (H4.items 1 rfl) (H4.items 0 rfl)).mono ?_
    rintro e w5 ⟨rfl, H5⟩
    clear H4
    go_wp2
    go_ret
    exact ⟨rfl, hb1.trans (H5.below.mono hb1.size)⟩
  · have hk := hK.out.symm
    obtain ⟨a1, a2, a3⟩ := ren_algebra hk
    rw [← hG.out] at a1 a2 a3
    obtain ⟨P, hP⟩ : ∃ P, Hid (P = plcN xs s) := ⟨_, Lib.hid rfl⟩
    have c1 := Lib.hid (fun (v0 : Value) (w : World) (h0 : Items w v0 G) => castI2 (RenameItem_any v0 G t s w h0 hlen.2.1) a2 a1)
    have c2 := Lib.hid (fun (v0 : Value) (w : World) (h0 : Items w v0 G) => castN (PlaceOf_any v0 G t w h0) (a3.trans hP.out.symm))
    have c3 := Lib.hid (fun (v0 : Value) (w : World) (h0 : Items w v0 xs) => castN (PlaceOf_any v0 xs s w h0) hP.out.symm)
    clear a1 a2 a3 hG hK hP hk
    go_wp2_with fail
    refine (c1.out _ _ (H4.items 1 rfl)).mono ?_
    rintro e w5 ⟨v1, rfl, ho, hb⟩
    have H5 := H4.newI ho hb
    clear ho hb H4
    go_wp2_with fail
    refine (equalI_T H5 (H5.items 0 rfl) (H5.arg hxa)).mono ?_
    rintro e w6 ⟨rfl, H6⟩
    clear H5
    go_wp2_with fail
    refine (c2.out _ _ (H6.items 2 rfl)).mono ?_
    rintro e w7 ⟨rfl, hb⟩
    have H7 := H6.quiet hb
    clear hb H6
    go_wp2_with fail
    refine (c3.out _ _ (H7.arg hxa)).mono ?_
    rintro e w8 ⟨rfl, hb⟩
    have H8 := H7.quiet hb
    clear hb H7
    go_wp2
    go_ret
    exact ⟨rfl, hb1.trans (H8.below.mono hb1.size)⟩

set_option maxRecDepth 100000 in
theorem FnRenameItem_lifted (os : Os) (started : os.Started) (H : Type) (enc : TypeId × Value → H) :
    ReturnsInHanded {} Try.checked os 6 .any (Rows.fnRenameItemSpec.pre6 enc Try.prog Try.f6 Rows.fnRenameItemRow.domain false) (Rows.fnRenameItemSpec.post enc Try.prog Try.f6 false true false false) := by
  refine returnsInHanded_of_change (C := Try.checked) own started (by kernel_rfl) Try.func6
    (ChangeSpec.witness6 (enc := enc) (C := Try.checked) false ⟨#[], #[.slice none 0 0], []⟩ 8 (by kernel_rfl) (by kernel_rfl) (by kernel_rfl) (by kernel_rfl)) ?_
  intro W base args ds gs before hval0 hW _ _
  have hval : ∀ (j : Nat) t v, Try.f6.params[j]? = some t → args[j]? = some v → Value.okWide Try.prog W .any base t v := hval0
  have hW' := hW
  obtain ⟨p, q, hA0, hV, rfl, _, _⟩ := hW
  have hA : DataW.TrodAll enc Try.prog W 0 (fun _ => true) true Try.f6.params.toList args.toList ds p := hA0
  rw [Try.params6] at hA hval
  obtain ⟨v0, vs0, d0, ds0, p0, q0, hargs, rfl, rfl, h0, r0⟩ := trodAll_cons hA
  obtain ⟨rfl, rfl, rfl⟩ := trodAll_nil r0
  obtain rfl : args = #[v0] := by cases args; simp_all
  obtain ⟨rfl, rfl⟩ := trodVars_none hV
  obtain ⟨xs0, hI0⟩ := open_bytes (hval 0 _ v0 rfl rfl) h0
  refine (FnRenameItem_walk v0 xs0 W hI0).mono fun e W' ⟨he, hb⟩ => ⟨_, he, ?_⟩
  exact law_end rfl (by rw [Try.params6]; decide +kernel) rfl hW' rfl rfl rfl hb

theorem FnRenameItem_facts : joinedFacts Try.prog 6 Try.f6 Rows.fnRenameItemSpec Rows.fnRenameItemRow = true :=
  facts_of (by kernel_rfl) q2 q3 (by kernel_rfl) (by kernel_rfl) (by kernel_rfl) q7 (by kernel_rfl) q9 (by kernel_rfl) (by kernel_rfl) (by kernel_rfl) (by kernel_rfl) (by kernel_rfl) (by kernel_rfl) (by kernel_rfl) (by kernel_rfl) (by kernel_rfl) (by kernel_rfl) (by kernel_rfl) (by kernel_rfl) (by kernel_rfl)
    (by rw [q22]; kernel_rfl) (by kernel_rfl) q23 head_enter (by kernel_rfl) head_lifts head_make (by kernel_rfl) (by kernel_rfl) (by kernel_rfl) (by kernel_rfl) (by kernel_rfl)

theorem FnRenameItem_holds : Rows.FnRenameItemSaid :=
  OpenClaim.holds_of_wide 6 Try.f6 rfl rfl rfl rfl rfl rfl rfl ⟨rfl, rfl, rfl, rfl, rfl⟩ rfl rfl rfl rfl rfl (by kernel_rfl) Try.func6 FnRenameItem_facts
    (of_decide_eq_true (by kernel_rfl)) (by unfold Func.isWrapper; first | (rw [if_pos (by decide +kernel)]; kernel_rfl) | (rw [if_neg (by decide +kernel)]; exact ⟨rfl, rfl⟩))
    (fun os started H enc _ => FnRenameItem_lifted os started H enc)
end Go.Proofs.Ytfjgmnlbchcabaa
