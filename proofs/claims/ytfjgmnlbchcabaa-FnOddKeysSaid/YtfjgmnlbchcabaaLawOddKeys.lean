/-
  FnOddKeys: true, for every code.
-/
import Derived.Deep.RegionHeld3
import Derived.Test.YtfjgmnlbchcabaaP4
import Derived.Test.YtfjgmnlbchcabaaP11
import Derived.Test.YtfjgmnlbchcabaaP21
import Derived.Test.YtfjgmnlbchcabaaP23
import Derived.Test.YtfjgmnlbchcabaaP24
namespace Go.Proofs.Ytfjgmnlbchcabaa
open Go.RowKit
open Go.ChangeShapes Go.WideShapes Go.ChangeAt Go.Deep

set_option maxHeartbeats 3200000 in
set_option maxRecDepth 100000 in
theorem FnOddKeys_walk (v : Value) (bs : List Int) (w : World) (h : Bytes w v bs) :
    Calls Try.prog 13 #[v] w fun e w' => e = .returned (.bool true) ∧ Below w.heap.size w w' := by
  have h0 := h
  obtain ⟨ao, cap, rfl, hl, hc, hok, hcell⟩ := h0
  clear hcell hok
  go_enter Try.func13, Try.ntmps13
  by_cases hbig : (1048576 : Int) < (bs.length : Int)
  · go_wp2
    go_ret
    exact ⟨rfl, Below.refl _ _⟩
  go_wp2_with fail
  refine (DrawOddKeys_any _ bs w h).mono ?_
  rintro e w1 ⟨va, xs, vb, ys, rfl, hlen, hxa, hxb, hb1⟩
  have H1 := Things.nil w1
  obtain ⟨G, hG⟩ : ∃ G, Hid (G = okL xs ys) := ⟨_, Lib.hid rfl⟩
  have cI := Lib.hid (fun (v0 v1 : Value) (w : World) (h0 : Items w v0 xs) (h1 : Items w v1 ys) => castT (OddKeys_any v0 v1 xs ys w h0 h1) hG.out.symm)
  have cS := Lib.hid (fun (v0 v1 : Value) (w : World) (h0 : Items w v0 xs) (h1 : Items w v1 ys) => castT (sOddKeys_any v0 v1 xs ys w h0 h1) hG.out.symm)
  go_wp2_with fail
  refine (cI.out _ _ _ (H1.arg hxa) (H1.arg hxb)).mono ?_
  rintro e w2 ⟨vo, rfl, ho, hb⟩
  have H2 := H1.newT ho hb
  clear ho hb H1
  go_wp2_with fail
  refine (cS.out _ _ _ (H2.arg hxa) (H2.arg hxb)).mono ?_
  rintro e w3 ⟨vw, rfl, ho, hb⟩
  have H3 := H2.newT ho hb
  clear ho hb H2
  go_wp2_with fail
  refine (equalT_T H3 (H3.texts 1 rfl) (H3.texts 0 rfl)).mono ?_
  rintro e w4 ⟨rfl, H4⟩
  clear H3
  obtain ⟨V, hV⟩ : ∃ V, Hid (V = validI xs) := ⟨_, Lib.hid rfl⟩
  obtain ⟨U, hU⟩ : ∃ U, Hid (U = validI ys) := ⟨_, Lib.hid rfl⟩
  have cV := Lib.hid (fun (v0 : Value) (w : World) (h0 : Items w v0 xs) => castB (ValidItems_any v0 xs w h0) hV.out.symm)
  have cU := Lib.hid (fun (v0 : Value) (w : World) (h0 : Items w v0 ys) => castB (ValidItems_any v0 ys w h0) hU.out.symm)
  go_wp2_with fail
  refine (cV.out _ _ (H4.arg hxa)).mono ?_
  rintro e w5 ⟨rfl, hb⟩
  have H5 := H4.quiet hb
  clear hb H4
  cases V
  · skip
    go_wp2_with fail
    refine (cS.out _ _ _ (H5.arg hxa) (H5.arg hxb)).mono ?_
    rintro e w6 ⟨vs, rfl, ho, hb⟩
    have H6 := H5.newT ho hb
    clear ho hb H5
    go_wp2_with fail
    refine (equalT_T H6 (H6.texts 2 rfl) (H6.texts 0 rfl)).mono ?_
    rintro e w7 ⟨rfl, H7⟩
    clear H6
    go_wp2
    go_ret
    exact ⟨rfl, hb1.trans (H7.below.mono hb1.size)⟩
  · have hv := hV.out.symm
    go_wp2_with fail
    refine (cU.out _ _ (H5.arg hxb)).mono ?_
    rintro e w6 ⟨rfl, hb⟩
    have H6 := H5.quiet hb
    clear hb H5
    cases U
    · skip
      go_wp2_with fail
      refine (cS.out _ _ _ (H6.arg hxa) (H6.arg hxb)).mono ?_
      rintro e w7 ⟨vs, rfl, ho, hb⟩
      have H7 := H6.newT ho hb
      clear ho hb H6
      go_wp2_with fail
      refine (equalT_T H7 (H7.texts 2 rfl) (H7.texts 0 rfl)).mono ?_
      rintro e w8 ⟨rfl, H8⟩
      clear H7
      go_wp2
      go_ret
      exact ⟨rfl, hb1.trans (H8.below.mono hb1.size)⟩
    · have hu := hU.out.symm
      obtain ⟨a1, a2, a3⟩ := odd_keys hv hu
      obtain ⟨R, hR⟩ : ∃ R, Hid (R = mkyL xs ys) := ⟨_, Lib.hid rfl⟩
      obtain ⟨J, hJ⟩ : ∃ J, Hid (J = jkL xs ys) := ⟨_, Lib.hid rfl⟩
      have HI : Hid (∀ s ∈ J, memT G s = !memT R s) := fun s hs => by rw [hR.out, hG.out]; exact a1 s (by rw [← hJ.out]; exact hs)
      have c0 := Lib.hid (fun (v0 v1 : Value) (w : World) (h0 : Items w v0 xs) (h1 : Items w v1 ys) => castT (JoinKeys_any v0 v1 xs ys w h0 h1) hJ.out.symm)
      have c1 := Lib.hid (fun (v0 v1 : Value) (w : World) (h0 : Items w v0 xs) (h1 : Items w v1 ys) => castT (MeetKeys_any v0 v1 xs ys w h0 h1) hR.out.symm)
      have c2 := Lib.hid (fun (v0 : Value) (w : World) (h0 : Texts w v0 G) => castB (apart_any v0 G w h0) (show decide G.Nodup = true by rw [hG.out]; exact decide_eq_true a3))
      have hJl : J.length ≤ 10000000 := by rw [hJ.out]; exact jk_le xs ys
      have hRG : G.length + R.length = J.length := by rw [hR.out, hG.out, hJ.out]; exact a2
      clear hv hu a1 a2 a3 hG hR hJ hV hU cI cS cV cU
      go_wp2_with fail
      refine (c0.out _ _ _ (H6.arg hxa) (H6.arg hxb)).mono ?_
      rintro e w7 ⟨v0, rfl, ho, hb⟩
      have H7 := H6.newT ho hb
      clear ho hb H6
      go_wp2_with fail
      refine (c1.out _ _ _ (H7.arg hxa) (H7.arg hxb)).mono ?_
      rintro e w8 ⟨v1, rfl, ho, hb⟩
      have H8 := H7.newT ho hb
      clear ho hb H7
      have HR := Lib.hid (H8.texts 0 rfl)
      have HO := Lib.hid (H8.texts 3 rfl)
      obtain ⟨ao1, cap1, rfl, hlc1, hcm1, hok1, hcell1⟩ := H8.texts 1 rfl
      go_wp2
      go_loopw [8] (fun i wr => ∃ k : Nat, i = .int .i64 k ∧ k ≤ J.length ∧ Below w8.heap.size w8 wr) (fun i _ => J.length - (intOf i).toNat)
      case atStart => exact ⟨0, rfl, Nat.zero_le _, Below.refl _ _⟩
      case round =>
        obtain ⟨k, rfl, hk, hbl⟩ := hrel
        by_cases hlt : k < J.length
        · skip
          obtain ⟨b1, o1, rfl, hbk1, k1⟩ := hcell1 k hlt
          have hbd := hbl.drew
          have h1d := (hbd.cell (p := ⟨b1, _, none⟩) hbk1).trans k1
          have hlt2 : (k : Int) < (J.length : Int) := by omega
          obtain ⟨A, hA⟩ : ∃ A, Hid (A = memT R J[k]) := ⟨_, Lib.hid rfl⟩
          have hm := HI.out _ (List.getElem_mem hlt)
          rw [← hA.out] at hm
          have cA := Lib.hid (fun (v0 : Value) (w : World) (h0 : Texts w v0 G) => castB (hasText_any v0 G J[k] w h0) hm)
          have cB := Lib.hid (fun (v0 : Value) (w : World) (h0 : Texts w v0 R) => castB (hasText_any v0 R J[k] w h0) hA.out.symm)
          clear hm hA
          go_wp2_with fail
          go_region_held3 (fun w' : World => w'.cell? ⟨b1, o1 + k, none⟩ = some (.string J[k]))
            (first | exact h1d | assumption | exact hS5 | exact hS6)
            (first
              | (go_at_call 42; (with_reducible refine (cA.out _ _ (HO.out.mono hbd (Nat.le_refl _))).mono ?_); rintro e w5 ⟨rfl, hb5⟩; have hbl5 := hbd.trans (hb5.mono hbd.size); have hS5 := (hbl5.cell (p := ⟨b1, _, none⟩) hbk1).trans k1; clear cA)
              | (go_at_call 42; (with_reducible refine (cB.out _ _ (HR.out.mono hbl5 (Nat.le_refl _))).mono ?_); rintro e w6 ⟨rfl, hb6⟩; have hbl6 := hbl5.trans (hb6.mono hbl5.size); have hS6 := (hbl6.cell (p := ⟨b1, _, none⟩) hbk1).trans k1))
          cases A
          · skip
            go_wp2
            go_roundw
            case rel => exact ⟨k + 1, by go_num, by omega, hbl6⟩
            case measure => simp [intOf]; omega
          · skip
            go_wp2
            go_roundw
            case rel => exact ⟨k + 1, by go_num, by omega, hbl6⟩
            case measure => simp [intOf]; omega
        · obtain rfl : k = J.length := by omega
          have H9 := H8.quiet hbl
          clear H8
          obtain ⟨ao2, cap2, rfl, _, _⟩ := Texts.shape HR.out
          obtain ⟨ao3, cap3, rfl, _, _⟩ := Texts.shape HO.out
          have hwr : IntKind.i64.wrap ((G.length : Int) + (R.length : Int)) = (J.length : Int) := by rw [IntWalk.i64_in _ (by omega)]; omega
          clear hRG
          go_wp2_with fail
          refine (c2.out _ _ (H9.texts 3 rfl)).mono ?_
          rintro e w10 ⟨rfl, hb⟩
          have H10 := H9.quiet hb
          clear hb H9
          go_wp2
          go_ret
          exact ⟨rfl, hb1.trans (H10.below.mono hb1.size)⟩

set_option maxRecDepth 100000 in
theorem FnOddKeys_lifted (os : Os) (started : os.Started) (H : Type) (enc : TypeId × Value → H) :
    ReturnsInHanded {} Try.checked os 13 .any (Rows.fnOddKeysSpec.pre6 enc Try.prog Try.f13 Rows.fnOddKeysRow.domain false) (Rows.fnOddKeysSpec.post enc Try.prog Try.f13 false true false false) := by
  refine returnsInHanded_of_change (C := Try.checked) own started (by kernel_rfl) Try.func13
    (ChangeSpec.witness6 (enc := enc) (C := Try.checked) false ⟨#[], #[.slice none 0 0], []⟩ 8 (by kernel_rfl) (by kernel_rfl) (by kernel_rfl) (by kernel_rfl)) ?_
  intro W base args ds gs before hval0 hW _ _
  have hval : ∀ (j : Nat) t v, Try.f13.params[j]? = some t → args[j]? = some v → Value.okWide Try.prog W .any base t v := hval0
  have hW' := hW
  obtain ⟨p, q, hA0, hV, rfl, _, _⟩ := hW
  have hA : DataW.TrodAll enc Try.prog W 0 (fun _ => true) true Try.f13.params.toList args.toList ds p := hA0
  rw [Try.params13] at hA hval
  obtain ⟨v0, vs0, d0, ds0, p0, q0, hargs, rfl, rfl, h0, r0⟩ := trodAll_cons hA
  obtain ⟨rfl, rfl, rfl⟩ := trodAll_nil r0
  obtain rfl : args = #[v0] := by cases args; simp_all
  obtain ⟨rfl, rfl⟩ := trodVars_none hV
  obtain ⟨xs0, hI0⟩ := open_bytes (hval 0 _ v0 rfl rfl) h0
  refine (FnOddKeys_walk v0 xs0 W hI0).mono fun e W' ⟨he, hb⟩ => ⟨_, he, ?_⟩
  exact law_end rfl (by rw [Try.params13]; decide +kernel) rfl hW' rfl rfl rfl hb

theorem FnOddKeys_facts : joinedFacts Try.prog 13 Try.f13 Rows.fnOddKeysSpec Rows.fnOddKeysRow = true :=
  facts_of (by kernel_rfl) q2 q3 (by kernel_rfl) (by kernel_rfl) (by kernel_rfl) q7 (by kernel_rfl) q9 (by kernel_rfl) (by kernel_rfl) (by kernel_rfl) (by kernel_rfl) (by kernel_rfl) (by kernel_rfl) (by kernel_rfl) (by kernel_rfl) (by kernel_rfl) (by kernel_rfl) (by kernel_rfl) (by kernel_rfl) (by kernel_rfl)
    (by rw [q22]; kernel_rfl) (by kernel_rfl) q23 head_enter (by kernel_rfl) head_lifts head_make (by kernel_rfl) (by kernel_rfl) (by kernel_rfl) (by kernel_rfl) (by kernel_rfl)

theorem FnOddKeys_holds : Rows.FnOddKeysSaid :=
  OpenClaim.holds_of_wide 13 Try.f13 rfl rfl rfl rfl rfl rfl rfl ⟨rfl, rfl, rfl, rfl, rfl⟩ rfl rfl rfl rfl rfl (by kernel_rfl) Try.func13 FnOddKeys_facts
    (of_decide_eq_true (by kernel_rfl)) (by unfold Func.isWrapper; first | (rw [if_pos (by decide +kernel)]; kernel_rfl) | (rw [if_neg (by decide +kernel)]; exact ⟨rfl, rfl⟩))
    (fun os started H enc _ => FnOddKeys_lifted os started H enc)
end Go.Proofs.Ytfjgmnlbchcabaa
