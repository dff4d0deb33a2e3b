/-
  FnMeetKeys: true, for every code.
-/
import Derived.Test.YtfjgmnlbchcabaaP4
import Derived.Test.YtfjgmnlbchcabaaP11
import Derived.Test.YtfjgmnlbchcabaaP21
import Derived.Test.YtfjgmnlbchcabaaP23
import Derived.Test.YtfjgmnlbchcabaaP24
namespace Go.Proofs.Ytfjgmnlbchcabaa
open Go.RowKit
open Go.ChangeShapes Go.WideShapes Go.ChangeAt Go.Deep

set_option maxHeartbeats 3200000 in
set_option maxRecDepth 100000 in
theorem FnMeetKeys_walk (v : Value) (bs : List Int) (w : World) (h : Bytes w v bs) :
    Calls Try.prog 10 #[v] w fun e w' => e = .returned (.bool true) ∧ Below w.heap.size w w' := by
  have h0 := h
  obtain ⟨ao, cap, rfl, hl, hc, hok, hcell⟩ := h0
  clear hcell hok
  go_enter Try.func10, Try.ntmps10
  by_cases hbig : (1048576 : Int) < (bs.length : Int)
  · go_wp2
    go_ret
    exact ⟨rfl, Below.refl _ _⟩
  go_wp2_with fail
  refine (DrawMeetKeys_any _ bs w h).mono ?_
  rintro e w1 ⟨va, xs, vb, ys, rfl, hlen, hxa, hxb, hb1⟩
  have H1 := Things.nil w1
  obtain ⟨G, hG⟩ : ∃ G, Hid (G = mkyL xs ys) := ⟨_, Lib.hid rfl⟩
  have cI := Lib.hid (fun (v0 v1 : Value) (w : World) (h0 : Items w v0 xs) (h1 : Items w v1 ys) => castT (MeetKeys_any v0 v1 xs ys w h0 h1) hG.out.symm)
  have cS := Lib.hid (fun (v0 v1 : Value) (w : World) (h0 : Items w v0 xs) (h1 : Items w v1 ys) => castT (sMeetKeys_any v0 v1 xs ys w h0 h1) hG.out.symm)
  go_wp2_with fail
  refine (cI.out _ _ _ (H1.arg hxa) (H1.arg hxb)).mono ?_
  rintro e w2 ⟨vo, rfl, ho, hb⟩
  have H2 := H1.newT ho hb
  clear ho hb H1
  go_wp2_with fail
  refine (cS.out _ _ _ (H2.arg hxa) (H2.arg hxb)).mono ?_
  rintro e w3 ⟨vw, rfl, ho, hb⟩
  have H3 := H2.newT ho hb
  clear ho hb H2
  go_wp2_with fail
  refine (equalT_T H3 (H3.texts 1 rfl) (H3.texts 0 rfl)).mono ?_
  rintro e w4 ⟨rfl, H4⟩
  clear H3
  obtain ⟨V, hV⟩ : ∃ V, Hid (V = validI xs) := ⟨_, Lib.hid rfl⟩
  obtain ⟨U, hU⟩ : ∃ U, Hid (U = validI ys) := ⟨_, Lib.hid rfl⟩
  have cV := Lib.hid (fun (v0 : Value) (w : World) (h0 : Items w v0 xs) => castB (ValidItems_any v0 xs w h0) hV.out.symm)
  have cU := Lib.hid (fun (v0 : Value) (w : World) (h0 : Items w v0 ys) => castB (ValidItems_any v0 ys w h0) hU.out.symm)
  go_wp2_with fail
  refine (cV.out _ _ (H4.arg hxa)).mono ?_
  rintro e w5 ⟨rfl, hb⟩
  have H5 := H4.quiet hb
  clear hb H4
  cases V
  · skip
    go_wp2_with fail
    refine (cS.out _ _ _ (H5.arg hxa) (H5.arg hxb)).mono ?_
    rintro e w6 ⟨vs, rfl, ho, hb⟩
    have H6 := H5.newT ho hb
    clear ho hb H5
    go_wp2_with fail
    refine (equalT_T H6 (H6.texts 2 rfl) (H6.texts 0 rfl)).mono ?_
    rintro e w7 ⟨rfl, H7⟩
    clear H6
    go_wp2
    go_ret
    exact ⟨rfl, hb1.trans (H7.below.mono hb1.size)⟩
  · have hv := hV.out.symm
    go_wp2_with fail
    refine (cU.out _ _ (H5.arg hxb)).mono ?_
    rintro e w6 ⟨rfl, hb⟩
    have H6 := H5.quiet hb
    clear hb H5
    cases U
    · skip
      go_wp2_with fail
      refine (cS.out _ _ _ (H6.arg hxa) (H6.arg hxb)).mono ?_
      rintro e w7 ⟨vs, rfl, ho, hb⟩
      have H7 := H6.newT ho hb
      clear ho hb H6
      go_wp2_with fail
      refine (equalT_T H7 (H7.texts 2 rfl) (H7.texts 0 rfl)).mono ?_
      rintro e w8 ⟨rfl, H8⟩
      clear H7
      go_wp2
      go_ret
      exact ⟨rfl, hb1.trans (H8.below.mono hb1.size)⟩
    · have hu := hU.out.symm
      obtain ⟨a1, a2, a3, a4⟩ := meet_keys hv hu
      obtain ⟨R, hR⟩ : ∃ R, Hid (R = mkyL ys xs) := ⟨_, Lib.hid rfl⟩
      obtain ⟨P, hP⟩ : ∃ P, Hid (P = apB xs ys) := ⟨_, Lib.hid rfl⟩
      have HI : Hid (∀ s ∈ G, (∃ p : Nat, plcN xs s = (p : Int)) ∧ (∃ q : Nat, plcN ys s = (q : Int)) ∧ memT R s = true) := fun s hs => by rw [hR.out]; exact a1 s (by rw [← hG.out]; exact hs)
      have c1 := Lib.hid (fun (v0 v1 : Value) (w : World) (h0 : Items w v0 ys) (h1 : Items w v1 xs) => castT (MeetKeys_any v0 v1 ys xs w h0 h1) hR.out.symm)
      have c2 := Lib.hid (fun (v0 : Value) (w : World) (h0 : Texts w v0 G) => castB (apart_any v0 G w h0) (show decide G.Nodup = true by rw [hG.out]; exact decide_eq_true a2))
      have c3 := Lib.hid (fun (v0 v1 : Value) (w : World) (h0 : Items w v0 xs) (h1 : Items w v1 ys) => castB (ApartKeys_any v0 v1 xs ys w h0 h1) hP.out.symm)
      have hRG : R.length = G.length := by rw [hR.out, hG.out]; exact a3
      have hPG : P = decide (G.length = 0) := by rw [hP.out, hG.out]; exact a4
      clear hv hu a1 a2 a3 a4 hG hR hP hV hU cI cS cV cU
      go_wp2_with fail
      refine (c1.out _ _ _ (H6.arg hxb) (H6.arg hxa)).mono ?_
      rintro e w7 ⟨v1, rfl, ho, hb⟩
      have H7 := H6.newT ho hb
      clear ho hb H6
      have HR := Lib.hid (H7.texts 0 rfl)
      obtain ⟨ao1, cap1, rfl, hlc1, hcm1, hok1, hcell1⟩ := H7.texts 2 rfl
      go_wp2
      go_loopw [7] (fun i wr => ∃ k : Nat, i = .int .i64 k ∧ k ≤ G.length ∧ Below w7.heap.size w7 wr) (fun i _ => G.length - (intOf i).toNat)
      case atStart => exact ⟨0, rfl, Nat.zero_le _, Below.refl _ _⟩
      case round =>
        obtain ⟨k, rfl, hk, hbl⟩ := hrel
        by_cases hlt : k < G.length
        · skip
          obtain ⟨b1, o1, rfl, hbk1, k1⟩ := hcell1 k hlt
          have c1_ := (hbl.cell (p := ⟨b1, _, none⟩) hbk1).trans k1
          obtain ⟨⟨p, hp⟩, ⟨q, hq⟩, hm⟩ := HI.out _ (List.getElem_mem hlt)
          have cP := Lib.hid (fun (v0 : Value) (w : World) (h0 : Items w v0 xs) => castN (PlaceOf_any v0 xs G[k] w h0) hp)
          have cQ := Lib.hid (fun (v0 : Value) (w : World) (h0 : Items w v0 ys) => castN (PlaceOf_any v0 ys G[k] w h0) hq)
          have cH := Lib.hid (fun (v0 : Value) (w : World) (h0 : Texts w v0 R) => castB (hasText_any v0 R G[k] w h0) hm)
          clear hp hq hm
          go_wp2_with fail
          refine (cP.out _ _ ((Things.quiet H7 hbl).arg hxa)).mono ?_
          rintro e w8 ⟨rfl, hb8⟩
          have hbl8 := hbl.trans (hb8.mono hbl.size)
          have c2_ := (hbl8.cell (p := ⟨b1, _, none⟩) hbk1).trans k1
          clear c1_ cP hb8
          go_wp2_with fail
          refine (cQ.out _ _ ((Things.quiet H7 hbl8).arg hxb)).mono ?_
          rintro e w9 ⟨rfl, hb9⟩
          have hbl9 := hbl8.trans (hb9.mono hbl8.size)
          have c3_ := (hbl9.cell (p := ⟨b1, _, none⟩) hbk1).trans k1
          clear c2_ cQ hb9
          go_wp2_with fail
          refine (cH.out _ _ (HR.out.mono hbl9 (Nat.le_refl _))).mono ?_
          rintro e w10 ⟨rfl, hb10⟩
          have hbl10 := hbl9.trans (hb10.mono hbl9.size)
          clear c3_ cH hb10
          go_wp2
          go_roundw
          case rel => exact ⟨k + 1, by go_num, by omega, hbl10⟩
          case measure => simp [intOf]; omega
        · obtain rfl : k = G.length := by omega
          have H8 := H7.quiet hbl
          clear H7
          go_wp2_with fail
          refine (c2.out _ _ (H8.texts 2 rfl)).mono ?_
          rintro e w9 ⟨rfl, hb⟩
          have H9 := H8.quiet hb
          clear hb H8
          obtain ⟨ao2, cap2, rfl, _, _⟩ := Texts.shape HR.out
          have hRG2 : ((R.length : Int) == (G.length : Int)) = true := by rw [hRG]; exact beq_self_eq_true _
          clear hRG
          by_cases hz : G.length = 0
          · have hz2 : ((G.length : Int) == 0) = true := by rw [hz]; rfl
            obtain rfl : P = true := by rw [hPG]; exact decide_eq_true hz
            clear hz hPG
            go_wp2_with fail
            refine (c3.out _ _ _ (H9.arg hxa) (H9.arg hxb)).mono ?_
            rintro e w10 ⟨rfl, hb⟩
            have H10 := H9.quiet hb
            clear hb H9
            go_wp2
            go_ret
            exact ⟨rfl, hb1.trans (H10.below.mono hb1.size)⟩
          · have hz2 : ((G.length : Int) == 0) = false := by rw [beq_eq_false_iff_ne]; omega
            obtain rfl : P = false := by rw [hPG]; exact decide_eq_false hz
            clear hz hPG
            go_wp2_with fail
            refine (c3.out _ _ _ (H9.arg hxa) (H9.arg hxb)).mono ?_
            rintro e w10 ⟨rfl, hb⟩
            have H10 := H9.quiet hb
            clear hb H9
            go_wp2
            go_ret
            exact ⟨rfl, hb1.trans (H10.below.mono hb1.size)⟩

set_option maxRecDepth 100000 in
theorem FnMeetKeys_lifted (os : Os) (started : os.Started) (H : Type) (enc : TypeId × Value → H) :
    ReturnsInHanded {} Try.checked os 10 .any (Rows.fnMeetKeysSpec.pre6 enc Try.prog Try.f10 Rows.fnMeetKeysRow.domain false) (Rows.fnMeetKeysSpec.post enc Try.prog Try.f10 false true false false) := by
  refine returnsInHanded_of_change (C := Try.checked) own started (by kernel_rfl) Try.func10
    (ChangeSpec.witness6 (enc := enc) (C := Try.checked) false ⟨#[], #[.slice none 0 0], []⟩ 8 (by kernel_rfl) (by kernel_rfl) (by kernel_rfl) (by kernel_rfl)) ?_
  intro W base args ds gs before hval0 hW _ _
  have hval : ∀ (j : Nat) t v, Try.f10.params[j]? = some t → args[j]? = some v → Value.okWide Try.prog W .any base t v := hval0
  have hW' := hW
  obtain ⟨p, q, hA0, hV, rfl, _, _⟩ := hW
  have hA : DataW.TrodAll enc Try.prog W 0 (fun _ => true) true Try.f10.params.toList args.toList ds p := hA0
  rw [Try.params10] at hA hval
  obtain ⟨v0, vs0, d0, ds0, p0, q0, hargs, rfl, rfl, h0, r0⟩ := trodAll_cons hA
  obtain ⟨rfl, rfl, rfl⟩ := trodAll_nil r0
  obtain rfl : args = #[v0] := by cases args; simp_all
  obtain ⟨rfl, rfl⟩ := trodVars_none hV
  obtain ⟨xs0, hI0⟩ := open_bytes (hval 0 _ v0 rfl rfl) h0
  refine (FnMeetKeys_walk v0 xs0 W hI0).mono fun e W' ⟨he, hb⟩ => ⟨_, he, ?_⟩
  exact law_end rfl (by rw [Try.params10]; decide +kernel) rfl hW' rfl rfl rfl hb

theorem FnMeetKeys_facts : joinedFacts Try.prog 10 Try.f10 Rows.fnMeetKeysSpec Rows.fnMeetKeysRow = true :=
  facts_of (by kernel_rfl) q2 q3 (by kernel_rfl) (by kernel_rfl) (by kernel_rfl) q7 (by kernel_rfl) q9 (by kernel_rfl) (by kernel_rfl) (by kernel_rfl) (by kernel_rfl) (by kernel_rfl) (by kernel_rfl) (by kernel_rfl) (by kernel_rfl) (by kernel_rfl) (by kernel_rfl) (by kernel_rfl) (by kernel_rfl) (by kernel_rfl)
    (by rw [q22]; kernel_rfl) (by kernel_rfl) q23 head_enter (by kernel_rfl) head_lifts head_make (by kernel_rfl) (by kernel_rfl) (by kernel_rfl) (by kernel_rfl) (by kernel_rfl)

theorem FnMeetKeys_holds : Rows.FnMeetKeysSaid :=
  OpenClaim.holds_of_wide 10 Try.f10 rfl rfl rfl rfl rfl rfl rfl ⟨rfl, rfl, rfl, rfl, rfl⟩ rfl rfl rfl rfl rfl (by kernel_rfl) Try.func10 FnMeetKeys_facts
    (of_decide_eq_true (by kernel_rfl)) (by unfold Func.isWrapper; first | (rw [if_pos (by decide +kernel)]; kernel_rfl) | (rw [if_neg (by decide +kernel)]; exact ⟨rfl, rfl⟩))
    (fun os started H enc _ => FnMeetKeys_lifted os started H enc)
end Go.Proofs.Ytfjgmnlbchcabaa
