/-
  FnMeetItems: true, for every code.
-/
import Derived.Test.YtkaiekegbkoecaaP4
import Derived.Test.YtkaiekegbkoecaaP6
import Derived.Test.YtkaiekegbkoecaaP10
import Derived.Test.YtkaiekegbkoecaaP12
import Derived.Test.YtkaiekegbkoecaaP21
import Derived.Test.YtkaiekegbkoecaaP23
import Derived.Test.YtkaiekegbkoecaaP24
namespace Go.Proofs.Ytkaiekegbkoecaa
open Go.RowKit
open Go.ChangeShapes Go.WideShapes Go.ChangeAt Go.Deep

theorem mi_of {a b : List Itm} (ha : validI a = true) (hb : validI b = true) : miL a b = miI a b := by unfold miL; rw [if_pos (okAB_iff.2 ⟨ha, hb⟩)]
theorem mi_mem {a b : List Itm} {x : Itm} : x ∈ miI a b ↔ x ∈ a ∧ x ∈ b := by
  unfold miI
  rw [List.mem_filter, memI_iff]
theorem cof_mem {a : List Itm} (h : validI a = true) {x : Itm} (hx : x ∈ a) : cofN a x.1 = x.2 := by
  unfold cofN
  rw [if_pos h, sumL_one h, cnt_at_mem (valid_uniq h) hx]
theorem mi_valid {a b : List Itm} (ha : validI a = true) : validI (miI a b) = true := by
  have h1 := (validI_iff a).1 ha
  have hs : (miI a b).Sublist a := List.filter_sublist
  refine (validI_iff _).2 ⟨fun x hx => h1.1 x (hs.subset hx), uniq_filter h1.2.1, Nat.le_trans hs.length_le h1.2.2⟩
theorem mi_algebra {a b : List Itm} (ha : validI a = true) (hb : validI b = true) :
    (∀ x ∈ miL a b, cofN a x.1 = x.2 ∧ cofN b x.1 = x.2) ∧ smB (miL b a) (miL a b) = true ∧ miL a a = a := by
  rw [mi_of ha hb, mi_of hb ha, mi_of ha ha]
  refine ⟨fun x hx => ⟨cof_mem ha (mi_mem.1 hx).1, cof_mem hb (mi_mem.1 hx).2⟩, ?_, ?_⟩
  · refine (sm_perm (mi_valid hb) (mi_valid ha)).2 ((List.perm_ext_iff_of_nodup (nodup_items (valid_uniq (mi_valid hb))) (nodup_items (valid_uniq (mi_valid ha)))).2 fun x => ?_)
    rw [mi_mem, mi_mem]
    exact And.comm
  · unfold miI
    exact List.filter_eq_self.2 fun x hx => memI_iff.2 hx

set_option maxHeartbeats 3200000 in
set_option maxRecDepth 100000 in
theorem FnMeetItems_walk (v : Value) (bs : List Int) (w : World) (h : Bytes w v bs) :
    Calls Try.prog 9 #[v] w fun e w' => e = .returned (.bool true) ∧ Below w.heap.size w w' := by
  have h0 := h
  obtain ⟨ao, cap, rfl, hl, hc, hok, hcell⟩ := h0
  clear hcell hok
  go_enter Try.func9, Try.ntmps9
  by_cases hbig : (1048576 : Int) < (bs.length : Int)
  · go_wp2
    go_ret
    exact ⟨rfl, Below.refl _ _⟩
  go_wp2_with fail
  refine (DrawMeetItems_any _ bs w h).mono ?_
  rintro e w1 ⟨va, xs, vb, ys, rfl, hlen, hxa, hxb, hb1⟩
  have H1 := Things.nil w1
  obtain ⟨G, hG⟩ : ∃ G, Hid (G = miL xs ys) := ⟨_, Lib.hid rfl⟩
  have cI := Lib.hid (fun (v0 v1 : Value) (w : World) (h0 : Items w v0 xs) (h1 : Items w v1 ys) => castL (MeetItems_any v0 v1 xs ys w h0 h1) hG.out.symm)
  have cS := Lib.hid (fun (v0 v1 : Value) (w : World) (h0 : Items w v0 xs) (h1 : Items w v1 ys) => castL (sMeetItems_any v0 v1 xs ys w h0 h1) hG.out.symm)
  go_wp2_with fail
  refine (cI.out _ _ _ (H1.arg hxa) (H1.arg hxb)).mono ?_
  rintro e w2 ⟨vo, rfl, ho, hb⟩
  have H2 := H1.newI ho hb
  clear ho hb H1
  go_wp2_with fail
  refine (cS.out _ _ _ (H2.arg hxa) (H2.arg hxb)).mono ?_
  rintro e w3 ⟨vw, rfl, ho, hb⟩
  have H3 := H2.newI ho hb
  clear ho hb H2
  go_wp2_with fail
  refine (equalI_T H3 (H3.items 1 rfl) (H3.items 0 rfl)).mono ?_
  rintro e w4 ⟨rfl, H4⟩
  clear H3
  obtain ⟨V, hV⟩ : ∃ V, Hid (V = validI xs) := ⟨_, Lib.hid rfl⟩
  obtain ⟨U, hU⟩ : ∃ U, Hid (U = validI ys) := ⟨_, Lib.hid rfl⟩
  have cV := Lib.hid (fun (v0 : Value) (w : World) (h0 : Items w v0 xs) => castB (ValidItems_any v0 xs w h0) hV.out.symm)
  have cU := Lib.hid (fun (v0 : Value) (w : World) (h0 : Items w v0 ys) => castB (ValidItems_any v0 ys w h0) hU.out.symm)
  go_wp2_with fail
  refine (cV.out _ _ (H4.arg hxa)).mono ?_
  rintro e w5 ⟨rfl, hb⟩
  have H5 := H4.quiet hb
  clear hb H4
  cases V
  · skip
    go_wp2_with fail
    refine (cS.out _ _ _ (H5.arg hxa) (H5.arg hxb)).mono ?_
    rintro e w6 ⟨vs, rfl, ho, hb⟩
    have H6 := H5.newI ho hb
    clear ho hb H5
    go_wp2_with fail
    refine (equalI_T H6 (H6.items 2 rfl) (H6.items 0 rfl)).mono ?_
    rintro e w7 ⟨rfl, H7⟩
    clear H6
    go_wp2
    go_ret
    exact ⟨rfl, hb1.trans (H7.below.mono hb1.size)⟩
  · have hv := hV.out.symm
    go_wp2_with fail
    refine (cU.out _ _ (H5.arg hxb)).mono ?_
    rintro e w6 ⟨rfl, hb⟩
    have H6 := H5.quiet hb
    clear hb H5
    cases U
    · skip
      go_wp2_with fail
      refine (cS.out _ _ _ (H6.arg hxa) (H6.arg hxb)).mono ?_
      rintro e w7 ⟨vs, rfl, ho, hb⟩
      have H7 := H6.newI ho hb
      clear ho hb H6
      go_wp2_with fail
      refine (equalI_T H7 (H7.items 2 rfl) (H7.items 0 rfl)).mono ?_
      rintro e w8 ⟨rfl, H8⟩
      clear H7
      go_wp2
      go_ret
      exact ⟨rfl, hb1.trans (H8.below.mono hb1.size)⟩
    · have hu := hU.out.symm
      obtain ⟨a1, a2, a3⟩ := mi_algebra hv hu
      obtain ⟨R, hR⟩ : ∃ R, Hid (R = miL ys xs) := ⟨_, Lib.hid rfl⟩
      have HI : Hid (∀ x ∈ G, cofN xs x.1 = x.2 ∧ cofN ys x.1 = x.2) := fun x hx => a1 x (by rw [← hG.out]; exact hx)
      have c1 := Lib.hid (fun (v0 v1 : Value) (w : World) (h0 : Items w v0 ys) (h1 : Items w v1 xs) => castL (MeetItems_any v0 v1 ys xs w h0 h1) hR.out.symm)
      have c2 := Lib.hid (fun (v0 v1 : Value) (w : World) (h0 : Items w v0 R) (h1 : Items w v1 G) => castB (SameItems_any v0 v1 R G w h0 h1) (show smB R G = true by rw [hR.out, hG.out]; exact a2))
      have c3 := Lib.hid (fun (v0 v1 : Value) (w : World) (h0 : Items w v0 xs) (h1 : Items w v1 xs) => castL (MeetItems_any v0 v1 xs xs w h0 h1) a3)
      clear hv hu a1 a2 a3 hG hR hV hU cI cS cV cU
      obtain ⟨ao1, cap1, rfl, hlc1, hcm1, hok1, hcell1⟩ := H6.items 1 rfl
      go_wp2
      go_loopw [6] (fun i wr => ∃ k : Nat, i = .int .i64 k ∧ k ≤ G.length ∧ Below w6.heap.size w6 wr) (fun i _ => G.length - (intOf i).toNat)
      case atStart => exact ⟨0, rfl, Nat.zero_le _, Below.refl _ _⟩
      case round =>
        obtain ⟨k, rfl, hk, hbl⟩ := hrel
        by_cases hlt : k < G.length
        · skip
          obtain ⟨b1, o1, rfl, hbk1, k1, k2⟩ := hcell1 k hlt
          have hs := (hok1 _ (List.getElem_mem hlt)).1
          obtain ⟨p1, p2⟩ := HI.out _ (List.getElem_mem hlt)
          have d1 := fresh_cell ((hbl.cell (p := ⟨b1, _, none⟩) hbk1).trans k1)
          have d2 := fresh_cell ((hbl.cell (p := ⟨b1, _, none⟩) hbk1).trans k2)
          have HX := Lib.hid ((Things.quiet H6 hbl).arg hxa)
          have HY := Lib.hid ((Things.quiet H6 hbl).arg hxb)
          have cA := Lib.hid (fun (v0 : Value) (w : World) (h0 : Items w v0 xs) => castN (CountOf_any v0 xs G[k].1 w h0 hs) p1)
          have cB := Lib.hid (fun (v0 : Value) (w : World) (h0 : Items w v0 ys) => castN (CountOf_any v0 ys G[k].1 w h0 hs) p2)
          have hlt2 : (k : Int) < (G.length : Int) := by omega
          have hnn : (G[k].2 != G[k].2) = false := bne_self_eq_false _
          clear k1 k2 p1 p2
          go_wp2_with fail
          refine region_fresh (by kernel_rfl) (by kernel_rfl) ?_
          repeat (with_reducible refine wpQuiet_step ?_; intro K hK; go_simp; first | (refine hK _ ?_; clear hK K) | (apply Exists.intro; refine ⟨fun _ => ?_, hK _ ?_⟩; (first | (go_at_call 23; with_reducible exact fresh_Q (cA.out _ _ (HX.out.mono (Fresh.is _) (Nat.le_refl _)))) | (go_at_call 23; with_reducible exact fresh_Q (cB.out _ _ (HY.out.mono (Fresh.is _) (Nat.le_refl _))))); clear hK K))
          with_reducible refine wpQuiet_nil ?_
          intro _ hw'
          obtain ⟨⟨wq, hq⟩, hw''⟩ := hw'
          subst hw''
          have hblq := hbl.trans (hq.mono hbl.size)
          go_wp2
          go_roundw
          case rel => exact ⟨k + 1, by go_num, by omega, hblq⟩
          case measure => simp [intOf]; omega
        · obtain rfl : k = G.length := by omega
          have H7 := H6.quiet hbl
          clear H6
          go_wp2_with fail
          refine (c1.out _ _ _ (H7.arg hxb) (H7.arg hxa)).mono ?_
          rintro e w8 ⟨v1, rfl, ho, hb⟩
          have H8 := H7.newI ho hb
          clear ho hb H7
          go_wp2_with fail
          refine (c2.out _ _ _ (H8.items 0 rfl) (H8.items 2 rfl)).mono ?_
          rintro e w9 ⟨rfl, hb⟩
          have H9 := H8.quiet hb
          clear hb H8
          go_wp2_with fail
          refine (c3.out _ _ _ (H9.arg hxa) (H9.arg hxa)).mono ?_
          rintro e w10 ⟨v3, rfl, ho, hb⟩
          have H10 := H9.newI ho hb
          clear ho hb H9
          go_wp2_with fail
          refine (equalI_T H10 (H10.items 0 rfl) (H10.arg hxa)).mono ?_
          rintro e w11 ⟨rfl, H11⟩
          clear H10
          go_wp2
          go_ret
          exact ⟨rfl, hb1.trans (H11.below.mono hb1.size)⟩

set_option maxRecDepth 100000 in
theorem FnMeetItems_lifted (os : Os) (started : os.Started) (H : Type) (enc : TypeId × Value → H) :
    ReturnsInHanded {} Try.checked os 9 .any (Rows.fnMeetItemsSpec.pre6 enc Try.prog Try.f9 Rows.fnMeetItemsRow.domain false) (Rows.fnMeetItemsSpec.post enc Try.prog Try.f9 false true false false) := by
  refine returnsInHanded_of_change (C := Try.checked) own started (by kernel_rfl) Try.func9
    (ChangeSpec.witness6 (enc := enc) (C := Try.checked) false ⟨#[], #[.slice none 0 0], []⟩ 8 (by kernel_rfl) (by kernel_rfl) (by kernel_rfl) (by kernel_rfl)) ?_
  intro W base args ds gs before hval0 hW _ _
  have hval : ∀ (j : Nat) t v, Try.f9.params[j]? = some t → args[j]? = some v → Value.okWide Try.prog W .any base t v := hval0
  have hW' := hW
  obtain ⟨p, q, hA0, hV, rfl, _, _⟩ := hW
  have hA : DataW.TrodAll enc Try.prog W 0 (fun _ => true) true Try.f9.params.toList args.toList ds p := hA0
  rw [Try.params9] at hA hval
  obtain ⟨v0, vs0, d0, ds0, p0, q0, hargs, rfl, rfl, h0, r0⟩ := trodAll_cons hA
  obtain ⟨rfl, rfl, rfl⟩ := trodAll_nil r0
  obtain rfl : args = #[v0] := by cases args; simp_all
  obtain ⟨rfl, rfl⟩ := trodVars_none hV
  obtain ⟨xs0, hI0⟩ := open_bytes (hval 0 _ v0 rfl rfl) h0
  refine (FnMeetItems_walk v0 xs0 W hI0).mono fun e W' ⟨he, hb⟩ => ⟨_, he, ?_⟩
  exact law_end rfl (by rw [Try.params9]; decide +kernel) rfl hW' rfl rfl rfl hb

theorem FnMeetItems_facts : joinedFacts Try.prog 9 Try.f9 Rows.fnMeetItemsSpec Rows.fnMeetItemsRow = true :=
  facts_of (by kernel_rfl) q2 q3 (by kernel_rfl) (by kernel_rfl) (by kernel_rfl) q7 (by kernel_rfl) q9 (by kernel_rfl) (by kernel_rfl) (by kernel_rfl) (by kernel_rfl) (by kernel_rfl) (by kernel_rfl) (by kernel_rfl) (by kernel_rfl) (by kernel_rfl) (by kernel_rfl) (by kernel_rfl) (by kernel_rfl) (by kernel_rfl)
    (by rw [q22]; kernel_rfl) (by kernel_rfl) q23 head_enter (by kernel_rfl) head_lifts head_make (by kernel_rfl) (by kernel_rfl) (by kernel_rfl) (by kernel_rfl) (by kernel_rfl)

theorem FnMeetItems_holds : Rows.FnMeetItemsSaid :=
  OpenClaim.holds_of_wide 9 Try.f9 rfl rfl rfl rfl rfl rfl rfl ⟨rfl, rfl, rfl, rfl, rfl⟩ rfl rfl rfl rfl rfl (by kernel_rfl) Try.func9 FnMeetItems_facts
    (of_decide_eq_true (by kernel_rfl)) (by unfold Func.isWrapper; first | (rw [if_pos (by decide +kernel)]; kernel_rfl) | (rw [if_neg (by decide +kernel)]; exact ⟨rfl, rfl⟩))
    (fun os started H enc _ => FnMeetItems_lifted os started H enc)
end Go.Proofs.Ytkaiekegbkoecaa
