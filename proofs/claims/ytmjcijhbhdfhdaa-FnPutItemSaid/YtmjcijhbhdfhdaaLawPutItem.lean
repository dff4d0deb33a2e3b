/-
  FnPutItem: true, for every code.
-/
import Derived.Test.YtmjcijhbhdfhdaaP4
import Derived.Test.YtmjcijhbhdfhdaaP11
import Derived.Test.YtmjcijhbhdfhdaaP13
import Derived.Test.YtmjcijhbhdfhdaaP16
import Derived.Test.YtmjcijhbhdfhdaaP18
namespace Go.Proofs.Ytmjcijhbhdfhdaa
open Go.RowKit
open Go.ChangeShapes Go.WideShapes Go.ChangeAt Go.Deep

set_option maxHeartbeats 3200000 in
set_option maxRecDepth 100000 in
theorem FnPutItem_walk (v : Value) (bs : List Int) (w : World) (h : Bytes w v bs) :
    Calls Try.prog 9 #[v] w fun e w' => e = .returned (.bool true) ∧ Below w.heap.size w w' := by
  have h0 := h
  obtain ⟨ao, cap, rfl, hl, hc, hok, hcell⟩ := h0
  clear hcell hok
  go_enter Try.func9, Try.ntmps9
  by_cases hbig : (1048576 : Int) < (bs.length : Int)
  · go_wp2
    go_ret
    exact ⟨rfl, Below.refl _ _⟩
  go_wp2_with fail
  refine (DrawPutItem_any _ bs w h).mono ?_
  rintro e w1 ⟨va, xs, s, n, rfl, hlen, hxa, hb1⟩
  have H1 := Things.nil w1
  obtain ⟨G, hG⟩ : ∃ G, Hid (G = putL xs s n) := ⟨_, Lib.hid rfl⟩
  obtain ⟨K, hK⟩ : ∃ K, Hid (K = okP xs s n) := ⟨_, Lib.hid rfl⟩
  have cI := Lib.hid (fun (v0 : Value) (w : World) (h0 : Items w v0 xs) => castI2 (PutItem_any v0 xs s n w h0 hlen.2.1 (by omega)) hG.out.symm hK.out.symm)
  have cS := Lib.hid (fun (v0 : Value) (w : World) (h0 : Items w v0 xs) => castI2 (sPutItem_any v0 xs s n w h0 hlen.2.1 (by omega)) hG.out.symm hK.out.symm)
  go_wp2_with fail
  refine (cI.out _ _ (H1.arg hxa)).mono ?_
  rintro e w2 ⟨vo, rfl, ho, hb⟩
  have H2 := H1.newI ho hb
  clear ho hb H1
  go_wp2_with fail
  refine (cS.out _ _ (H2.arg hxa)).mono ?_
  rintro e w3 ⟨vw, rfl, ho, hb⟩
  have H3 := H2.newI ho hb
  clear ho hb H2
  clear cI cS
  go_wp2_with fail
  refine (equalI_T H3 (H3.items 1 rfl) (H3.items 0 rfl)).mono ?_
  rintro e w4 ⟨rfl, H4⟩
  clear H3
  cases K
  · skip
    go_wp2_with fail
    refine (equalI_T H4 (H4.items 1 rfl) (H4.items 0 rfl)).mono ?_
    rintro e w5 ⟨rfl, H5⟩
    clear H4
    go_wp2
    go_ret
    exact ⟨rfl, hb1.trans (H5.below.mono hb1.size)⟩
  · have hk := hK.out.symm
    have al := put_algebra hk
    have HI : Hid (∀ i (hi : i < xs.length), ∃ hi' : i < G.length, G[i].1 = xs[i].1 ∧ (xs[i].1 = s ∨ G[i].2 = xs[i].2)) := fun i hi => by rw [hG.out]; exact put_item hk hi
    have c1 := Lib.hid (fun (v0 : Value) (w : World) (h0 : Items w v0 G) => castNB (GetItem_any v0 G s w h0) (show getN G s = n by rw [hG.out]; exact al.2.1) (show okG G s = true by rw [hG.out]; exact al.1))
    have c2 := Lib.hid (fun (v0 : Value) (w : World) (h0 : Items w v0 G) => castI2 (PutItem_any v0 G s n w h0 hlen.2.1 (by omega)) (show putL G s n = G by rw [hG.out]; exact al.2.2.2.1) (show okP G s n = true by rw [hG.out]; exact al.2.2.1))
    have hGl : G.length ≤ xs.length + 1 := by rw [hG.out]; exact al.2.2.2.2
    clear al hG hK hk
    go_wp2_with fail
    refine (c1.out _ _ (H4.items 1 rfl)).mono ?_
    rintro e w5 ⟨rfl, hb⟩
    have H5 := H4.quiet hb
    clear hb H4
    have hself := fun t : ByteArray => (beq_self_eq_true t.toList)
    have hg1 := item_neq
    have hg2 := item_guard
    obtain ⟨ao1, cap1, rfl, hlc1, hcm1, hok1, hcell1⟩ := H5.items 1 rfl
    obtain ⟨ao2, cap2, rfl, hlc2, hcm2, hok2, hcell2⟩ := H5.arg hxa
    go_wp2
    go_loopw [12] (fun i wr => ∃ k : Nat, i = .int .i64 k ∧ k ≤ xs.length ∧ Below w5.heap.size w5 wr) (fun i _ => xs.length - (intOf i).toNat)
    case atStart => exact ⟨0, rfl, Nat.zero_le _, Below.refl _ _⟩
    case round =>
      obtain ⟨k, rfl, hk, hbl⟩ := hrel
      by_cases hlt : k < xs.length
      · skip
        obtain ⟨hi, e1, e2⟩ := HI.out k hlt
        obtain ⟨b1, o1, rfl, hbk1, k1, k2⟩ := hcell1 k hi
        obtain ⟨b2, o2, rfl, hbk2, k3, k4⟩ := hcell2 k hlt
        have d1 := (hbl.cell (p := ⟨b1, _, none⟩) hbk1).trans k1
        have d2 := (hbl.cell (p := ⟨b1, _, none⟩) hbk1).trans k2
        have d3 := (hbl.cell (p := ⟨b2, _, none⟩) hbk2).trans k3
        have d4 := (hbl.cell (p := ⟨b2, _, none⟩) hbk2).trans k4
        have hi2 : (k : Int) < (G.length : Int) := by omega
        have hi3 : (k : Int) < (xs.length : Int) := by omega
        rw [e1] at d1
        clear k1 k2 k3 k4 e1
        generalize xs[k].1 = t at d1 d3 e2
        have hst := hself t
        by_cases hts : t = s
        · have hbq : (t.toList == s.toList) = true := by rw [hts]; exact hself s
          clear e2 hts hself
          go_wp2_with fail
          go_quiet (fail)
          go_wp2
          go_roundw
          case rel => exact ⟨k + 1, by go_num, by omega, (below_drewN hbl _)⟩
          case measure => simp [intOf]; omega
        · have hbq : (t.toList == s.toList) = false := by rw [beq_keys]; exact decide_eq_false hts
          have e3 := e2.resolve_left hts
          rw [e3] at d2
          clear e2 e3 hts hself
          go_wp2_with fail
          go_quiet (fail)
          go_wp2
          go_roundw
          case rel => exact ⟨k + 1, by go_num, by omega, (below_drewN hbl _)⟩
          case measure => simp [intOf]; omega
      · obtain rfl : k = xs.length := by omega
        have H6 := H5.quiet hbl
        clear H5
        have hGl2 : (G.length : Int) ≤ (xs.length : Int) + 1 := by omega
        go_wp2_with fail
        refine (c2.out _ _ (H6.items 1 rfl)).mono ?_
        rintro e w7 ⟨v2, rfl, ho, hb⟩
        have H7 := H6.newI ho hb
        clear ho hb H6
        go_wp2_with fail
        refine (equalI_T H7 (H7.items 0 rfl) (H7.items 2 rfl)).mono ?_
        rintro e w8 ⟨rfl, H8⟩
        clear H7
        go_wp2
        go_ret
        exact ⟨rfl, hb1.trans (H8.below.mono hb1.size)⟩

set_option maxRecDepth 100000 in
theorem FnPutItem_lifted (os : Os) (started : os.Started) (H : Type) (enc : TypeId × Value → H) :
    ReturnsInHanded {} Try.checked os 9 .any (Rows.fnPutItemSpec.pre6 enc Try.prog Try.f9 Rows.fnPutItemRow.domain false) (Rows.fnPutItemSpec.post enc Try.prog Try.f9 false true false false) := by
  refine returnsInHanded_of_change (C := Try.checked) own started (by kernel_rfl) Try.func9
    (ChangeSpec.witness6 (enc := enc) (C := Try.checked) false ⟨#[], #[.slice none 0 0], []⟩ 8 (by kernel_rfl) (by kernel_rfl) (by kernel_rfl) (by kernel_rfl)) ?_
  intro W base args ds gs before hval0 hW _ _
  have hval : ∀ (j : Nat) t v, Try.f9.params[j]? = some t → args[j]? = some v → Value.okWide Try.prog W .any base t v := hval0
  have hW' := hW
  obtain ⟨p, q, hA0, hV, rfl, _, _⟩ := hW
  have hA : DataW.TrodAll enc Try.prog W 0 (fun _ => true) true Try.f9.params.toList args.toList ds p := hA0
  rw [Try.params9] at hA hval
  obtain ⟨v0, vs0, d0, ds0, p0, q0, hargs, rfl, rfl, h0, r0⟩ := trodAll_cons hA
  obtain ⟨rfl, rfl, rfl⟩ := trodAll_nil r0
  obtain rfl : args = #[v0] := by cases args; simp_all
  obtain ⟨rfl, rfl⟩ := trodVars_none hV
  obtain ⟨xs0, hI0⟩ := open_bytes (hval 0 _ v0 rfl rfl) h0
  refine (FnPutItem_walk v0 xs0 W hI0).mono fun e W' ⟨he, hb⟩ => ⟨_, he, ?_⟩
  exact law_end rfl (by rw [Try.params9]; decide +kernel) rfl hW' rfl rfl rfl hb

theorem FnPutItem_facts : joinedFacts Try.prog 9 Try.f9 Rows.fnPutItemSpec Rows.fnPutItemRow = true :=
  facts_of (by kernel_rfl) q2 q3 (by kernel_rfl) (by kernel_rfl) (by kernel_rfl) q7 (by kernel_rfl) q9 (by kernel_rfl) (by kernel_rfl) (by kernel_rfl) (by kernel_rfl) (by kernel_rfl) (by kernel_rfl) (by kernel_rfl) (by kernel_rfl) (by kernel_rfl) (by kernel_rfl) (by kernel_rfl) (by kernel_rfl) (by kernel_rfl)
    (by rw [q22]; kernel_rfl) (by kernel_rfl) q23 head_enter (by kernel_rfl) head_lifts head_make (by kernel_rfl) (by kernel_rfl) (by kernel_rfl) (by kernel_rfl) (by kernel_rfl)

theorem FnPutItem_holds : Rows.FnPutItemSaid :=
  OpenClaim.holds_of_wide 9 Try.f9 rfl rfl rfl rfl rfl rfl rfl ⟨rfl, rfl, rfl, rfl, rfl⟩ rfl rfl rfl rfl rfl (by kernel_rfl) Try.func9 FnPutItem_facts
    (of_decide_eq_true (by kernel_rfl)) (by unfold Func.isWrapper; first | (rw [if_pos (by decide +kernel)]; kernel_rfl) | (rw [if_neg (by decide +kernel)]; exact ⟨rfl, rfl⟩))
    (fun os started H enc _ => FnPutItem_lifted os started H enc)
end Go.Proofs.Ytmjcijhbhdfhdaa
