/-
  FnOverItems: true, for every code.
-/
import Derived.Test.YtfjgmnlbchcabaaP11
import Derived.Test.YtfjgmnlbchcabaaP21
import Derived.Test.YtfjgmnlbchcabaaP23
import Derived.Test.YtfjgmnlbchcabaaP24
import Derived.Test.YtfjgmnlbchcabaaP25
namespace Go.Proofs.Ytfjgmnlbchcabaa
open Go.RowKit
open Go.ChangeShapes Go.WideShapes Go.ChangeAt Go.Deep

set_option maxHeartbeats 3200000 in
set_option maxRecDepth 100000 in
theorem FnOverItems_walk (v : Value) (bs : List Int) (w : World) (h : Bytes w v bs) :
    Calls Try.prog 3 #[v] w fun e w' => e = .returned (.bool true) ∧ Below w.heap.size w w' := by
  have h0 := h
  obtain ⟨ao, cap, rfl, hl, hc, hok, hcell⟩ := h0
  clear hcell hok
  go_enter Try.func3, Try.ntmps3
  by_cases hbig : (1048576 : Int) < (bs.length : Int)
  · go_wp2
    go_ret
    exact ⟨rfl, Below.refl _ _⟩
  go_wp2_with fail
  refine (DrawOverItems_any _ bs w h).mono ?_
  rintro e w1 ⟨va, xs, vb, ys, rfl, hlen, hxa, hxb, hb1⟩
  have H1 := Things.nil w1
  obtain ⟨G, hG⟩ : ∃ G, Hid (G = overL xs ys) := ⟨_, Lib.hid rfl⟩
  obtain ⟨K, hK⟩ : ∃ K, Hid (K = okO xs ys) := ⟨_, Lib.hid rfl⟩
  have cI := Lib.hid (fun (v0 v1 : Value) (w : World) (h0 : Items w v0 xs) (h1 : Items w v1 ys) => castI2 (OverItems_any v0 v1 xs ys w h0 h1) hG.out.symm hK.out.symm)
  have cS := Lib.hid (fun (v0 v1 : Value) (w : World) (h0 : Items w v0 xs) (h1 : Items w v1 ys) => castI2 (sOverItems_any v0 v1 xs ys w h0 h1) hG.out.symm hK.out.symm)
  go_wp2_with fail
  refine (cI.out _ _ _ (H1.arg hxa) (H1.arg hxb)).mono ?_
  rintro e w2 ⟨vo, rfl, ho, hb⟩
  have H2 := H1.newI ho hb
  clear ho hb H1
  go_wp2_with fail
  refine (cS.out _ _ _ (H2.arg hxa) (H2.arg hxb)).mono ?_
  rintro e w3 ⟨vw, rfl, ho, hb⟩
  have H3 := H2.newI ho hb
  clear ho hb H2
  clear cI cS
  go_wp2_with fail
  refine (equalI_T H3 (H3.items 1 rfl) (H3.items 0 rfl)).mono ?_
  rintro e w4 ⟨rfl, H4⟩
  clear H3
  cases K
  · skip
    go_wp2_with fail
    refine (equalI_T H4 (H4.items 1 rfl) (H4.items 0 rfl)).mono ?_
    rintro e w5 ⟨rfl, H5⟩
    clear H4
    go_wp2
    go_ret
    exact ⟨rfl, hb1.trans (H5.below.mono hb1.size)⟩
  · have hk := hK.out.symm
    obtain ⟨hv, hu, hg, hge⟩ := over_parts hk
    rw [← hG.out] at hge
    have HI : Hid (∀ x ∈ G, (okG ys x.1 = true ∧ getN ys x.1 = x.2) ∨ (okG ys x.1 = false ∧ okG xs x.1 = true ∧ getN xs x.1 = x.2)) := fun x hx => by
      rw [hge] at hx
      have h1 := cnt_at_mem (valid_uniq hg) hx
      have h2 := hasI_mem.2 ⟨x, hx, rfl⟩
      rw [cnt_over ys xs (valid_uniq hu)] at h1
      rw [has_over] at h2
      cases hb : hasI ys x.1
      · rw [hb, if_neg (by simp)] at h1
        rw [hb, Bool.or_false] at h2
        have ho := okg_of hv h2
        exact .inr ⟨by unfold okG; rw [hb, Bool.and_false], ho, by rw [getn_of ho, h1]⟩
      · rw [hb, if_pos rfl] at h1
        have ho := okg_of hu hb
        exact .inl ⟨ho, by rw [getn_of ho, h1]⟩
    obtain ⟨J, hJ⟩ : ∃ J, Hid (J = jkL xs ys) := ⟨_, Lib.hid rfl⟩
    have hGl : G.length ≤ 1000000 := by have h1 := valid_len hg; rw [← hge] at h1; omega
    have c1 := Lib.hid (fun (v0 : Value) (w : World) (h0 : Items w v0 G) => castT (lkeys_any v0 G w h0 hGl) (show keysL G = J by rw [hge, hJ.out, jk_of hv hu, keys_over ys xs (valid_uniq hu)]; show keysL xs ++ _ = keysL xs ++ keysL (restI ys xs); congr 1; unfold keysL restI; rw [List.filter_map]; rfl))
    have c2 := Lib.hid (fun (v0 v1 : Value) (w : World) (h0 : Items w v0 xs) (h1 : Items w v1 ys) => castT (JoinKeys_any v0 v1 xs ys w h0 h1) hJ.out.symm)
    clear hv hu hg hge hk hG hK hJ hGl
    obtain ⟨ao1, cap1, rfl, hlc1, hcm1, hok1, hcell1⟩ := H4.items 1 rfl
    go_wp2
    go_loopw [9] (fun i wr => ∃ k : Nat, i = .int .i64 k ∧ k ≤ G.length ∧ Below w4.heap.size w4 wr) (fun i _ => G.length - (intOf i).toNat)
    case atStart => exact ⟨0, rfl, Nat.zero_le _, Below.refl _ _⟩
    case round =>
      obtain ⟨k, rfl, hk, hbl⟩ := hrel
      by_cases hlt : k < G.length
      · skip
        obtain ⟨b1, o1, rfl, hbk1, k1, k2⟩ := hcell1 k hlt
        have c1_ := (hbl.cell (p := ⟨b1, _, none⟩) hbk1).trans k1
        rcases HI.out _ (List.getElem_mem hlt) with ⟨p1, p2⟩ | ⟨p0, p1, p2⟩
        · have cP := Lib.hid (fun (v0 : Value) (w : World) (h0 : Items w v0 ys) => castNB (GetItem_any v0 ys G[k].1 w h0) p2 p1)
          clear p1 p2
          go_wp2_with fail
          refine (cP.out _ _ ((Things.quiet H4 hbl).arg hxb)).mono ?_
          rintro e w8 ⟨rfl, hb8⟩
          have hbl8 := hbl.trans (hb8.mono hbl.size)
          have c1_ := (hbl8.cell (p := ⟨b1, _, none⟩) hbk1).trans k1
          have c2_ := (hbl8.cell (p := ⟨b1, _, none⟩) hbk1).trans k2
          clear cP hb8
          go_wp2
          go_roundw
          case rel => exact ⟨k + 1, by go_num, by omega, hbl8⟩
          case measure => simp [intOf]; omega
        · have cP := Lib.hid (fun (v0 : Value) (w : World) (h0 : Items w v0 ys) => castNB (GetItem_any v0 ys G[k].1 w h0) (getn_no p0) p0)
          have cQ := Lib.hid (fun (v0 : Value) (w : World) (h0 : Items w v0 xs) => castNB (GetItem_any v0 xs G[k].1 w h0) p2 p1)
          clear p0 p1 p2
          go_wp2_with fail
          refine (cP.out _ _ ((Things.quiet H4 hbl).arg hxb)).mono ?_
          rintro e w8 ⟨rfl, hb8⟩
          have hbl8 := hbl.trans (hb8.mono hbl.size)
          have c1_ := (hbl8.cell (p := ⟨b1, _, none⟩) hbk1).trans k1
          have c2_ := (hbl8.cell (p := ⟨b1, _, none⟩) hbk1).trans k2
          clear cP hb8
          go_wp2_with fail
          refine (cQ.out _ _ ((Things.quiet H4 hbl8).arg hxa)).mono ?_
          rintro e w9 ⟨rfl, hb9⟩
          have hbl9 := hbl8.trans (hb9.mono hbl8.size)
          have c1_ := (hbl9.cell (p := ⟨b1, _, none⟩) hbk1).trans k1
          have c2_ := (hbl9.cell (p := ⟨b1, _, none⟩) hbk1).trans k2
          clear cQ hb9
          go_wp2
          go_roundw
          case rel => exact ⟨k + 1, by go_num, by omega, hbl9⟩
          case measure => simp [intOf]; omega
      · obtain rfl : k = G.length := by omega
        have H5 := H4.quiet hbl
        clear H4
        go_wp2_with fail
        refine (c1.out _ _ (H5.items 1 rfl)).mono ?_
        rintro e w6 ⟨v1, rfl, ho, hb⟩
        have H6 := H5.newT ho hb
        clear ho hb H5
        go_wp2_with fail
        refine (c2.out _ _ _ (H6.arg hxa) (H6.arg hxb)).mono ?_
        rintro e w7 ⟨v2, rfl, ho, hb⟩
        have H7 := H6.newT ho hb
        clear ho hb H6
        go_wp2_with fail
        refine (equalT_T H7 (H7.texts 1 rfl) (H7.texts 0 rfl)).mono ?_
        rintro e w8 ⟨rfl, H8⟩
        clear H7
        go_wp2
        go_ret
        exact ⟨rfl, hb1.trans (H8.below.mono hb1.size)⟩

set_option maxRecDepth 100000 in
theorem FnOverItems_lifted (os : Os) (started : os.Started) (H : Type) (enc : TypeId × Value → H) :
    ReturnsInHanded {} Try.checked os 3 .any (Rows.fnOverItemsSpec.pre6 enc Try.prog Try.f3 Rows.fnOverItemsRow.domain false) (Rows.fnOverItemsSpec.post enc Try.prog Try.f3 false true false false) := by
  refine returnsInHanded_of_change (C := Try.checked) own started (by kernel_rfl) Try.func3
    (ChangeSpec.witness6 (enc := enc) (C := Try.checked) false ⟨#[], #[.slice none 0 0], []⟩ 8 (by kernel_rfl) (by kernel_rfl) (by kernel_rfl) (by kernel_rfl)) ?_
  intro W base args ds gs before hval0 hW _ _
  have hval : ∀ (j : Nat) t v, Try.f3.params[j]? = some t → args[j]? = some v → Value.okWide Try.prog W .any base t v := hval0
  have hW' := hW
  obtain ⟨p, q, hA0, hV, rfl, _, _⟩ := hW
  have hA : DataW.TrodAll enc Try.prog W 0 (fun _ => true) true Try.f3.params.toList args.toList ds p := hA0
  rw [Try.params3] at hA hval
  obtain ⟨v0, vs0, d0, ds0, p0, q0, hargs, rfl, rfl, h0, r0⟩ := trodAll_cons hA
  obtain ⟨rfl, rfl, rfl⟩ := trodAll_nil r0
  obtain rfl : args = #[v0] := by cases args; simp_all
  obtain ⟨rfl, rfl⟩ := trodVars_none hV
  obtain ⟨xs0, hI0⟩ := open_bytes (hval 0 _ v0 rfl rfl) h0
  refine (FnOverItems_walk v0 xs0 W hI0).mono fun e W' ⟨he, hb⟩ => ⟨_, he, ?_⟩
  exact law_end rfl (by rw [Try.params3]; decide +kernel) rfl hW' rfl rfl rfl hb

theorem FnOverItems_facts : joinedFacts Try.prog 3 Try.f3 Rows.fnOverItemsSpec Rows.fnOverItemsRow = true :=
  facts_of (by kernel_rfl) q2 q3 (by kernel_rfl) (by kernel_rfl) (by kernel_rfl) q7 (by kernel_rfl) q9 (by kernel_rfl) (by kernel_rfl) (by kernel_rfl) (by kernel_rfl) (by kernel_rfl) (by kernel_rfl) (by kernel_rfl) (by kernel_rfl) (by kernel_rfl) (by kernel_rfl) (by kernel_rfl) (by kernel_rfl) (by kernel_rfl)
    (by rw [q22]; kernel_rfl) (by kernel_rfl) q23 head_enter (by kernel_rfl) head_lifts head_make (by kernel_rfl) (by kernel_rfl) (by kernel_rfl) (by kernel_rfl) (by kernel_rfl)

theorem FnOverItems_holds : Rows.FnOverItemsSaid :=
  OpenClaim.holds_of_wide 3 Try.f3 rfl rfl rfl rfl rfl rfl rfl ⟨rfl, rfl, rfl, rfl, rfl⟩ rfl rfl rfl rfl rfl (by kernel_rfl) Try.func3 FnOverItems_facts
    (of_decide_eq_true (by kernel_rfl)) (by unfold Func.isWrapper; first | (rw [if_pos (by decide +kernel)]; kernel_rfl) | (rw [if_neg (by decide +kernel)]; exact ⟨rfl, rfl⟩))
    (fun os started H enc _ => FnOverItems_lifted os started H enc)
end Go.Proofs.Ytfjgmnlbchcabaa
