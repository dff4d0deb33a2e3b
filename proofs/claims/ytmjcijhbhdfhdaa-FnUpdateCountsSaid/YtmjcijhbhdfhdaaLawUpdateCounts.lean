/-
  FnUpdateCounts: true, for every code.
-/
import Derived.Deep.RegionHeld3
import Derived.Test.YtmjcijhbhdfhdaaP4
import Derived.Test.YtmjcijhbhdfhdaaP5
import Derived.Test.YtmjcijhbhdfhdaaP11
import Derived.Test.YtmjcijhbhdfhdaaP12
import Derived.Test.YtmjcijhbhdfhdaaP16
import Derived.Test.YtmjcijhbhdfhdaaP18
namespace Go.Proofs.Ytmjcijhbhdfhdaa
open Go.RowKit
open Go.ChangeShapes Go.WideShapes Go.ChangeAt Go.Deep

theorem cof_of {a : List Itm} (h : validI a = true) (s : ByteArray) : cofN a s = cnt a s := by unfold cofN; rw [if_pos h, sumL_one h]
theorem upd_item {a b : List Itm} (h : updB a b = true) {x : Itm} (hx : x ∈ updL a b) : x.2 = cofN a x.1 + cofN b x.1 ∧ (-9999 ≤ cofN a x.1 ∧ cofN a x.1 ≤ 9999) ∧ (-9999 ≤ cofN b x.1 ∧ cofN b x.1 ≤ 9999) := by
  obtain ⟨ha, hb, hv⟩ := upd_parts h
  rw [(upd_of ha hb hv).1] at hx
  rw [cof_of ha, cof_of hb]
  refine ⟨?_, cnt_valid ha _, cnt_valid hb _⟩
  rw [← cnt_at_mem (valid_uniq hv) hx, csum ha (valid_uniq hb)]
  omega
theorem upd_back {a b : List Itm} (h : updB a b = true) : validI (updL a b) = true ∧ subB (updL a b) b = true ∧ samB (subL (updL a b) b) a = true ∧ keysL (updL a b) = jkL a b := by
  obtain ⟨ha, hb, hv⟩ := upd_parts h
  have e := (upd_of ha hb hv).1
  rw [e]
  have hc : ∀ s, cnt (sumL (sumL a b 1) b (-1)) s = cnt a s := fun s => by
    rw [csum hv (valid_uniq hb), csum ha (valid_uniq hb)]
    omega
  have hv2 : validI (sumL (sumL a b 1) b (-1)) = true := by
    refine valid_sub (usum hv _ _) hv (fun s hs => ?_) (fun x hx => ?_)
    · rw [has_sum hv, Bool.or_eq_true] at hs
      rcases hs with hs | hs
      · exact hs
      · rw [has_sum ha, hs, Bool.or_true]
    · have h1 := cnt_at_mem (usum hv b (-1)) hx
      rw [hc] at h1
      have := cnt_valid ha x.1
      omega
  have e2 := sub_of hv hb hv2
  refine ⟨hv, e2.2, by rw [e2.1]; exact sam_of hv2 ha hc, ?_⟩
  unfold jkL
  rw [if_pos (okAB_iff.2 ⟨ha, hb⟩), sumL_valid ha, keys_addAll b 1 a (valid_uniq hb)]
  show keysL a ++ _ = keysL a ++ keysL (restI b a)
  congr 1
  unfold keysL restI
  rw [List.filter_map]
  rfl

set_option maxHeartbeats 3200000 in
set_option maxRecDepth 100000 in
theorem FnUpdateCounts_walk (v : Value) (bs : List Int) (w : World) (h : Bytes w v bs) :
    Calls Try.prog 3 #[v] w fun e w' => e = .returned (.bool true) ∧ Below w.heap.size w w' := by
  have h0 := h
  obtain ⟨ao, cap, rfl, hl, hc, hok, hcell⟩ := h0
  clear hcell hok
  go_enter Try.func3, Try.ntmps3
  by_cases hbig : (1048576 : Int) < (bs.length : Int)
  · go_wp2
    go_ret
    exact ⟨rfl, Below.refl _ _⟩
  go_wp2_with fail
  refine (DrawUpdateCounts_any _ bs w h).mono ?_
  rintro e w1 ⟨va, xs, vb, ys, rfl, hlen, hxa, hxb, hb1⟩
  have H1 := Things.nil w1
  obtain ⟨G, hG⟩ : ∃ G, Hid (G = updL xs ys) := ⟨_, Lib.hid rfl⟩
  obtain ⟨K, hK⟩ : ∃ K, Hid (K = updB xs ys) := ⟨_, Lib.hid rfl⟩
  have cI := Lib.hid (fun (v0 v1 : Value) (w : World) (h0 : Items w v0 xs) (h1 : Items w v1 ys) => castI2 (UpdateCounts_any v0 v1 xs ys w h0 h1) hG.out.symm hK.out.symm)
  have cS := Lib.hid (fun (v0 v1 : Value) (w : World) (h0 : Items w v0 xs) (h1 : Items w v1 ys) => castI2 (sUpdateCounts_any v0 v1 xs ys w h0 h1) hG.out.symm hK.out.symm)
  go_wp2_with fail
  refine (cI.out _ _ _ (H1.arg hxa) (H1.arg hxb)).mono ?_
  rintro e w2 ⟨vo, rfl, ho, hb⟩
  have H2 := H1.newI ho hb
  clear ho hb H1
  go_wp2_with fail
  refine (cS.out _ _ _ (H2.arg hxa) (H2.arg hxb)).mono ?_
  rintro e w3 ⟨vw, rfl, ho, hb⟩
  have H3 := H2.newI ho hb
  clear ho hb H2
  clear cI cS
  go_wp2_with fail
  refine (equalI_T H3 (H3.items 1 rfl) (H3.items 0 rfl)).mono ?_
  rintro e w4 ⟨rfl, H4⟩
  clear H3
  cases K
  · skip
    go_wp2_with fail
    refine (equalI_T H4 (H4.items 1 rfl) (H4.items 0 rfl)).mono ?_
    rintro e w5 ⟨rfl, H5⟩
    clear H4
    go_wp2
    go_ret
    exact ⟨rfl, hb1.trans (H5.below.mono hb1.size)⟩
  · have hk := hK.out.symm
    have hp := upd_parts hk
    have al := upd_back hk
    have HI : Hid (∀ x ∈ G, x.2 = cofN xs x.1 + cofN ys x.1 ∧ (-9999 ≤ cofN xs x.1 ∧ cofN xs x.1 ≤ 9999) ∧ (-9999 ≤ cofN ys x.1 ∧ cofN ys x.1 ≤ 9999)) := fun x hx => upd_item hk (by rw [← hG.out]; exact hx)
    obtain ⟨Z, hZ⟩ : ∃ Z, Hid (Z = subL G ys) := ⟨_, Lib.hid rfl⟩
    obtain ⟨Y, hY⟩ : ∃ Y, Hid (Y = jkL xs ys) := ⟨_, Lib.hid rfl⟩
    have c1 := Lib.hid (fun (v0 v1 : Value) (w : World) (h0 : Items w v0 G) (h1 : Items w v1 ys) => castI2 (SubtractCounts_any v0 v1 G ys w h0 h1) hZ.out.symm (show subB G ys = true by rw [hG.out]; exact al.2.1))
    have c2 := Lib.hid (fun (v0 v1 : Value) (w : World) (h0 : Items w v0 Z) (h1 : Items w v1 xs) => castB (SameCounts_any v0 v1 Z xs w h0 h1) (show samB Z xs = true by rw [hZ.out, hG.out]; exact al.2.2.1))
    have hGl : G.length ≤ 1000000 := by have h1 := valid_len al.1; rw [← hG.out] at h1; omega
    have c3 := Lib.hid (fun (v0 : Value) (w : World) (h0 : Items w v0 G) => castT (lkeys_any v0 G w h0 hGl) (show keysL G = Y by rw [hG.out, hY.out]; exact al.2.2.2))
    have c4 := Lib.hid (fun (v0 v1 : Value) (w : World) (h0 : Items w v0 xs) (h1 : Items w v1 ys) => castT (JoinKeys_any v0 v1 xs ys w h0 h1) hY.out.symm)
    clear hp al hG hK hk hGl hZ hY
    obtain ⟨ao1, cap1, rfl, hlc1, hcm1, hok1, hcell1⟩ := H4.items 1 rfl
    go_wp2
    go_loopw [9] (fun i wr => ∃ k : Nat, i = .int .i64 k ∧ k ≤ G.length ∧ Below w4.heap.size w4 wr) (fun i _ => G.length - (intOf i).toNat)
    case atStart => exact ⟨0, rfl, Nat.zero_le _, Below.refl _ _⟩
    case round =>
      obtain ⟨k, rfl, hk, hbl⟩ := hrel
      by_cases hlt : k < G.length
      · skip
        obtain ⟨b, o, rfl, hb, h1, h2⟩ := hcell1 k hlt
        have hs := (hok1 _ (List.getElem_mem hlt)).1
        obtain ⟨A, hA⟩ : ∃ A, Hid (A = cofN xs G[k].1) := ⟨_, Lib.hid rfl⟩
        obtain ⟨B, hB⟩ : ∃ B, Hid (B = cofN ys G[k].1) := ⟨_, Lib.hid rfl⟩
        obtain ⟨hn, ha, hb'⟩ := HI.out _ (List.getElem_mem hlt)
        rw [← hA.out, ← hB.out] at hn
        rw [← hA.out] at ha
        rw [← hB.out] at hb'
        rw [hn] at h2
        obtain ⟨s, hse⟩ : ∃ s, Hid (s = G[k].1) := ⟨_, Lib.hid rfl⟩
        rw [← hse.out] at h1 hs hA hB
        have cA := Lib.hid (fun (v0 : Value) (w : World) (h0 : Items w v0 xs) => castN (CountOf_any v0 xs s w h0 hs) hA.out.symm)
        have cB := Lib.hid (fun (v0 : Value) (w : World) (h0 : Items w v0 ys) => castN (CountOf_any v0 ys s w h0 hs) hB.out.symm)
        have hwr : IntKind.i64.wrap (A + B) = A + B := IntWalk.i64_in _ (by omega)
        have hlt2 : (k : Int) < (G.length : Int) := by omega
        have hbd := hbl.drew
        have h1d := (hbd.cell (p := ⟨b, _, none⟩) hb).trans h1
        have h2d := (hbd.cell (p := ⟨b, _, none⟩) hb).trans h2
        clear hn ha hb' hs hA hB hse
        go_wp2_with fail
        go_region_held3 (fun w' : World => w'.cell? ⟨b, o + k * 2, none⟩ = some (.string s) ∧ w'.cell? ⟨b, o + k * 2 + 1, none⟩ = some (.int .i64 (A + B)))
          (first | exact ⟨h1d, h2d⟩ | assumption | exact hS5 | exact hS6)
          (first
            | (go_at_call 19; (with_reducible refine (cA.out _ _ ((Things.quiet H4 hbd).arg hxa)).mono ?_); rintro e w5 ⟨rfl, hb5⟩; have hbl5 := hbd.trans (hb5.mono hbd.size); have hS5 := And.intro ((hbl5.cell (p := ⟨b, _, none⟩) hb).trans h1) ((hbl5.cell (p := ⟨b, _, none⟩) hb).trans h2); clear cA)
            | (go_at_call 19; (with_reducible refine (cB.out _ _ ((Things.quiet H4 hbl5).arg hxb)).mono ?_); rintro e w6 ⟨rfl, hb6⟩; have hbl6 := hbl5.trans (hb6.mono hbl5.size); have hS6 := And.intro ((hbl6.cell (p := ⟨b, _, none⟩) hb).trans h1) ((hbl6.cell (p := ⟨b, _, none⟩) hb).trans h2)))
        go_wp2
        go_roundw
        case rel => exact ⟨k + 1, by go_num, by omega, hbl6⟩
        case measure => simp [intOf]; omega
      · obtain rfl : k = G.length := by omega
        have H5 := H4.quiet hbl
        clear H4
        go_wp2_with fail
        refine (c1.out _ _ _ (H5.items 1 rfl) (H5.arg hxb)).mono ?_
        rintro e w6 ⟨v1, rfl, ho, hb⟩
        have H6 := H5.newI ho hb
        clear ho hb H5
        go_wp2_with fail
        refine (c3.out _ _ (H6.items 2 rfl)).mono ?_
        rintro e w7 ⟨v3, rfl, ho, hb⟩
        have H7 := H6.newT ho hb
        clear ho hb H6
        go_wp2_with fail
        refine (c4.out _ _ _ (H7.arg hxa) (H7.arg hxb)).mono ?_
        rintro e w8 ⟨v4, rfl, ho, hb⟩
        have H8 := H7.newT ho hb
        clear ho hb H7
        go_wp2_with fail
        refine (equalT_T H8 (H8.texts 1 rfl) (H8.texts 0 rfl)).mono ?_
        rintro e w9 ⟨rfl, H9⟩
        clear H8
        go_wp2_with fail
        refine (c2.out _ _ _ (H9.items 2 rfl) (H9.arg hxa)).mono ?_
        rintro e w10 ⟨rfl, hb⟩
        have H10 := H9.quiet hb
        clear hb H9
        go_wp2
        go_ret
        exact ⟨rfl, hb1.trans (H10.below.mono hb1.size)⟩

set_option maxRecDepth 100000 in
theorem FnUpdateCounts_lifted (os : Os) (started : os.Started) (H : Type) (enc : TypeId × Value → H) :
    ReturnsInHanded {} Try.checked os 3 .any (Rows.fnUpdateCountsSpec.pre6 enc Try.prog Try.f3 Rows.fnUpdateCountsRow.domain false) (Rows.fnUpdateCountsSpec.post enc Try.prog Try.f3 false true false false) := by
  refine returnsInHanded_of_change (C := Try.checked) own started (by kernel_rfl) Try.func3
    (ChangeSpec.witness6 (enc := enc) (C := Try.checked) false ⟨#[], #[.slice none 0 0], []⟩ 8 (by kernel_rfl) (by kernel_rfl) (by kernel_rfl) (by kernel_rfl)) ?_
  intro W base args ds gs before hval0 hW _ _
  have hval : ∀ (j : Nat) t v, Try.f3.params[j]? = some t → args[j]? = some v → Value.okWide Try.prog W .any base t v := hval0
  have hW' := hW
  obtain ⟨p, q, hA0, hV, rfl, _, _⟩ := hW
  have hA : DataW.TrodAll enc Try.prog W 0 (fun _ => true) true Try.f3.params.toList args.toList ds p := hA0
  rw [Try.params3] at hA hval
  obtain ⟨v0, vs0, d0, ds0, p0, q0, hargs, rfl, rfl, h0, r0⟩ := trodAll_cons hA
  obtain ⟨rfl, rfl, rfl⟩ := trodAll_nil r0
  obtain rfl : args = #[v0] := by cases args; simp_all
  obtain ⟨rfl, rfl⟩ := trodVars_none hV
  obtain ⟨xs0, hI0⟩ := open_bytes (hval 0 _ v0 rfl rfl) h0
  refine (FnUpdateCounts_walk v0 xs0 W hI0).mono fun e W' ⟨he, hb⟩ => ⟨_, he, ?_⟩
  exact law_end rfl (by rw [Try.params3]; decide +kernel) rfl hW' rfl rfl rfl hb

theorem FnUpdateCounts_facts : joinedFacts Try.prog 3 Try.f3 Rows.fnUpdateCountsSpec Rows.fnUpdateCountsRow = true :=
  facts_of (by kernel_rfl) q2 q3 (by kernel_rfl) (by kernel_rfl) (by kernel_rfl) q7 (by kernel_rfl) q9 (by kernel_rfl) (by kernel_rfl) (by kernel_rfl) (by kernel_rfl) (by kernel_rfl) (by kernel_rfl) (by kernel_rfl) (by kernel_rfl) (by kernel_rfl) (by kernel_rfl) (by kernel_rfl) (by kernel_rfl) (by kernel_rfl)
    (by rw [q22]; kernel_rfl) (by kernel_rfl) q23 head_enter (by kernel_rfl) head_lifts head_make (by kernel_rfl) (by kernel_rfl) (by kernel_rfl) (by kernel_rfl) (by kernel_rfl)

theorem FnUpdateCounts_holds : Rows.FnUpdateCountsSaid :=
  OpenClaim.holds_of_wide 3 Try.f3 rfl rfl rfl rfl rfl rfl rfl ⟨rfl, rfl, rfl, rfl, rfl⟩ rfl rfl rfl rfl rfl (by kernel_rfl) Try.func3 FnUpdateCounts_facts
    (of_decide_eq_true (by kernel_rfl)) (by unfold Func.isWrapper; first | (rw [if_pos (by decide +kernel)]; kernel_rfl) | (rw [if_neg (by decide +kernel)]; exact ⟨rfl, rfl⟩))
    (fun os started H enc _ => FnUpdateCounts_lifted os started H enc)
end Go.Proofs.Ytmjcijhbhdfhdaa
