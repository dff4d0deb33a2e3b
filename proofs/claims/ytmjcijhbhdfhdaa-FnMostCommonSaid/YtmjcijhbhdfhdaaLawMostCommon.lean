/-
  FnMostCommon: true, for every code.
-/
import Derived.Test.YtmjcijhbhdfhdaaQ4
import Derived.Test.YtmjcijhbhdfhdaaQ10
import Derived.Test.YtmjcijhbhdfhdaaQ12
import Derived.Test.YtmjcijhbhdfhdaaQ17
import Derived.Test.YtmjcijhbhdfhdaaQ19
import Derived.Test.YtmjcijhbhdfhdaaQ21
import Derived.Test.YtmjcijhbhdfhdaaQ22
import Derived.Test.YtmjcijhbhdfhdaaQ23
namespace Go.Proofs.Ytmjcijhbhdfhdaa
open Go.RowKit
open Go.ChangeShapes Go.WideShapes Go.ChangeAt Go.Deep

theorem Items.cast {w : World} {v : Value} {xs ys : List Itm} (h : Items w v xs) (e : xs = ys) : Items w v ys := e ▸ h
def befR (l : List Itm) (a b : Itm) : Prop := b.2 < a.2 ∨ (a.2 = b.2 ∧ plcN l a.1 < plcN l b.1)
theorem bef_le {l : List Itm} {a b : Itm} (h : befR l a b) : b.2 ≤ a.2 := by
  rcases h with h | h
  · omega
  · omega
theorem insD_bef {l : List Itm} {x : Itm} : ∀ p : List Itm, p.Pairwise (befR l) → (∀ y ∈ p, x.2 ≤ y.2 → befR l y x) → (insD geN p x).Pairwise (befR l) := by
  intro p
  induction p with
  | nil => intro _ _; exact List.pairwise_singleton _ _
  | cons y q ih =>
    intro h1 h2
    have h3 := List.pairwise_cons.1 h1
    by_cases hg : x.2 ≤ y.2
    · rw [insD_go (show geN y x = true from decide_eq_true hg)]
      refine List.pairwise_cons.2 ⟨fun z hz => ?_, ih h3.2 fun z hz => h2 z (List.mem_cons_of_mem _ hz)⟩
      rcases List.mem_cons.1 ((insD_perm (ge := geN) q x).mem_iff.1 hz) with rfl | hz
      · exact h2 y (by simp) hg
      · exact h3.1 z hz
    · rw [insD_stop (show geN y x = false from decide_eq_false hg)]
      refine List.pairwise_cons.2 ⟨fun z hz => .inl ?_, h1⟩
      rcases List.mem_cons.1 hz with rfl | hz
      · omega
      · have := bef_le (h3.1 z hz)
        omega
theorem fall_bef {l : List Itm} (hv : validI l = true) : (sortR ltN l).Pairwise (befR l) := by
  rw [sort_numbers]
  have : ∀ k, k ≤ l.length → (sortD geN (l.take k)).Pairwise (befR l) := by
    intro k
    induction k with
    | zero => intro _; exact List.Pairwise.nil
    | succ k ih =>
      intro hk
      rw [sortD_take (show k < l.length from hk)]
      refine insD_bef _ (ih (by omega)) fun y hy hxy => ?_
      have hm := (sortD_perm (ge := geN) (l.take k)).mem_iff.1 hy
      obtain ⟨i, hi, e⟩ := List.getElem_of_mem hm
      have hil : i < l.length := by rw [List.length_take] at hi; omega
      have hik : i < k := by rw [List.length_take] at hi; omega
      rw [List.getElem_take] at e
      rw [← e] at hxy ⊢
      unfold befR
      rw [plc_at hv hil, plc_at hv (show k < l.length from hk)]
      omega
  have h := this l.length (Nat.le_refl _)
  rwa [List.take_length] at h
theorem mc_all {l : List Itm} (hv : validI l = true) : mcL l (-1) = sortR ltN l := by
  unfold mcL mcI
  rw [if_pos hv, if_neg (by omega)]
theorem mc_perm {l : List Itm} : (sortR ltN l).Perm l := by rw [sort_numbers]; exact sortD_perm l
theorem mc_part {l : List Itm} (hv : validI l = true) (n : Int) : (sortR ltN l).take (mcL l n).length = mcL l n ∧ (mcL l n).length ≤ (sortR ltN l).length ∧ (0 ≤ n → ((mcL l n).length : Int) = min n (l.length : Int)) := by
  have hl : (sortR ltN l).length = l.length := sortR_length ltN l
  unfold mcL mcI
  rw [if_pos hv]
  split
  · rename_i h
    have e : ((sortR ltN l).take n.toNat).length = n.toNat := by rw [List.length_take]; omega
    rw [e]
    exact ⟨rfl, by omega, fun _ => by omega⟩
  · rename_i h
    rw [List.take_length]
    exact ⟨rfl, Nat.le_refl _, fun _ => by omega⟩

set_option maxHeartbeats 6400000 in
set_option maxRecDepth 100000 in
theorem FnMostCommon_walk (v : Value) (bs : List Int) (w : World) (h : Bytes w v bs) :
    Calls Try.prog 5 #[v] w fun e w' => e = .returned (.bool true) ∧ Below w.heap.size w w' := by
  have h0 := h
  obtain ⟨ao, cap, rfl, hl, hc, hok, hcell⟩ := h0
  clear hcell hok
  go_enter Try.func5, Try.ntmps5
  by_cases hbig : (1048576 : Int) < (bs.length : Int)
  · go_wp2
    go_ret
    exact ⟨rfl, Below.refl _ _⟩
  go_wp2_with fail
  refine (DrawMostCommon_any _ bs w h).mono ?_
  rintro e w1 ⟨va, xs, n, rfl, hlen, hxa, hb1⟩
  have H1 := Things.nil w1
  obtain ⟨G, hG⟩ : ∃ G, Hid (G = mcL xs n) := ⟨_, Lib.hid rfl⟩
  have cI := Lib.hid (fun (v0 : Value) (w : World) (h0 : Items w v0 xs) => castL (MostCommon_any v0 xs n w h0 (by omega)) hG.out.symm)
  have cS := Lib.hid (fun (v0 : Value) (w : World) (h0 : Items w v0 xs) => castL (sMostCommon_any v0 xs n w h0 (by omega)) hG.out.symm)
  go_wp2_with fail
  refine (cI.out _ _ (H1.arg hxa)).mono ?_
  rintro e w2 ⟨vo, rfl, ho, hb⟩
  have H2 := H1.newI ho hb
  clear ho hb H1
  go_wp2_with fail
  refine (cS.out _ _ (H2.arg hxa)).mono ?_
  rintro e w3 ⟨vw, rfl, ho, hb⟩
  have H3 := H2.newI ho hb
  clear ho hb H2
  go_wp2_with fail
  refine (equalI_T H3 (H3.items 1 rfl) (H3.items 0 rfl)).mono ?_
  rintro e w4 ⟨rfl, H4⟩
  clear H3
  obtain ⟨V, hV⟩ : ∃ V, Hid (V = validI xs) := ⟨_, Lib.hid rfl⟩
  have cV := Lib.hid (fun (v0 : Value) (w : World) (h0 : Items w v0 xs) => castB (ValidItems_any v0 xs w h0) hV.out.symm)
  go_wp2_with fail
  refine (cV.out _ _ (H4.arg hxa)).mono ?_
  rintro e w5 ⟨rfl, hb⟩
  have H5 := H4.quiet hb
  clear hb H4
  cases V
  · skip
    go_wp2_with fail
    refine (cS.out _ _ (H5.arg hxa)).mono ?_
    rintro e w6 ⟨vs, rfl, ho, hb⟩
    have H6 := H5.newI ho hb
    clear ho hb H5
    go_wp2_with fail
    refine (equalI_T H6 (H6.items 2 rfl) (H6.items 0 rfl)).mono ?_
    rintro e w7 ⟨rfl, H7⟩
    clear H6
    go_wp2
    go_ret
    exact ⟨rfl, hb1.trans (H7.below.mono hb1.size)⟩
  · have hv := hV.out.symm
    obtain ⟨S, hS⟩ : ∃ S, Hid (S = sortR ltN xs) := ⟨_, Lib.hid rfl⟩
    obtain ⟨q1, q2, q3⟩ := mc_part hv n
    rw [← hG.out, ← hS.out] at q1 q2
    rw [← hG.out] at q3
    have c1 := Lib.hid (fun (v0 : Value) (w : World) (h0 : Items w v0 xs) => castL (MostCommon_any v0 xs (-1) w h0 (by omega)) ((mc_all hv).trans hS.out.symm))
    have hsp : S.Perm xs := by rw [hS.out]; exact mc_perm
    have hsv : validI S = true := by rw [valid_perm hsp]; exact hv
    have hbef : Hid (S.Pairwise (befR xs)) := by rw [hS.out]; exact fall_bef hv
    have c2 := Lib.hid (fun (v0 v1 : Value) (w : World) (h0 : Items w v0 S) (h1 : Items w v1 xs) => castB (SameItems_any v0 v1 S xs w h0 h1) (sm_of hsv hsp))
    clear hsp hsv hv hG hS hV cI cS cV
    go_wp2_with fail
    refine (c1.out _ _ (H5.arg hxa)).mono ?_
    rintro e w6 ⟨v1, rfl, ho, hb⟩
    have H6 := H5.newI ho hb
    clear ho hb H5
    have HXS := Lib.hid (H6.arg hxa)
    obtain ⟨ao1, cap1, rfl, hlc1, hcm1, hok1, hcell1⟩ := H6.items 0 rfl
    go_wp2
    go_loopw [7] (fun i wr => ∃ k : Nat, i = .int .i64 k ∧ 1 ≤ k ∧ Below w6.heap.size w6 wr) (fun i _ => S.length - (intOf i).toNat)
    case atStart => exact ⟨1, rfl, Nat.le_refl _, Below.refl _ _⟩
    case round =>
      obtain ⟨k, rfl, hk, hbl⟩ := hrel
      by_cases hlt : k < S.length
      · obtain ⟨j, hj⟩ : ∃ j : Nat, k = j + 1 := ⟨k - 1, by omega⟩
        have hjl : j < S.length := by omega
        have hlt2 : (k : Int) < (S.length : Int) := by omega
        have hlt3 : (j : Int) < (S.length : Int) := by omega
        have hk0 : (0 : Int) ≤ (k : Int) := by omega
        have hj0 : (0 : Int) ≤ (j : Int) := by omega
        have hwr1 : IntKind.i64.wrap ((k : Int) - 1) = (j : Int) := by rw [IntWalk.i64_in _ (by omega)]; omega
        obtain ⟨b1, o1, rfl, hbk1, k1, k2⟩ := hcell1 k hlt
        obtain ⟨b2, o2, e, hbk2, k3, k4⟩ := hcell1 j hjl
        simp only [Option.some.injEq, Addr.mk.injEq, and_true] at e
        obtain ⟨rfl, rfl⟩ := e
        have d1 := fresh_cell ((hbl.cell (p := ⟨b1, _, none⟩) hbk1).trans k1)
        have d2 := fresh_cell ((hbl.cell (p := ⟨b1, _, none⟩) hbk1).trans k2)
        have d3 := fresh_cell ((hbl.cell (p := ⟨b1, _, none⟩) hbk1).trans k3)
        have d4 := fresh_cell ((hbl.cell (p := ⟨b1, _, none⟩) hbk1).trans k4)
        have HX := Lib.hid (HXS.out.mono hbl (Nat.le_refl _))
        have hb := List.pairwise_iff_getElem.1 hbef.out j k hjl hlt (by omega)
        have hnl : ¬ S[j].2 < S[k].2 := by have := bef_le hb; omega
        clear k1 k2 k3 k4 hj hbk2
        by_cases he : S[j].2 = S[k].2
        · have hpl : plcN xs S[j].1 < plcN xs S[k].1 := by unfold befR at hb; omega
          obtain ⟨P1, hP1⟩ : ∃ P1, Hid (P1 = plcN xs S[j].1) := ⟨_, Lib.hid rfl⟩
          obtain ⟨P2, hP2⟩ : ∃ P2, Hid (P2 = plcN xs S[k].1) := ⟨_, Lib.hid rfl⟩
          rw [← hP1.out, ← hP2.out] at hpl
          have c3 := Lib.hid (fun (v0 : Value) (w : World) (h0 : Items w v0 xs) => castN (PlaceOf_any v0 xs S[j].1 w h0) hP1.out.symm)
          have c4 := Lib.hid (fun (v0 : Value) (w : World) (h0 : Items w v0 xs) => castN (PlaceOf_any v0 xs S[k].1 w h0) hP2.out.symm)
          have hpn : ¬ P2 < P1 := by omega
          have heb : (S[j].2 == S[k].2) = true := by rw [he]; exact beq_self_eq_true _
          clear hb hP1 hP2 hpl he
          go_wp2_with fail
          refine region_fresh (by kernel_rfl) (by kernel_rfl) ?_
          repeat (with_reducible refine wpQuiet_step ?_; intro K hK; go_simp; first | (refine hK _ ?_; clear hK K) | (apply Exists.intro; refine ⟨fun _ => ?_, hK _ ?_⟩; (first | (go_at_call 33; with_reducible exact fresh_Q (c3.out _ _ (HX.out.mono (Fresh.is _) (Nat.le_refl _)))) | (go_at_call 33; with_reducible exact fresh_Q (c4.out _ _ (HX.out.mono (Fresh.is _) (Nat.le_refl _))))); clear hK K))
          with_reducible refine wpQuiet_nil ?_
          intro _ hw'
          obtain ⟨⟨wq, hq⟩, hw''⟩ := hw'
          subst hw''
          have hblq := hbl.trans (hq.mono hbl.size)
          go_wp2
          go_roundw
          case rel => exact ⟨k + 1, by go_num, by omega, hblq⟩
          case measure => simp [intOf]; omega
        · have heb : (S[j].2 == S[k].2) = false := by rw [beq_eq_false_iff_ne]; exact he
          clear hb he
          go_wp2_with fail
          refine region_fresh (by kernel_rfl) (by kernel_rfl) ?_
          repeat (with_reducible refine wpQuiet_step ?_; intro K hK; go_simp; first | (refine hK _ ?_; clear hK K) | (apply Exists.intro; refine ⟨fun _ => ?_, hK _ ?_⟩; (fail); clear hK K))
          with_reducible refine wpQuiet_nil ?_
          intro _ hw'
          obtain ⟨⟨wq, hq⟩, hw''⟩ := hw'
          subst hw''
          have hblq := hbl.trans (hq.mono hbl.size)
          go_wp2
          go_roundw
          case rel => exact ⟨k + 1, by go_num, by omega, hblq⟩
          case measure => simp [intOf]; omega
      · have hge : S.length ≤ k := by omega
        have H7 := H6.quiet hbl
        clear H6
        go_wp2_with fail
        refine (c2.out _ _ _ (H7.items 0 rfl) (H7.arg hxa)).mono ?_
        rintro e w8 ⟨rfl, hb⟩
        have H8 := H7.quiet hb
        clear hb H7
        obtain ⟨ao3, cap3, rfl, hlc3, hcm3⟩ := Items.shape (H8.items 2 rfl)
        have hxa0 := hxa
        obtain ⟨ao4, cap4, rfl, _, _, _, _⟩ := hxa0
        have i1 : (G.length : Int) ≤ (S.length : Int) := by omega
        have i2 : (G.length : Int) ≤ (cap1 : Int) := by omega
        have i3 : (0 : Int) ≤ (G.length : Int) := by omega
        go_wp2_with fail
        refine (equalI_T H8 (H8.items 2 rfl) (Items.cast ((H8.items 0 rfl).take q2) q1)).mono ?_
        rintro e w9q ⟨rfl, H9⟩
        clear H8
        rcases (by omega : n < 0 ∨ (0 ≤ n ∧ n ≤ (xs.length : Int)) ∨ (0 ≤ n ∧ (xs.length : Int) < n)) with hneg | ⟨hpos, hgl⟩ | ⟨hpos, hgl⟩
        · clear q3
          go_wp2
          go_ret
          exact ⟨rfl, hb1.trans (H9.below.mono hb1.size)⟩
        · have hm := q3 hpos
          have hn0 : ¬ n < 0 := by omega
          have hmin2 : ((G.length : Int) == n) = true := by rw [beq_iff_eq]; omega
          clear hm q3
          go_wp2
          go_ret
          exact ⟨rfl, hb1.trans (H9.below.mono hb1.size)⟩
        · have hm := q3 hpos
          have hn0 : ¬ n < 0 := by omega
          have hgl2 : ¬ n ≤ (xs.length : Int) := by omega
          have hmin2 : ((G.length : Int) == (xs.length : Int)) = true := by rw [beq_iff_eq]; omega
          clear hm q3
          go_wp2
          go_ret
          exact ⟨rfl, hb1.trans (H9.below.mono hb1.size)⟩

set_option maxRecDepth 100000 in
theorem FnMostCommon_lifted (os : Os) (started : os.Started) (H : Type) (enc : TypeId × Value → H) :
    ReturnsInHanded {} Try.checked os 5 .any (Rows.fnMostCommonSpec.pre6 enc Try.prog Try.f5 Rows.fnMostCommonRow.domain false) (Rows.fnMostCommonSpec.post enc Try.prog Try.f5 false true false false) := by
  refine returnsInHanded_of_change (C := Try.checked) own started (by kernel_rfl) Try.func5
    (ChangeSpec.witness6 (enc := enc) (C := Try.checked) false ⟨#[], #[.slice none 0 0], []⟩ 8 (by kernel_rfl) (by kernel_rfl) (by kernel_rfl) (by kernel_rfl)) ?_
  intro W base args ds gs before hval0 hW _ _
  have hval : ∀ (j : Nat) t v, Try.f5.params[j]? = some t → args[j]? = some v → Value.okWide Try.prog W .any base t v := hval0
  have hW' := hW
  obtain ⟨p, q, hA0, hV, rfl, _, _⟩ := hW
  have hA : DataW.TrodAll enc Try.prog W 0 (fun _ => true) true Try.f5.params.toList args.toList ds p := hA0
  rw [Try.params5] at hA hval
  obtain ⟨v0, vs0, d0, ds0, p0, q0, hargs, rfl, rfl, h0, r0⟩ := trodAll_cons hA
  obtain ⟨rfl, rfl, rfl⟩ := trodAll_nil r0
  obtain rfl : args = #[v0] := by cases args; simp_all
  obtain ⟨rfl, rfl⟩ := trodVars_none hV
  obtain ⟨xs0, hI0⟩ := open_bytes (hval 0 _ v0 rfl rfl) h0
  refine (FnMostCommon_walk v0 xs0 W hI0).mono fun e W' ⟨he, hb⟩ => ⟨_, he, ?_⟩
  exact law_end rfl (by rw [Try.params5]; decide +kernel) rfl hW' rfl rfl rfl hb

theorem FnMostCommon_facts : joinedFacts Try.prog 5 Try.f5 Rows.fnMostCommonSpec Rows.fnMostCommonRow = true :=
  facts_of (by kernel_rfl) q2 q3 (by kernel_rfl) (by kernel_rfl) (by kernel_rfl) q7 (by kernel_rfl) q9 (by kernel_rfl) (by kernel_rfl) (by kernel_rfl) (by kernel_rfl) (by kernel_rfl) (by kernel_rfl) (by kernel_rfl) (by kernel_rfl) (by kernel_rfl) (by kernel_rfl) (by kernel_rfl) (by kernel_rfl) (by kernel_rfl)
    (by rw [q22]; kernel_rfl) (by kernel_rfl) q23 head_enter (by kernel_rfl) head_lifts head_make (by kernel_rfl) (by kernel_rfl) (by kernel_rfl) (by kernel_rfl) (by kernel_rfl)

theorem FnMostCommon_holds : Rows.FnMostCommonSaid :=
  OpenClaim.holds_of_wide 5 Try.f5 rfl rfl rfl rfl rfl rfl rfl ⟨rfl, rfl, rfl, rfl, rfl⟩ rfl rfl rfl rfl rfl (by kernel_rfl) Try.func5 FnMostCommon_facts
    (of_decide_eq_true (by kernel_rfl)) (by unfold Func.isWrapper; first | (rw [if_pos (by decide +kernel)]; kernel_rfl) | (rw [if_neg (by decide +kernel)]; exact ⟨rfl, rfl⟩))
    (fun os started H enc _ => FnMostCommon_lifted os started H enc)
end Go.Proofs.Ytmjcijhbhdfhdaa
