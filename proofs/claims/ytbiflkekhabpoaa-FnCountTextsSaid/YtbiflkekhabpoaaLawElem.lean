/-
  FnElements: true, for every code.
-/
import Derived.Test.YtbiflkekhabpoaaEqualItems
import Derived.Test.YtbiflkekhabpoaaPure3
import Derived.Test.YtbiflkekhabpoaaImpl1
import Derived.Test.YtbiflkekhabpoaaStr2
namespace Go.Proofs.Ytbiflkekhabpoaa
open Go.RowKit
open Go.ChangeShapes Go.WideShapes Go.ChangeAt Go.Deep

set_option maxHeartbeats 400000 in
theorem equalTexts_any (v u : Value) (xs ys : List ByteArray) (w : World) (h : Texts w v xs) (h' : Texts w u ys) :
    Calls Try.prog 74 #[v, u] w fun e w' => e = .returned (.bool (decide (xs = ys))) ∧ Below w.heap.size w w' := by
  obtain ⟨ao, cap, rfl, hlc, hcm, hok, hcell⟩ := h
  obtain ⟨ao', cap', rfl, hlc', hcm', hok', hcell'⟩ := h'
  go_enter Try.func74, Try.ntmps74
  by_cases hl : xs.length = ys.length
  · have hlb := eqLen_lit hl
    have HL := Lib.hid hl
    clear hl
    go_wp2
    go_loopw [5] (fun i wr => ∃ k : Nat, k ≤ xs.length ∧ i = .int .i64 k ∧ Hid (decide (xs = ys) = eqFromT k xs ys) ∧ Below w.heap.size w wr) (fun i _ => xs.length - (intOf i).toNat)
    case atStart => exact ⟨0, Nat.zero_le _, rfl, rfl, Below.refl _ _⟩
    case round =>
      obtain ⟨k, hk, rfl, HQ, hbl⟩ := hrel
      by_cases hlt : k < xs.length
      · obtain ⟨b, o, rfl, hb, h1⟩ := hcell k hlt
        have hlt' : k < ys.length := by have := HL.out; omega
        obtain ⟨b', o', rfl, hb', h1'⟩ := hcell' k hlt'
        have c1 := (hbl.cell (p := ⟨b, _, none⟩) hb).trans h1
        have c3 := (hbl.cell (p := ⟨b', _, none⟩) hb').trans h1'
        by_cases ht : xs[k] = ys[k]
        · have e1 := Lib.hid (eqFromT_step hlt hlt')
          have hbq : (xs[k].toList == ys[k].toList) = true := by rw [beq_keys]; exact decide_eq_true ht
          go_wp2_with fail
          go_quiet (fail)
          go_wp2
          go_roundw
          case rel => exact ⟨k + 1, by omega, by go_num, by unfold Hid; rw [HQ.out, e1.out]; simp [ht], below_drewN hbl _⟩
          case measure => simp [intOf]; omega
        · have e1 := Lib.hid (eqFromT_step hlt hlt')
          have hbq : (xs[k].toList == ys[k].toList) = false := by rw [beq_keys]; exact decide_eq_false ht
          go_wp2_with fail
          go_quiet (fail)
          go_wp2
          go_ret
          refine ⟨ret_bool ?_, below_drewN hbl _⟩
          rw [HQ.out, e1.out]
          simp [ht]
      · obtain rfl : k = xs.length := by omega
        go_wp2
        go_ret
        refine ⟨ret_bool ?_, hbl⟩
        rw [HQ.out]
        unfold eqFromT
        rw [List.drop_length, HL.out, List.drop_length]
        rfl
  · go_wp2
    go_ret
    refine ⟨ret_bool ?_, Below.refl _ _⟩
    symm
    rw [decide_eq_false_iff_not]
    rintro rfl
    exact hl rfl

set_option maxHeartbeats 1600000 in
theorem DrawElements_any (v : Value) (bs : List Int) (w : World) (h : Bytes w v bs) :
    Calls Try.prog 73 #[v] w fun e w' => ∃ v' xs, e = .returned v' ∧ OwnI 54 w' w.heap.size v' xs ∧ xs.length ≤ 9 ∧ Below w.heap.size w w' := by
  go_enter Try.func73, Try.ntmps73
  go_wp2_with fail
  refine (newReader_any v bs w h).mono ?_
  rintro e w1 ⟨r, rfl, hr, hR1, hb1⟩
  go_wp2_with fail
  refine (someItems_any r 0 w1 hR1 (by omega)).mono ?_
  rintro e w2 ⟨v2, xs, rfl, hl, hown, hR2, hk2⟩
  have hrlt := hR1.lt
  have hbk : ∀ {w' : World}, Keeps (RK r w1) w1 w' → Below w.heap.size w w' := fun hk => hb1.trans (Keeps.below hk (fun k hk => ⟨Nat.lt_of_lt_of_le hk hb1.size, by omega⟩))
  by_cases hz : 0 < xs.length
  · have hcmp : (0 : Int) < (xs.length : Int) := by omega
    obtain ⟨g, cap, rfl, hgc, hgB⟩ := own_shape hown.1 hz
    go_wp2_with fail
    refine (pick_any r _ 12 w2 hR2 (by omega) (by omega) (by omega)).mono ?_
    rintro e w3 ⟨c, rfl, hc, hR3, hk3⟩
    have hown3 := hown.keeps hrlt hk3
    have hkk3 := RK.trans hk2 hk3
    clear hown hk2 hk3 hR2
    by_cases h0 : c = 0
    · subst h0
      go_wp2_with fail
      refine (one_lit r _ [40, 41, 30] w3 hR3 (by omega) (by decide) (by decide) rfl rfl).mono ?_
      rintro e w4 ⟨x, hx, rfl, hR4, hk4⟩
      have hx2 := near_mem (by rfl) hx
      have hrow4 := (hown3.keeps hrlt hk4).1
      have hkk4 := RK.trans hkk3 hk4
      obtain ⟨u, c1⟩ := row_cell hrow4 (j := 1) (by omega)
      have f1 := hrow4.frozenAt 1
      have hst := row_number hrow4 hz x
      clear hx
      go_wp2
      go_ret
      exact ⟨_, xs.set 0 (xs[0].1, x), rfl, (OwnI.base (B := w1.heap.size) ⟨by rw [List.length_set]; exact hst, okI_setN hown3.2 hz x hx2⟩ hb1.size), by rw [List.length_set]; exact hl, hbk (RK.set hkk4 hgB _)⟩
    · have hb0 : ((c : Int) == 0) = false := by rw [beq_eq_false_iff_ne]; omega
      go_wp2
      go_ret
      exact ⟨_, xs, rfl, hown3.base hb1.size, hl, hbk hkk3⟩
  · have hcmp : ¬ (0 : Int) < (xs.length : Int) := by omega
    obtain ⟨xo, xcap, rfl, _, _⟩ := own_slice hown.1
    go_wp2
    go_ret
    exact ⟨_, xs, rfl, hown.base hb1.size, hl, hbk hk2⟩

theorem equal_obj2 {W w : World} {L : List Obj} (H : Objs W w L) (i j : Nat) {v u : Value} {xs : List Itm} (h : L[i]? = some (itemsO v xs)) (h' : L[j]? = some (itemsO u xs)) :
    Calls Try.prog 70 #[v, u] w fun e w' => e = .returned (.bool true) ∧ Objs W w' L := by
  refine (equalItems_any v u xs xs w (H.items i h) (H.items j h')).mono ?_
  rintro e w' ⟨rfl, hb⟩
  exact ⟨by rw [decide_eq_true rfl], H.quiet hb⟩
theorem equalT_obj {W w : World} {L : List Obj} (H : Objs W w L) (i j : Nat) {v u : Value} {xs : List ByteArray} (h : L[i]? = some (textsO v xs)) (h' : L[j]? = some (textsO u xs)) :
    Calls Try.prog 74 #[v, u] w fun e w' => e = .returned (.bool true) ∧ Objs W w' L := by
  refine (equalTexts_any v u xs xs w (H.texts i h) (H.texts j h')).mono ?_
  rintro e w' ⟨rfl, hb⟩
  exact ⟨by rw [decide_eq_true rfl], H.quiet hb⟩

set_option maxHeartbeats 3200000 in
set_option maxRecDepth 100000 in
theorem FnElements_walk (v : Value) (bs : List Int) (w : World) (h : Bytes w v bs) :
    Calls Try.prog 24 #[v] w fun e w' => e = .returned (.bool true) ∧ Below w.heap.size w w' := by
  have h0 := h
  obtain ⟨ao, cap, rfl, hl, hc, hok, hcell⟩ := h0
  clear hcell hok
  go_enter Try.func24, Try.ntmps24
  by_cases hbig : (1048576 : Int) < (bs.length : Int)
  · go_wp2
    go_ret
    exact ⟨rfl, Below.refl _ _⟩
  go_wp2_with fail
  refine (DrawElements_any _ bs w h).mono ?_
  rintro e w1 ⟨v1, xs, rfl, hown, hlen, hb1⟩
  have H1 := (Objs.nil w).new (o := itemsO v1 xs) hown hb1
  clear hown hb1 h
  obtain ⟨G, hG⟩ : ∃ G, Hid (G = if (validI xs && decide ((elsI xs).length ≤ 40)) = true then elsI xs else []) := ⟨_, rfl⟩
  obtain ⟨K, hK⟩ : ∃ K, Hid (K = (validI xs && decide ((elsI xs).length ≤ 40))) := ⟨_, rfl⟩
  have cI := Lib.hid (fun (va : Value) (w : World) (h : Items w va xs) => (show Calls Try.prog 63 #[va] w (NewT2 G K w) by rw [hG.out, hK.out]; exact Elements_any va xs w h))
  have cS := Lib.hid (fun (va : Value) (w : World) (h : Items w va xs) => (show Calls Try.prog 62 #[va] w (NewT2 G K w) by rw [hG.out, hK.out]; exact sElements_any va xs w h))
  go_wp2_with fail
  refine (cI.out v1 w1 (H1.items 0 rfl)).mono ?_
  rintro e w2 ⟨v2, rfl, ho, hb⟩
  have H2 := H1.newT ho hb
  clear ho hb H1
  go_wp2_with fail
  refine (cS.out v1 w2 (H2.items 1 rfl)).mono ?_
  rintro e w3 ⟨v3, rfl, ho, hb⟩
  have H3 := H2.newT ho hb
  clear ho hb H2
  go_wp2_with fail
  refine (equalT_obj H3 1 0 rfl rfl).mono ?_
  rintro e w4 ⟨rfl, H4⟩
  clear H3
  cases K
  · go_wp2_with fail
    refine (equalT_obj H4 1 0 rfl rfl).mono ?_
    rintro e w5 ⟨rfl, H5⟩
    go_wp2
    go_ret
    exact ⟨rfl, H5.below⟩
  · have hk := hK.out.symm
    have hk2 := hk
    rw [Bool.and_eq_true, decide_eq_true_eq] at hk2
    have hG' : G = elsI xs := by rw [hG.out, hk, if_pos rfl]
    obtain ⟨Q, hQ⟩ : ∃ Q, Hid (Q = posI xs) := ⟨_, rfl⟩
    have c1 := Lib.hid (fun (va : Value) (w : World) (h : Texts w va G) => (show Calls Try.prog 35 #[va] w (NewI2 Q true w) by
      have h1 := CountTexts_any va G w h
      rw [hG', els_again hk2.1, valid_pos hk2.1, decide_eq_true hk2.2] at h1
      have e1 : chkI (posI xs) = Q := by unfold chkI; rw [valid_pos hk2.1, if_pos rfl, hQ.out]
      rw [e1] at h1
      simpa using h1))
    have c2 := Lib.hid (fun (va : Value) (w : World) (h : Items w va xs) => (show Calls Try.prog 53 #[va] w (NewI Q w) by
      have h1 := KeepCounts_any va xs w h
      rw [hk2.1, if_pos rfl, sumL_one hk2.1, ← hQ.out] at h1
      exact h1))
    clear hk hk2 hG'
    go_wp2_with fail
    refine (c1.out v2 _ (H4.texts 1 rfl)).mono ?_
    rintro e w5 ⟨v5, rfl, ho, hb⟩
    have H5 := H4.newI ho hb
    clear ho hb H4
    go_wp2_with fail
    refine (c2.out v1 _ (H5.items 3 rfl)).mono ?_
    rintro e w6 ⟨v6, rfl, ho, hb⟩
    have H6 := H5.newI ho hb
    clear ho hb H5
    go_wp2_with fail
    refine (equal_obj2 H6 1 0 rfl rfl).mono ?_
    rintro e w7 ⟨rfl, H7⟩
    go_wp2
    go_ret
    exact ⟨rfl, H7.below⟩

set_option maxRecDepth 100000 in
theorem FnElements_lifted (os : Os) (started : os.Started) (H : Type) (enc : TypeId × Value → H) :
    ReturnsInHanded {} Try.checked os 24 .any (Rows.fnElementsSpec.pre6 enc Try.prog Try.f24 Rows.fnElementsRow.domain false) (Rows.fnElementsSpec.post enc Try.prog Try.f24 false true false false) := by
  refine returnsInHanded_of_change (C := Try.checked) own started (by kernel_rfl) Try.func24
    (ChangeSpec.witness6 (enc := enc) (C := Try.checked) false ⟨#[], #[.slice none 0 0], []⟩ 8 (by kernel_rfl) (by kernel_rfl) (by kernel_rfl) (by kernel_rfl)) ?_
  intro W base args ds gs before hval0 hW _ _
  have hval : ∀ (j : Nat) t v, Try.f24.params[j]? = some t → args[j]? = some v → Value.okWide Try.prog W .any base t v := hval0
  have hW' := hW
  obtain ⟨p, q, hA0, hV, rfl, _, _⟩ := hW
  have hA : DataW.TrodAll enc Try.prog W 0 (fun _ => true) true Try.f24.params.toList args.toList ds p := hA0
  rw [Try.params24] at hA hval
  obtain ⟨v0, vs0, d0, ds0, p0, q0, hargs, rfl, rfl, h0, r0⟩ := trodAll_cons hA
  obtain ⟨rfl, rfl, rfl⟩ := trodAll_nil r0
  obtain rfl : args = #[v0] := by cases args; simp_all
  obtain ⟨rfl, rfl⟩ := trodVars_none hV
  obtain ⟨xs0, hI0⟩ := open_bytes (hval 0 _ v0 rfl rfl) h0
  refine (FnElements_walk v0 xs0 W hI0).mono fun e W' ⟨he, hb⟩ => ⟨_, he, ?_⟩
  exact law_end rfl (by rw [Try.params24]; decide +kernel) rfl hW' rfl rfl rfl hb

theorem FnElements_facts : joinedFacts Try.prog 24 Try.f24 Rows.fnElementsSpec Rows.fnElementsRow = true :=
  facts_of (by kernel_rfl) q2 q3 (by kernel_rfl) (by kernel_rfl) (by kernel_rfl) q7 (by kernel_rfl) q9 (by kernel_rfl) (by kernel_rfl) (by kernel_rfl) (by kernel_rfl) (by kernel_rfl) (by kernel_rfl) (by kernel_rfl) (by kernel_rfl) (by kernel_rfl) (by kernel_rfl) (by kernel_rfl) (by kernel_rfl) (by kernel_rfl)
    (by rw [q22]; kernel_rfl) (by kernel_rfl) q23 head_enter (by kernel_rfl) head_lifts head_make (by kernel_rfl) (by kernel_rfl) (by kernel_rfl) (by kernel_rfl) (by kernel_rfl)

theorem FnElements_holds : Rows.FnElementsSaid :=
  OpenClaim.holds_of_wide 24 Try.f24 rfl rfl rfl rfl rfl rfl rfl ⟨rfl, rfl, rfl, rfl, rfl⟩ rfl rfl rfl rfl rfl (by kernel_rfl) Try.func24 FnElements_facts
    (of_decide_eq_true (by kernel_rfl)) (by unfold Func.isWrapper; first | (rw [if_pos (by decide +kernel)]; kernel_rfl) | (rw [if_neg (by decide +kernel)]; exact ⟨rfl, rfl⟩))
    (fun os started H enc _ => FnElements_lifted os started H enc)
end Go.Proofs.Ytbiflkekhabpoaa
