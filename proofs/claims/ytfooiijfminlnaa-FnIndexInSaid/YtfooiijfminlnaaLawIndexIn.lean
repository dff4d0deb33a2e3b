/-
  FnIndexIn: true, for every code.
-/
import Derived.Test.YtfooiijfminlnaaLwN
import Derived.Test.YtfooiijfminlnaaOpenB
import Derived.Test.YtfooiijfminlnaaDqI
import Derived.Test.YtfooiijfminlnaaDqR
namespace Go.Proofs.Ytfooiijfminlnaa
open Go.RowKit
open Go.ChangeShapes Go.WideShapes Go.ChangeAt Go.Deep

set_option linter.unusedSimpArgs false in
set_option maxHeartbeats 1600000 in
theorem DrawIndexIn_any (v : Value) (bs : List Int) (w : World) (h : Bytes w v bs) :
    Calls Try.prog 49 #[v] w fun e w' => ∃ v' xs m x f t, e = .returned (.tuple #[.agg #[v', .int .i64 m], .int .i64 x, .int .i64 f, .int .i64 t]) ∧ OwnN w.heap.size w'.heap.size w' v' xs ∧ (xs.length ≤ 11 ∧ nearL xs ∧ -2 ≤ m ∧ m ≤ 11) ∧ ((-100 ≤ f ∧ f ≤ 100) ∧ (-100 ≤ t ∧ t ≤ 100)) ∧ Below w.heap.size w w' := by
  have hb0 : Below w.heap.size w (w.alloc (.cells #[.slice none 0 0, .int .i64 0] 25)) := (Below.refl _ _).alloc (Nat.le_refl _) _
  have HR := Lib.hid (heap_new w (.cells #[.slice none 0 0, .int .i64 0] 25))
  go_enter Try.func49, Try.ntmps49
  go_wp2_with fail
  refine (newReader_any v bs _ (h.below hb0)).mono ?_
  rintro e w1 ⟨r, rfl, hr, hR1, hb1⟩
  have hs1 := hb1.size
  simp at hs1 hb1 hr
  go_wp2_with fail
  refine (someDeque_any r 0 w1 hR1 (by omega)).mono ?_
  rintro e w2 ⟨v2, xs, m, rfl, hb, hown, hR2, hk2⟩
  obtain ⟨xo, xcap, rfl, _, _⟩ := hown.nums.slice
  have hlt := hR1.lt
  have hs2 := hk2.size
  go_wp2_with fail
  refine (aNumber_any r _ w2 hR2 (by omega)).mono ?_
  rintro e w3 ⟨x, hx, rfl, hR3, hk3⟩
  have hk23 := RK.trans hk2 hk3
  have hs3 := hk3.size
  have hown3 := hown.keeps (hk3.mono fun j hj => ⟨hj.2, by have := hj.1; omega⟩)
  go_wp2_with fail
  refine (one_lit r _ [0, 1, -2, 2, 20] w3 hR3 (by omega) (by decide) (by decide) rfl rfl).mono ?_
  rintro e w4 ⟨f, hf, rfl, hR4, hk4⟩
  have hf2 : -100 ≤ f ∧ f ≤ 100 := by simp at hf; omega
  have hk24 := RK.trans hk23 hk4
  have hs4 := hk4.size
  have hown4 := hown3.keeps (hk4.mono fun j hj => ⟨Nat.lt_of_lt_of_le hj.2 hs3, by have := hj.1; omega⟩)
  go_wp2_with fail
  refine (one_lit r _ [10, 3, -1, 2, 0, 20, -20] w4 hR4 (by omega) (by decide) (by decide) rfl rfl).mono ?_
  rintro e w5 ⟨t, ht, rfl, hR5, hk5⟩
  have ht2 : -100 ≤ t ∧ t ≤ 100 := by simp at ht; omega
  have hk25 := RK.trans hk24 hk5
  have hs5 := hk5.size
  have hown5 := hown4.keeps (hk5.mono fun j hj => ⟨by have := hj.2; omega, by have := hj.1; omega⟩)
  have R2 := (hk25.block _ ⟨by omega, by omega⟩).trans ((hb1.block _ (by omega)).trans HR.out)
  have HBB : Hid (Below w.heap.size w w5) := (hb0.trans (hb1.mono (by omega))).trans (Keeps.below hk25 (fun k hk => ⟨by omega, by omega⟩))
  have HO := Lib.hid hown5
  have s0 := two_cell0 R2
  have s1 := two_cell1 R2
  have t0 := two_free R2
  clear R2 hk25 hk24 hk23 hk5 hk4 hk3 hk2 hown5 hown4 hown3 hown hb1 hR1 hf ht
  go_wp2
  exact bodyPost_ret (v := .tuple #[.agg #[.slice xo xs.length xcap, .int .i64 m], .int .i64 x, .int .i64 f, .int .i64 t]) (by simp [results, Try.results49, go_sem, s0, s1]) rfl ⟨_, _, _, _, _, _, rfl, (HO.out.keeps (((Keeps.refl _ _).setCell (by simp [In]; omega) _).setCell (by simp [In]; omega) _)).wide (by omega) (by simp <;> omega), hb, ⟨hf2, ht2⟩, (HBB.out.setCell (by simp) _).setCell (by simp) _⟩

theorem scan_spec (xs : List Int) (x : Int) (j : Nat) : ∀ (n i : Nat), j - i ≤ n →
    (scanN xs x j i = -1 ∧ ∀ k, i ≤ k → k < j → xs.getD k 0 ≠ x) ∨ (∃ k : Nat, scanN xs x j i = (k : Int) ∧ i ≤ k ∧ k < j ∧ xs.getD k 0 = x ∧ ∀ l, i ≤ l → l < k → xs.getD l 0 ≠ x) := by
  intro n
  induction n with
  | zero =>
    intro i h
    exact .inl ⟨scan_end (by omega), fun k h1 h2 => by omega⟩
  | succ n ih =>
    intro i h
    by_cases hlt : i < j
    · rw [scanN, if_pos hlt]
      by_cases hx : xs.getD i 0 = x
      · rw [if_pos hx]
        exact .inr ⟨i, rfl, Nat.le_refl _, hlt, hx, fun l h1 h2 => by omega⟩
      · rw [if_neg hx]
        rcases ih (i + 1) (by omega) with ⟨e, hn⟩ | ⟨k, e, h1, h2, h3, h4⟩
        · refine .inl ⟨e, fun k hk hkj => ?_⟩
          by_cases hki : k = i
          · rw [hki]; exact hx
          · exact hn k (by omega) hkj
        · refine .inr ⟨k, e, by omega, h2, h3, fun l hl hlk => ?_⟩
          by_cases hli : l = i
          · rw [hli]; exact hx
          · exact h4 l (by omega) hlk
    · exact .inl ⟨scan_end hlt, fun k h1 h2 => by omega⟩
theorem clp_zero (n : Nat) : (clp 0 (n : Int)).toNat = 0 := by
  unfold clp
  rw [if_neg (by omega)]
  split <;> omega
theorem clp_all (n : Nat) : (clp (n : Int) (n : Int)).toNat = n := by
  unfold clp
  rw [if_neg (by omega), if_neg (by omega)]
  omega
theorem clp_in {j n : Nat} (h : j < n) : (clp (j : Int) (n : Int)).toNat = j := by
  unfold clp
  rw [if_neg (by omega), if_pos (by omega)]
  omega
theorem getD_at {xs : List Int} {k : Nat} (hk : k < xs.length) : xs.getD k 0 = xs[k] := by simp [hk]
theorem ix_cases {xs : List Int} {m : Int} (h : validD xs m = true) (x f t : Int) :
    (idxD xs m x 0 xs.length = -1 ∧ cntD xs m x = 0 ∧ idxD xs m x f t = -1) ∨
    (0 ≤ idxD xs m x 0 xs.length ∧ 0 < cntD xs m x ∧ idxD xs m x f t = -1) ∨
    (∃ (j : Nat) (hj : j < xs.length), idxD xs m x f t = (j : Int) ∧ xs[j] = x ∧ 0 ≤ idxD xs m x 0 xs.length ∧ idxD xs m x 0 xs.length ≤ (j : Int) ∧ 0 < cntD xs m x ∧ idxD xs m x f (j : Int) = -1) := by
  have hT := (clp_bd (k := t) (n := (xs.length : Int)) (by omega)).2
  unfold idxD cntD
  rw [h, if_pos rfl, if_pos rfl, if_pos rfl, clp_zero, clp_all]
  obtain ⟨F, hF⟩ : ∃ F, F = (clp f (xs.length : Int)).toNat := ⟨_, rfl⟩
  obtain ⟨T, hTe⟩ : ∃ T, T = (clp t (xs.length : Int)).toNat := ⟨_, rfl⟩
  have hTl : T ≤ xs.length := by omega
  rw [← hF, ← hTe]
  unfold cntN
  have hW := scan_spec xs x xs.length _ 0 (Nat.le_refl _)
  have hO := scan_spec xs x T _ F (Nat.le_refl _)
  have pos : ∀ k, k < xs.length → xs.getD k 0 = x → 0 < xs.count x := fun k hk e => by
    rw [getD_at hk] at e
    exact List.count_pos_iff.2 (e ▸ List.getElem_mem hk)
  rcases hW with ⟨eW, hn⟩ | ⟨kw, eW, hw1, hw2, hw3, hw4⟩
  · have hc : xs.count x = 0 := by
      rw [List.count_eq_zero]
      intro hm
      obtain ⟨k, hk, e⟩ := List.getElem_of_mem hm
      exact hn k (by omega) hk (by rw [getD_at hk]; exact e)
    rcases hO with ⟨eO, _⟩ | ⟨ko, eO, ho1, ho2, ho3, _⟩
    · exact .inl ⟨eW, by rw [hc]; rfl, eO⟩
    · exact absurd ho3 (hn ko (by omega) (by omega))
  · have hc := pos kw hw2 hw3
    rcases hO with ⟨eO, _⟩ | ⟨ko, eO, ho1, ho2, ho3, ho4⟩
    · exact .inr (.inl ⟨by rw [eW]; omega, by omega, eO⟩)
    · have hkl : ko < xs.length := by omega
      refine .inr (.inr ⟨ko, hkl, eO, by rw [← getD_at hkl]; exact ho3, by rw [eW]; omega, ?_, by omega, ?_⟩)
      · rw [eW]
        by_cases hlt : ko < kw
        · exact absurd ho3 (hw4 ko (by omega) hlt)
        · omega
      · rw [if_pos rfl, clp_in hkl]
        rcases scan_spec xs x ko _ F (Nat.le_refl _) with ⟨e, _⟩ | ⟨l, _, hl1, hl2, hl3, _⟩
        · exact e
        · exact absurd hl3 (ho4 l hl1 hl2)

set_option maxHeartbeats 3200000 in
set_option maxRecDepth 100000 in
theorem FnIndexIn_walk (v : Value) (bs : List Int) (w : World) (h : Bytes w v bs) :
    Calls Try.prog 14 #[v] w fun e w' => e = .returned (.bool true) ∧ Below w.heap.size w w' := by
  have h0 := h
  obtain ⟨ao, cap, rfl, hl, hc, hok, hcell⟩ := h0
  clear hcell hok
  go_enter Try.func14, Try.ntmps14
  by_cases hbig : (1048576 : Int) < (bs.length : Int)
  · go_wp2
    go_ret
    exact ⟨rfl, Below.refl _ _⟩
  go_wp2_with fail
  refine (DrawIndexIn_any _ bs w h).mono ?_
  rintro e w1 ⟨vd, xs, m, x, f, t, rfl, ho, hb, hft, hbl⟩
  have H1 := (Things.nil w).new (t := numT w.heap.size w1.heap.size vd xs) (Nat.le_refl _) (Nat.le_refl _) ho hbl
  obtain ⟨dp, dc, rfl, hdc, hdm⟩ := (H1.nums 0 rfl).slice
  have HB1 := H1.boxed 25 [.slice dp xs.length dc, .int .i64 m]
  obtain ⟨d0, d1⟩ := HB1.box2 0 rfl
  obtain ⟨O, hO⟩ : ∃ O, Hid (O = idxD xs m x f t) := ⟨_, rfl⟩
  have cI := Lib.hid (fun (v : Value) (w : World) (h : Nums w v xs) => (show Calls Try.prog 47 #[.agg #[v, .int .i64 m], .int .i64 x, .int .i64 f, .int .i64 t] w (RetN (.int .i64 O) w) by rw [hO.out]; exact IndexIn_any v xs m x f t w h (by omega) (by omega)))
  have cS := Lib.hid (fun (v : Value) (w : World) (h : Nums w v xs) => (show Calls Try.prog 50 #[.agg #[v, .int .i64 m], .int .i64 x, .int .i64 f, .int .i64 t] w (RetN (.int .i64 O) w) by rw [hO.out]; exact sIndexIn_any v xs m x f t w h (by omega) (by omega)))
  clear ho hbl H1 h
  go_wp2_with fail
  refine (cI.out _ _ (HB1.nums 1 rfl)).mono ?_
  rintro e w2 ⟨rfl, hbl⟩
  have H2 := HB1.quiet hbl
  clear HB1 hbl d0 d1
  obtain ⟨d0, d1⟩ := H2.box2 0 rfl
  go_wp2_with fail
  refine (cS.out _ _ (H2.nums 1 rfl)).mono ?_
  rintro e w3 ⟨rfl, hbl⟩
  have H3 := H2.quiet hbl
  clear H2 hbl d0 d1
  obtain ⟨d0, d1⟩ := H3.box2 0 rfl
  cases hv : validD xs m
  all_goals
    have HV := Lib.hid hv
    clear hv
    go_wp2_with fail
    refine (VD_v _ (H3.nums 1 rfl) HV.out).mono ?_
    rintro e w4 ⟨rfl, hbl⟩
    have H4 := H3.quiet hbl
    clear H3 hbl d0 d1
    obtain ⟨d0, d1⟩ := H4.box2 0 rfl
  · go_wp2_with fail
    refine (cS.out _ _ (H4.nums 1 rfl)).mono ?_
    rintro e w5 ⟨rfl, hbl⟩
    have H5 := H4.quiet hbl
    go_wp2
    go_ret
    exact ⟨rfl, H5.below⟩
  · have hlen : xs.length ≤ 10 := validD_len HV.out
    obtain ⟨W, hW⟩ : ∃ W, W = idxD xs m x 0 xs.length := ⟨_, rfl⟩
    obtain ⟨C, hC⟩ : ∃ C, C = cntD xs m x := ⟨_, rfl⟩
    have c3 := Lib.hid (fun (v : Value) (w : World) (h : Nums w v xs) => (show Calls Try.prog 47 #[.agg #[v, .int .i64 m], .int .i64 x, .int .i64 0, .int .i64 xs.length] w (RetN (.int .i64 W) w) by rw [hW]; exact IndexIn_any v xs m x 0 xs.length w h (by omega) (by omega)))
    have c4 := Lib.hid (fun (v : Value) (w : World) (h : Nums w v xs) => (show Calls Try.prog 48 #[.agg #[v, .int .i64 m], .int .i64 x] w (RetN (.int .i64 C) w) by rw [hC]; exact CountIn_any v xs m x w h))
    have hcs := ix_cases HV.out x f t
    rw [← hO.out, ← hW, ← hC] at hcs
    have hf := hft.1
    clear cI cS hO hW hC hft HV
    go_wp2_with fail
    refine (c3.out _ _ (H4.nums 1 rfl)).mono ?_
    rintro e w5 ⟨rfl, hbl⟩
    have H5 := H4.quiet hbl
    clear H4 hbl d0 d1 c3
    obtain ⟨d0, d1⟩ := H5.box2 0 rfl
    go_wp2_with fail
    refine (c4.out _ _ (H5.nums 1 rfl)).mono ?_
    rintro e w6 ⟨rfl, hbl⟩
    have H6 := H5.quiet hbl
    clear H5 hbl d0 d1 c4
    obtain ⟨d0, d1⟩ := H6.box2 0 rfl
    rcases hcs with ⟨rfl, rfl, rfl⟩ | ⟨hw, hcc, rfl⟩ | ⟨j, hj, rfl, hxj, hw, hwj, hcc, hlast⟩
    · go_wp2
      go_ret
      exact ⟨rfl, H6.below⟩
    · have hwd : decide (W < 0) = false := decide_eq_false (by omega)
      have hcb : (C == 0) = false := by rw [beq_eq_false_iff_ne]; omega
      go_wp2
      go_ret
      exact ⟨rfl, H6.below⟩
    · have hwd : decide (W < 0) = false := decide_eq_false (by omega)
      have hcb : (C == 0) = false := by rw [beq_eq_false_iff_ne]; omega
      have c5 := Lib.hid (fun (v : Value) (w : World) (h : Nums w v xs) => (show Calls Try.prog 47 #[.agg #[v, .int .i64 m], .int .i64 x, .int .i64 f, .int .i64 (j : Int)] w (RetN (.int .i64 (-1)) w) by rw [← hlast]; exact IndexIn_any v xs m x f (j : Int) w h (by omega) (by omega)))
      obtain ⟨ap, acp, ee, _, _, _, hcell⟩ := H6.nums 1 rfl
      simp only [Value.slice.injEq] at ee
      obtain ⟨rfl, -, -⟩ := ee
      obtain ⟨b, o, rfl, hbb, hcx⟩ := hcell j hj
      rw [hxj] at hcx
      clear hcell hlast hxj
      go_wp2_with fail
      refine (c5.out _ _ (H6.nums 1 rfl)).mono ?_
      rintro e w7 ⟨rfl, hbl⟩
      have H7 := H6.quiet hbl
      go_wp2
      go_ret
      exact ⟨rfl, H7.below⟩

set_option maxRecDepth 100000 in
theorem FnIndexIn_lifted (os : Os) (started : os.Started) (H : Type) (enc : TypeId × Value → H) :
    ReturnsInHanded {} Try.checked os 14 .any (Rows.fnIndexInSpec.pre6 enc Try.prog Try.f14 Rows.fnIndexInRow.domain false) (Rows.fnIndexInSpec.post enc Try.prog Try.f14 false true false false) := by
  refine returnsInHanded_of_change (C := Try.checked) own started (by kernel_rfl) Try.func14
    (ChangeSpec.witness6 (enc := enc) (C := Try.checked) false ⟨#[], #[.slice none 0 0], []⟩ 8 (by kernel_rfl) (by kernel_rfl) (by kernel_rfl) (by kernel_rfl)) ?_
  intro W base args ds gs before hval0 hW _ _
  have hval : ∀ (j : Nat) t v, Try.f14.params[j]? = some t → args[j]? = some v → Value.okWide Try.prog W .any base t v := hval0
  have hW' := hW
  obtain ⟨p, q, hA0, hV, rfl, _, _⟩ := hW
  have hA : DataW.TrodAll enc Try.prog W 0 (fun _ => true) true Try.f14.params.toList args.toList ds p := hA0
  rw [Try.params14] at hA hval
  obtain ⟨v0, vs0, d0, ds0, p0, q0, hargs, rfl, rfl, h0, r0⟩ := trodAll_cons hA
  obtain ⟨rfl, rfl, rfl⟩ := trodAll_nil r0
  obtain rfl : args = #[v0] := by cases args; simp_all
  obtain ⟨rfl, rfl⟩ := trodVars_none hV
  obtain ⟨xs0, hI0⟩ := open_bytes (hval 0 _ v0 rfl rfl) h0
  refine (FnIndexIn_walk v0 xs0 W hI0).mono fun e W' ⟨he, hb⟩ => ⟨_, he, ?_⟩
  exact law_end rfl (by rw [Try.params14]; decide +kernel) rfl hW' rfl rfl rfl hb

theorem FnIndexIn_facts : joinedFacts Try.prog 14 Try.f14 Rows.fnIndexInSpec Rows.fnIndexInRow = true :=
  facts_of (by kernel_rfl) q2 q3 (by kernel_rfl) (by kernel_rfl) (by kernel_rfl) q7 (by kernel_rfl) q9 (by kernel_rfl) (by kernel_rfl) (by kernel_rfl) (by kernel_rfl) (by kernel_rfl) (by kernel_rfl) (by kernel_rfl) (by kernel_rfl) (by kernel_rfl) (by kernel_rfl) (by kernel_rfl) (by kernel_rfl) (by kernel_rfl)
    (by rw [q22]; kernel_rfl) (by kernel_rfl) q23 head_enter (by kernel_rfl) head_lifts head_make (by kernel_rfl) (by kernel_rfl) (by kernel_rfl) (by kernel_rfl) (by kernel_rfl)

theorem FnIndexIn_holds : Rows.FnIndexInSaid :=
  OpenClaim.holds_of_wide 14 Try.f14 rfl rfl rfl rfl rfl rfl rfl ⟨rfl, rfl, rfl, rfl, rfl⟩ rfl rfl rfl rfl rfl (by kernel_rfl) Try.func14 FnIndexIn_facts
    (of_decide_eq_true (by kernel_rfl)) (by unfold Func.isWrapper; first | (rw [if_pos (by decide +kernel)]; kernel_rfl) | (rw [if_neg (by decide +kernel)]; exact ⟨rfl, rfl⟩))
    (fun os started H enc _ => FnIndexIn_lifted os started H enc)
end Go.Proofs.Ytfooiijfminlnaa
