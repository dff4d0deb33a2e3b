/-
  FnWindowSums: true, for every code.
-/
import Derived.Test.YtoglgeinnocfjaaF11
import Derived.Test.YtoglgeinnocfjaaF13
import Derived.Test.YtoglgeinnocfjaaF16
import Derived.Test.YtoglgeinnocfjaaF17
namespace Go.Proofs.Ytoglgeinnocfjaa
open Go.RowKit
open Go.ChangeShapes Go.WideShapes Go.ChangeAt Go.Deep

theorem winS_head {xs : List Int} {p : Nat} (hp : p < xs.length) (r : Nat) : winS xs p (r + 1) = xs[p] + winS xs (p + 1) r := by
  unfold winS
  rw [List.drop_eq_getElem_cons hp, List.take_succ_cons, List.sum_cons]
theorem win_step {xs : List Int} {p q : Nat} (h : p + q < xs.length) : winS xs (p + 1) q - winS xs p q = xs[p + q] - xs[p]'(by omega) := by
  have h1 := winS_head (xs := xs) (p := p) (by omega) q
  rw [winS_succ h] at h1
  omega
theorem winL_get (xs : List Int) (k n p : Nat) (h : p < (winL xs k n).length) : (winL xs k n)[p] = winS xs p k := by simp [winL]
theorem win_one {xs : List Int} : wsL xs 1 = xs := by
  show winL xs 1 (xs.length + 1 - 1) = xs
  refine List.ext_getElem (by rw [winL_length]; omega) fun p h1 h2 => ?_
  rw [winL_get, winS_succ (show p + 0 < xs.length by omega), winS_zero]
  simp
theorem sum_bd {xs : List Int} (h : allN xs = true) {j : Nat} (hj : j ≤ xs.length) (h10 : xs.length ≤ 10) : -99990 ≤ (xs.take j).sum ∧ (xs.take j).sum ≤ 99990 := by
  have h1 := winS_bd h 0 j (by omega)
  unfold winS at h1
  rw [List.drop_zero] at h1
  omega
theorem sum_step {xs : List Int} {j : Nat} (hj : j < xs.length) : (xs.take (j + 1)).sum = (xs.take j).sum + xs[j] := by
  rw [List.take_succ_eq_append_getElem hj, List.sum_append]
  simp

set_option maxHeartbeats 800000 in
set_option maxRecDepth 100000 in
theorem sumN_any (v : Value) (xs : List Int) (w : World) (h : Nums w v xs) (ha : allN xs = true) (hl : xs.length ≤ 10) :
    Calls Try.prog 40 #[v] w (RetN (.int .i64 xs.sum) w) := by
  obtain ⟨ao, cap, rfl, hlc, hcm, hok, hcell⟩ := h
  have HA := Lib.hid ha
  clear ha hok
  go_enter Try.func40, Try.ntmps40
  go_wp2
  go_loopw [3, 4] (fun n i wr => ∃ (k : Nat) (e : Int), i = .int .i64 k ∧ n = .int .i64 e ∧ k ≤ xs.length ∧ Hid (e = (xs.take k).sum) ∧ wr = w) (fun _ i _ => xs.length - (intOf i).toNat)
  case atStart => exact ⟨0, 0, rfl, rfl, Nat.zero_le _, by unfold Hid; simp, rfl⟩
  case round =>
    obtain ⟨k, e, rfl, rfl, hk, HE, rfl⟩ := hrel
    by_cases hlt : k < xs.length
    · obtain ⟨b, o, rfl, hb, c0⟩ := hcell k hlt
      have hki : (0 : Int) ≤ (k : Int) := by omega
      have hkl : (k : Int) < (xs.length : Int) := by omega
      obtain ⟨y, hy⟩ : ∃ y, Hid (y = xs[k]) := ⟨_, Lib.hid rfl⟩
      rw [← hy.out] at c0
      have HE2 : Hid (e + y = (xs.take (k + 1)).sum) := by unfold Hid; rw [sum_step hlt, HE.out, hy.out]
      have hwr : IntKind.i64.wrap (e + y) = e + y := by have h1 := sum_bd HA.out (show k + 1 ≤ xs.length by omega) hl; rw [← HE2.out] at h1; exact IntWalk.i64_in _ (by omega)
      clear hy
      go_wp2
      go_roundw
      case rel => exact ⟨k + 1, e + y, by go_num, rfl, by omega, HE2, trivial⟩
      case measure => simp [intOf]; omega
    · obtain rfl : k = xs.length := by omega
      obtain rfl : e = xs.sum := by rw [HE.out, List.take_length]
      go_wp2
      go_ret
      exact ⟨rfl, Below.refl _ _⟩

set_option linter.unusedSimpArgs false in
set_option maxHeartbeats 800000 in
set_option maxRecDepth 100000 in
theorem DrawWindowSums_any (v : Value) (bs : List Int) (w : World) (h : Bytes w v bs) :
    Calls Try.prog 36 #[v] w fun e w' => ∃ v' xs m x, e = .returned (.tuple #[.agg #[v', .int .i64 m], .int .i64 x]) ∧ OwnN w.heap.size w'.heap.size w' v' xs ∧ (xs.length ≤ 11 ∧ nearL xs ∧ -2 ≤ m ∧ m ≤ 11) ∧ (0 ≤ x ∧ x ≤ 11) ∧ Below w.heap.size w w' := by
  have hb0 : Below w.heap.size w (w.alloc (.cells #[.slice none 0 0, .int .i64 0] 25)) := (Below.refl _ _).alloc (Nat.le_refl _) _
  have HR := Lib.hid (heap_new w (.cells #[.slice none 0 0, .int .i64 0] 25))
  go_enter Try.func36, Try.ntmps36
  go_wp2_with fail
  refine (newReader_any v bs _ (h.below hb0)).mono ?_
  rintro e w1 ⟨r, rfl, hr, hR1, hb1⟩
  have hs1 := hb1.size
  simp at hs1 hb1 hr
  go_wp2_with fail
  refine (someDeque_any r 0 w1 hR1 (by omega)).mono ?_
  rintro e w2 ⟨v2, xs, m, rfl, hb, hown, hR2, hk2⟩
  obtain ⟨xo, xcap, rfl, _, _⟩ := hown.nums.slice
  have hlt := hR1.lt
  have hs2 := hk2.size
  go_wp2_with fail
  refine (one_lit r _ [2, 1, 3, 10, 0, 11] w2 hR2 (by omega) (by decide) (by decide) rfl rfl).mono ?_
  rintro e w3 ⟨x, hx, rfl, hR3, hk3⟩
  have hx2 : 0 ≤ x ∧ x ≤ 11 := by simp at hx; omega
  clear hx
  have hown3 := hown.keeps (hk3.mono fun j hj => ⟨hj.2, by have := hj.1; omega⟩)
  have hk23 := RK.trans hk2 hk3
  have hs3 := hk3.size
  have R2 := (hk23.block _ ⟨by omega, by omega⟩).trans ((hb1.block _ (by omega)).trans HR.out)
  have HBB : Hid (Below w.heap.size w w3) := (hb0.trans (hb1.mono (by omega))).trans (Keeps.below hk23 (fun k hk => ⟨by omega, by omega⟩))
  have HO := Lib.hid hown3
  have s0 := two_cell0 R2
  have s1 := two_cell1 R2
  have t0 := two_free R2
  clear R2 hk23 hown3 hb1 hR1
  go_wp2
  exact bodyPost_ret (v := .tuple #[.agg #[.slice xo xs.length xcap, .int .i64 m], .int .i64 x]) (by simp [results, Try.results36, go_sem, s0, s1]) rfl ⟨_, _, _, _, rfl, (HO.out.keeps (((Keeps.refl _ _).setCell (by simp [In]; omega) _).setCell (by simp [In]; omega) _)).wide (by omega) (by simp <;> omega), hb, hx2, (HBB.out.setCell (by simp) _).setCell (by simp) _⟩

set_option maxHeartbeats 4000000 in
set_option maxRecDepth 100000 in
theorem FnWindowSums_walk (v : Value) (bs : List Int) (w : World) (h : Bytes w v bs) :
    Calls Try.prog 8 #[v] w fun e w' => e = .returned (.bool true) ∧ Below w.heap.size w w' := by
  have h0 := h
  obtain ⟨ao, cap, rfl, hl, hc, hok, hcell⟩ := h0
  clear hcell hok
  go_enter Try.func8, Try.ntmps8
  by_cases hbig : (1048576 : Int) < (bs.length : Int)
  · go_wp2
    go_ret
    exact ⟨rfl, Below.refl _ _⟩
  go_wp2_with fail
  refine (DrawWindowSums_any _ bs w h).mono ?_
  rintro e w1 ⟨vd, xs, m, k, rfl, ho, hbnd, hkb, hbl⟩
  have H1 := (Things.nil w).new (t := numT w.heap.size w1.heap.size vd xs) (Nat.le_refl _) (Nat.le_refl _) ho hbl
  obtain ⟨dp, dc, rfl, hdc, hdm⟩ := (H1.nums 0 rfl).slice
  have H2 := H1.boxed 25 [.slice dp xs.length dc, .int .i64 m]
  clear ho hbl H1 h
  obtain ⟨X, hX⟩ : ∃ X, Hid (X = ifN (wsB xs m k) (wsL xs k)) := ⟨_, Lib.hid rfl⟩
  obtain ⟨V, hV⟩ : ∃ V, Hid (V = validD xs m) := ⟨_, Lib.hid rfl⟩
  have cI := Lib.hid (fun (v0 : Value) (w : World) (h0 : Nums w v0 xs) => (show Calls Try.prog 37 #[.agg #[v0, .int .i64 m], .int .i64 k] w (NewN (fun v => v) X w) by rw [hX.out]; exact WindowSums_any v0 xs m k w h0 (by omega)))
  have cS := Lib.hid (fun (v0 : Value) (w : World) (h0 : Nums w v0 xs) => (show Calls Try.prog 38 #[.agg #[v0, .int .i64 m], .int .i64 k] w (NewN (fun v => v) X w) by rw [hX.out]; exact sWindowSums_any v0 xs m k w h0 (by omega)))
  have cV := Lib.hid (fun (v0 : Value) (w : World) (h0 : Nums w v0 xs) => (show Calls Try.prog 39 #[.agg #[v0, .int .i64 m]] w (RetN (.bool V) w) by exact VD_v w h0 hV.out.symm))
  have c1 := Lib.hid (fun (v0 : Value) (w : World) (h0 : Nums w v0 xs) => (show Calls Try.prog 37 #[.agg #[v0, .int .i64 m], .int .i64 1] w (NewN (fun v => v) (ifN (wsB xs m 1) (wsL xs 1)) w) by exact WindowSums_any v0 xs m 1 w h0 (by omega)))
  obtain ⟨d0_, d1_⟩ := H2.box2 0 rfl
  go_wp2_with fail
  refine (cI.out _ _ (H2.nums 1 rfl)).mono ?_
  rintro e w3 ⟨vo, rfl, ho, hbl⟩
  have H3 := H2.newN ho hbl
  clear d0_ d1_
  clear H2 ho hbl
  obtain ⟨op, oc, rfl, hoc, hom⟩ := (H3.nums 0 rfl).slice
  obtain ⟨d0_, d1_⟩ := H3.box2 1 rfl
  go_wp2_with fail
  refine (cS.out _ _ (H3.nums 2 rfl)).mono ?_
  rintro e w4 ⟨vw, rfl, ho, hbl⟩
  have H4 := H3.newN ho hbl
  clear d0_ d1_
  clear H3 ho hbl
  go_wp2_with fail
  refine (equalInts_any _ _ X X _ (H4.nums 1 rfl) (H4.nums 0 rfl)).mono ?_
  rw [decide_eq_true rfl]
  rintro e w5 ⟨rfl, hb⟩
  have H5 := H4.quiet hb
  clear hb H4
  obtain ⟨d0_, d1_⟩ := H5.box2 2 rfl
  go_wp2_with fail
  refine (cV.out _ _ (H5.nums 3 rfl)).mono ?_
  rintro e w6 ⟨rfl, hb⟩
  have H6 := H5.quiet hb
  clear d0_ d1_
  clear hb H5
  clear cV
  cases V
  · skip
    obtain ⟨d0_, d1_⟩ := H6.box2 2 rfl
    go_wp2_with fail
    refine (cS.out _ _ (H6.nums 3 rfl)).mono ?_
    rintro e w7 ⟨vz, rfl, ho, hbl⟩
    have H7 := H6.newN ho hbl
    clear d0_ d1_
    clear H6 ho hbl
    go_wp2_with fail
    refine (equalInts_any _ _ X X _ (H7.nums 2 rfl) (H7.nums 0 rfl)).mono ?_
    rw [decide_eq_true rfl]
    rintro e w8 ⟨rfl, hb⟩
    have H8 := H7.quiet hb
    clear hb H7
    go_wp2
    go_ret
    exact ⟨rfl, H8.below⟩
  · by_cases hk1 : k < 1
    · skip
      obtain ⟨d0_, d1_⟩ := H6.box2 2 rfl
      go_wp2_with fail
      refine (cS.out _ _ (H6.nums 3 rfl)).mono ?_
      rintro e w7 ⟨vz, rfl, ho, hbl⟩
      have H7 := H6.newN ho hbl
      clear d0_ d1_
      clear H6 ho hbl
      go_wp2_with fail
      refine (equalInts_any _ _ X X _ (H7.nums 2 rfl) (H7.nums 0 rfl)).mono ?_
      rw [decide_eq_true rfl]
      rintro e w8 ⟨rfl, hb⟩
      have H8 := H7.quiet hb
      clear hb H7
      go_wp2
      go_ret
      exact ⟨rfl, H8.below⟩
    · by_cases hk2 : 10 < k
      · skip
        obtain ⟨d0_, d1_⟩ := H6.box2 2 rfl
        go_wp2_with fail
        refine (cS.out _ _ (H6.nums 3 rfl)).mono ?_
        rintro e w7 ⟨vz, rfl, ho, hbl⟩
        have H7 := H6.newN ho hbl
        clear d0_ d1_
        clear H6 ho hbl
        go_wp2_with fail
        refine (equalInts_any _ _ X X _ (H7.nums 2 rfl) (H7.nums 0 rfl)).mono ?_
        rw [decide_eq_true rfl]
        rintro e w8 ⟨rfl, hb⟩
        have H8 := H7.quiet hb
        clear hb H7
        go_wp2
        go_ret
        exact ⟨rfl, H8.below⟩
      · have hv := hV.out.symm
        obtain ⟨q, hq⟩ : ∃ q : Nat, k = (q : Int) := Int.eq_ofNat_of_zero_le (by omega)
        have HQ := Lib.hid hq
        have hq1 : 1 ≤ q := by omega
        have hq10 : q ≤ 10 := by omega
        have hall := validD_all hv
        have hx10 := validD_len hv
        have hXe : X = winL xs q (xs.length + 1 - q) := by
          rw [hX.out, show wsB xs m k = true by unfold wsB; rw [hv, decide_eq_true (by omega), decide_eq_true (by omega)]; rfl]
          show wsL xs k = _
          unfold wsL
          rw [hq, Int.toNat_natCast]
        have hXl : X.length = xs.length + 1 - q := by rw [hXe, winL_length]
        have hone : ifN (wsB xs m 1) (wsL xs 1) = xs := by rw [show wsB xs m 1 = true by unfold wsB; rw [hv]; rfl]; exact win_one
        rw [hone] at c1
        have HSt : Hid (∀ j, j + 1 < X.length → ∃ (h1 : j + 1 < X.length) (h2 : j < X.length) (h3 : j + q < xs.length) (h4 : j < xs.length), X[j + 1] - X[j] = xs[j + q] - xs[j] ∧ (-99990 ≤ X[j + 1] ∧ X[j + 1] ≤ 99990) ∧ (-99990 ≤ X[j] ∧ X[j] ≤ 99990) ∧ (-9999 ≤ xs[j + q] ∧ xs[j + q] ≤ 9999) ∧ (-9999 ≤ xs[j] ∧ xs[j] ≤ 9999)) := fun j hj => by
          have a1 : j + q < xs.length := by omega
          refine ⟨hj, by omega, a1, by omega, ?_, ?_, ?_, allN_iff.1 hall _ (List.getElem_mem _), allN_iff.1 hall _ (List.getElem_mem _)⟩
          · simp only [hXe, winL_get]; exact win_step a1
          · simp only [hXe, winL_get]; have := winS_bd hall (j + 1) q (by omega); omega
          · simp only [hXe, winL_get]; have := winS_bd hall j q (by omega); omega
        have HZr : Hid (∀ h : 0 < X.length, X[0] = (xs.take q).sum) := fun h => by simp only [hXe, winL_get]; unfold winS; rw [List.drop_zero]
        have HXl := Lib.hid hXl
        have hqx : Hid (0 < X.length → q ≤ xs.length) := fun h => by omega
        have HAl : Hid (allN (xs.take q) = true ∧ (xs.take q).length ≤ 10) := ⟨allN_iff.2 fun z hz => allN_iff.1 hall z (List.mem_of_mem_take hz), by rw [List.length_take]; omega⟩
        clear hq hX hV hv hall hXe hXl hone hbnd hkb cI cS
        go_wp2
        go_loopw [6] (fun i wr => ∃ (i0 j : Nat), i = .int .i64 i0 ∧ i0 = j + 1 ∧ (i0 ≤ X.length ∨ i0 = 1) ∧ Below w6.heap.size w6 wr) (fun i _ => X.length - (intOf i).toNat)
        case atStart => exact ⟨1, 0, rfl, rfl, .inr rfl, Below.refl _ _⟩
        case round =>
          obtain ⟨i0, j, rfl, hij, hi, hbl⟩ := hrel
          have R := H6.quiet hbl
          by_cases hlt : i0 < X.length
          · obtain ⟨g1, g2, g3, g4, g5, g6, g7, g8, g9⟩ := HSt.out j (by omega)
            obtain ⟨b, o, hoe, hb, y1⟩ := Nums.cellAt (R.nums 1 rfl) g1
            subst hoe
            obtain ⟨b', o', hoe', hb', y0⟩ := Nums.cellAt (R.nums 1 rfl) g2
            simp only [Option.some.injEq, Addr.mk.injEq, and_true] at hoe'
            obtain ⟨rfl, rfl⟩ := hoe'
            obtain ⟨b2, o2, hde, hb2, z1⟩ := Nums.cellAt (R.nums 3 rfl) g3
            subst hde
            obtain ⟨b2', o2', hde', hb2', z0⟩ := Nums.cellAt (R.nums 3 rfl) g4
            simp only [Option.some.injEq, Addr.mk.injEq, and_true] at hde'
            obtain ⟨rfl, rfl⟩ := hde'
            obtain ⟨A1, hA1⟩ : ∃ A1, Hid (A1 = X[j + 1]) := ⟨_, Lib.hid rfl⟩
            obtain ⟨A0, hA0⟩ : ∃ A0, Hid (A0 = X[j]) := ⟨_, Lib.hid rfl⟩
            obtain ⟨B1, hB1⟩ : ∃ B1, Hid (B1 = xs[j + q]) := ⟨_, Lib.hid rfl⟩
            obtain ⟨B0, hB0⟩ : ∃ B0, Hid (B0 = xs[j]) := ⟨_, Lib.hid rfl⟩
            rw [← hA1.out] at y1 g5 g6
            rw [← hA0.out] at y0 g5 g7
            rw [← hB1.out] at z1 g5 g8
            rw [← hB0.out] at z0 g5 g9
            obtain ⟨D, hD⟩ : ∃ D, Hid (D = A1 - A0) := ⟨_, Lib.hid rfl⟩
            have hw1 : IntKind.i64.wrap (A1 - A0) = D := by have := hD.out; rw [IntWalk.i64_in _ (by omega)]; omega
            have hw2 : IntKind.i64.wrap (B1 - B0) = D := by have := hD.out; rw [IntWalk.i64_in _ (by omega)]; omega
            have hw3 : IntKind.i64.wrap ((i0 : Int) - 1) = (j : Int) := by rw [IntWalk.i64_in _ (by omega)]; omega
            obtain ⟨u, hu⟩ : ∃ u : Int, Hid (u = (i0 : Int) + k) := ⟨_, Lib.hid rfl⟩
            have hw4 : IntKind.i64.wrap ((i0 : Int) + k) = u := by have := hu.out; rw [IntWalk.i64_in _ (by omega)]; omega
            obtain ⟨v, hv⟩ : ∃ v : Nat, Hid (v = j + q) := ⟨_, Lib.hid rfl⟩
            have hw5 : IntKind.i64.wrap (u - 1) = (v : Int) := by have h1 := hu.out; have h2 := hv.out; have h3 := HQ.out; rw [IntWalk.i64_in _ (by omega)]; omega
            have y1' : wr.cell? ⟨b, o + i0, none⟩ = some (.int .i64 A1) := by rw [hij]; exact y1
            have z1' : wr.cell? ⟨b2, o2 + v, none⟩ = some (.int .i64 B1) := by rw [hv.out]; exact z1
            have q1 : (0 : Int) ≤ (i0 : Int) := by omega
            have q2 : (i0 : Int) < (X.length : Int) := by omega
            have q3 : (0 : Int) ≤ (j : Int) := by omega
            have q4 : (j : Int) < (X.length : Int) := by omega
            have q5 : (0 : Int) ≤ (v : Int) := by omega
            have q6 : (v : Int) < (xs.length : Int) := by have := hv.out; omega
            have q7 : (j : Int) < (xs.length : Int) := by omega
            have HIJ := Lib.hid hij
            obtain ⟨d0_, d1_⟩ := R.box2 2 rfl
            have y1f := fresh_cell y1'
            have y0f := fresh_cell y0
            have z1f := fresh_cell z1'
            have z0f := fresh_cell z0
            have d0f := fresh_cell d0_
            clear g1 g2 g3 g4 g5 g6 g7 g8 g9 hA1 hA0 hB1 hB0 hD hu hv hij R y1 z1
            go_wp2_with fail
            refine region_fresh (by kernel_rfl) (by kernel_rfl) ?_
            repeat (with_reducible refine wpQuiet_step ?_; intro K hK; go_simp; (refine hK _ ?_; clear hK K))
            with_reducible refine wpQuiet_nil ?_
            intro _ hw'
            obtain ⟨⟨wq, hq⟩, hw''⟩ := hw'
            subst hw''
            have hblq := hbl.trans (hq.mono hbl.size)
            clear y1f y0f z1f z0f d0f y1' y0 z1' z0 d0_ d1_
            go_wp2
            go_roundw
            case rel => exact ⟨i0 + 1, j + 1, by go_num, by have := HIJ.out; omega, .inl (by omega), hblq⟩
            case measure => simp [intOf]; omega
          · have HXL := HXl.out
            clear HSt hij hi
            have H7 := R
            clear R H6
            obtain ⟨d0_, d1_⟩ := H7.box2 2 rfl
            go_wp2_with fail
            refine (c1.out _ _ (H7.nums 3 rfl)).mono ?_
            rintro e w8 ⟨ve, rfl, ho, hbl⟩
            have H8 := H7.newN ho hbl
            clear d0_ d1_
            clear H7 ho hbl
            have hxl2 := HQ.out
            obtain ⟨t1, ht1⟩ : ∃ t1 : Int, Hid (t1 = (xs.length : Int) - k) := ⟨_, Lib.hid rfl⟩
            have hw1 : IntKind.i64.wrap ((xs.length : Int) - k) = t1 := by have := ht1.out; rw [IntWalk.i64_in _ (by omega)]; omega
            obtain ⟨t2, ht2⟩ : ∃ t2 : Int, Hid (t2 = t1 + 1) := ⟨_, Lib.hid rfl⟩
            have hw2 : IntKind.i64.wrap (t1 + 1) = t2 := by have h1 := ht1.out; have h2 := ht2.out; rw [IntWalk.i64_in _ (by omega)]; omega
            have hk0 : (0 : Int) ≤ k := by omega
            have HE1 := ht1.out
            have HE2 := ht2.out
            rcases Nat.eq_zero_or_pos X.length with hx0 | hx0
            · have hmz : t2 ≤ 0 := by omega
              have hx0i : ((X.length : Int) == 0) = true := by rw [hx0]; rfl
              have HX0 := Lib.hid hx0
              clear HXL HXl HZr hqx HAl ht1 ht2 HE1 HE2 hxl2 hx0 hk0
              rcases Int.lt_or_eq_of_le hmz with hm0 | hm0
              · clear hmz
                obtain ⟨d0_, d1_⟩ := H8.box2 3 rfl
                have d0f := fresh_cell d0_
                have d1f := fresh_cell d1_
                go_wp2_with fail
                refine region_fresh (by kernel_rfl) (by kernel_rfl) ?_
                repeat (with_reducible refine wpQuiet_step ?_; intro K hK; go_simp; first | (refine hK _ ?_; clear hK K) | (apply Exists.intro; refine ⟨fun _ => ?_, hK _ ?_⟩; ((go_at_call 25; exact fresh_of (equalN_q ((Things.quiet H8 (Fresh.is _)).nums 0 rfl) ((Things.quiet H8 (Fresh.is _)).nums 4 rfl)))); clear hK K))
                with_reducible refine wpQuiet_nil ?_
                intro _ hw'
                obtain ⟨⟨wq8, hq8⟩, hw''⟩ := hw'
                subst hw''
                have H9 := H8.quiet hq8
                go_wp2
                go_ret
                exact ⟨rfl, H9.below⟩
              · subst hm0
                obtain ⟨d0_, d1_⟩ := H8.box2 3 rfl
                have d0f := fresh_cell d0_
                have d1f := fresh_cell d1_
                go_wp2_with fail
                refine region_fresh (by kernel_rfl) (by kernel_rfl) ?_
                repeat (with_reducible refine wpQuiet_step ?_; intro K hK; go_simp; first | (refine hK _ ?_; clear hK K) | (apply Exists.intro; refine ⟨fun _ => ?_, hK _ ?_⟩; ((go_at_call 25; exact fresh_of (equalN_q ((Things.quiet H8 (Fresh.is _)).nums 0 rfl) ((Things.quiet H8 (Fresh.is _)).nums 4 rfl)))); clear hK K))
                with_reducible refine wpQuiet_nil ?_
                intro _ hw'
                obtain ⟨⟨wq8, hq8⟩, hw''⟩ := hw'
                subst hw''
                have H9 := H8.quiet hq8
                go_wp2
                go_ret
                exact ⟨rfl, H9.below⟩
            · have hqx2 := hqx.out hx0
              have hmz : 0 < t2 := by omega
              have hmq : ((X.length : Int) == t2) = true := by rw [beq_iff_eq]; omega
              have hx0i : ((X.length : Int) == 0) = false := by rw [beq_eq_false_iff_ne]; omega
              obtain ⟨S, hS⟩ : ∃ S, Hid (S = (xs.take q).sum) := ⟨_, Lib.hid rfl⟩
              have hSx := HZr.out hx0
              rw [← hS.out] at hSx
              have cT := Lib.hid (fun (v0 : Value) (w : World) (h0 : Nums w v0 (xs.take q)) => (show Calls Try.prog 40 #[v0] w (RetN (.int .i64 S) w) by rw [hS.out]; exact sumN_any v0 _ w h0 HAl.out.1 HAl.out.2))
              obtain ⟨b, o, hoe, hb, y0⟩ := Nums.cellAt (H8.nums 2 rfl) hx0
              subst hoe
              rw [hSx, Nat.add_zero] at y0
              have hkx : k ≤ (xs.length : Int) := by omega
              have hkd : k ≤ (dc : Int) := by omega
              have hXi : (0 : Int) < (X.length : Int) := by omega
              have hqk : Hid (k.toNat = q) := by unfold Hid; omega
              have HT := Lib.hid (fun p_ : Fresh (w8) => ((Nums.takeA ((Things.quiet H8 p_.is).nums 4 rfl) (j := k.toNat) (by have := hqk.out; omega)).cast (by rw [hqk.out])  : Nums p_.at' (.slice dp k.toNat dc) (xs.take q)))
              clear HXL HXl HZr hqx HAl ht1 ht2 HE1 HE2 hxl2 hk1 hk2 hq1 hq10 hSx hS hqx2
              obtain ⟨d0_, d1_⟩ := H8.box2 3 rfl
              have d0f := fresh_cell d0_
              have d1f := fresh_cell d1_
              have y0f := fresh_cell y0
              go_wp2_with fail
              have hng : ¬ t2 < 0 := by omega
              refine region_fresh (by kernel_rfl) (by kernel_rfl) ?_
              repeat (with_reducible refine wpQuiet_step ?_; intro K hK; go_simp; first | (refine hK _ ?_; clear hK K) | (apply Exists.intro; refine ⟨fun _ => ?_, hK _ ?_⟩; (first | (go_at_call 25; exact fresh_of (equalN_q ((Things.quiet H8 (Fresh.is _)).nums 0 rfl) ((Things.quiet H8 (Fresh.is _)).nums 4 rfl))) | (go_at_call 40; exact fresh_N (cT.out _ _ (HT.out _)))); clear hK K))
              with_reducible refine wpQuiet_nil ?_
              intro _ hw'
              obtain ⟨⟨wq8, hq8⟩, hw''⟩ := hw'
              subst hw''
              have H9 := H8.quiet hq8
              go_wp2
              go_ret
              exact ⟨rfl, H9.below⟩

set_option maxRecDepth 100000 in
theorem FnWindowSums_lifted (os : Os) (started : os.Started) (H : Type) (enc : TypeId × Value → H) :
    ReturnsInHanded {} Try.checked os 8 .any (Rows.fnWindowSumsSpec.pre6 enc Try.prog Try.f8 Rows.fnWindowSumsRow.domain false) (Rows.fnWindowSumsSpec.post enc Try.prog Try.f8 false true false false) := by
  refine returnsInHanded_of_change (C := Try.checked) own started (by kernel_rfl) Try.func8
    (ChangeSpec.witness6 (enc := enc) (C := Try.checked) false ⟨#[], #[.slice none 0 0], []⟩ 8 (by kernel_rfl) (by kernel_rfl) (by kernel_rfl) (by kernel_rfl)) ?_
  intro W base args ds gs before hval0 hW _ _
  have hval : ∀ (j : Nat) t v, Try.f8.params[j]? = some t → args[j]? = some v → Value.okWide Try.prog W .any base t v := hval0
  have hW' := hW
  obtain ⟨p, q, hA0, hV, rfl, _, _⟩ := hW
  have hA : DataW.TrodAll enc Try.prog W 0 (fun _ => true) true Try.f8.params.toList args.toList ds p := hA0
  rw [Try.params8] at hA hval
  obtain ⟨v0, vs0, d0, ds0, p0, q0, hargs, rfl, rfl, h0, r0⟩ := trodAll_cons hA
  obtain ⟨rfl, rfl, rfl⟩ := trodAll_nil r0
  obtain rfl : args = #[v0] := by cases args; simp_all
  obtain ⟨rfl, rfl⟩ := trodVars_none hV
  obtain ⟨xs0, hI0⟩ := open_bytes (hval 0 _ v0 rfl rfl) h0
  refine (FnWindowSums_walk v0 xs0 W hI0).mono fun e W' ⟨he, hb⟩ => ⟨_, he, ?_⟩
  exact law_end rfl (by rw [Try.params8]; decide +kernel) rfl hW' rfl rfl rfl hb

theorem FnWindowSums_facts : joinedFacts Try.prog 8 Try.f8 Rows.fnWindowSumsSpec Rows.fnWindowSumsRow = true :=
  facts_of (by kernel_rfl) q2 q3 (by kernel_rfl) (by kernel_rfl) (by kernel_rfl) q7 (by kernel_rfl) q9 (by kernel_rfl) (by kernel_rfl) (by kernel_rfl) (by kernel_rfl) (by kernel_rfl) (by kernel_rfl) (by kernel_rfl) (by kernel_rfl) (by kernel_rfl) (by kernel_rfl) (by kernel_rfl) (by kernel_rfl) (by kernel_rfl)
    (by rw [q22]; kernel_rfl) (by kernel_rfl) q23 head_enter (by kernel_rfl) head_lifts head_make (by kernel_rfl) (by kernel_rfl) (by kernel_rfl) (by kernel_rfl) (by kernel_rfl)

theorem FnWindowSums_holds : Rows.FnWindowSumsSaid :=
  OpenClaim.holds_of_wide 8 Try.f8 rfl rfl rfl rfl rfl rfl rfl ⟨rfl, rfl, rfl, rfl, rfl⟩ rfl rfl rfl rfl rfl (by kernel_rfl) Try.func8 FnWindowSums_facts
    (of_decide_eq_true (by kernel_rfl)) (by unfold Func.isWrapper; first | (rw [if_pos (by decide +kernel)]; kernel_rfl) | (rw [if_neg (by decide +kernel)]; exact ⟨rfl, rfl⟩))
    (fun os started H enc _ => FnWindowSums_lifted os started H enc)
end Go.Proofs.Ytoglgeinnocfjaa
