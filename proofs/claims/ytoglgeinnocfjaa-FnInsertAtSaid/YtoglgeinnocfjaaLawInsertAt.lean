/-
  FnInsertAt: true, for every code.
-/
import Derived.Test.YtoglgeinnocfjaaE11
import Derived.Test.YtoglgeinnocfjaaE13
import Derived.Test.YtoglgeinnocfjaaE16
import Derived.Test.YtoglgeinnocfjaaE17
namespace Go.Proofs.Ytoglgeinnocfjaa
open Go.RowKit
open Go.ChangeShapes Go.WideShapes Go.ChangeAt Go.Deep

theorem in_front2 {xs : List Int} {m : Int} (h : validD xs m = true) {j : Nat} (hj : j < xs.length) : inD xs m (j : Int) = j := by
  unfold inD; rw [h, if_pos rfl]; unfold atI; rw [if_neg (by omega), if_pos (by omega)]
theorem ins_mem {xs : List Int} {p : Nat} {x y : Int} : y ∈ insN xs p x ↔ y = x ∨ y ∈ xs := by
  unfold insN
  simp only [Int.toNat_natCast, List.mem_append, List.mem_singleton]
  constructor
  · rintro ((h | h) | h)
    · exact .inr (List.mem_of_mem_take h)
    · exact .inl h
    · exact .inr (List.mem_of_mem_drop h)
  · rintro (h | h)
    · exact .inl (.inr h)
    · rw [← List.take_append_drop p xs, List.mem_append] at h
      rcases h with h | h
      · exact .inl (.inl h)
      · exact .inr h
theorem ins_len (xs : List Int) {p : Nat} (hp : p ≤ xs.length) (x : Int) : (insN xs p x).length = xs.length + 1 := by
  unfold insN
  simp
  omega
theorem valid_ins {xs : List Int} {p p' : Nat} {x m : Int} (hp : p ≤ xs.length) (hp' : p' ≤ xs.length) (h : validD (insN xs p x) m = true) : validD (insN xs p' x) m = true := by
  have h1 := validD_iff.1 h
  rw [ins_len xs hp] at h1
  refine validD_iff.2 ⟨allN_iff.2 fun y hy => allN_iff.1 h1.1 y (ins_mem.2 (ins_mem.1 hy)), h1.2.1, ?_, ?_⟩ <;> rw [ins_len xs hp']
  · exact h1.2.2.1
  · exact h1.2.2.2
theorem ins_zero (xs : List Int) (x : Int) : insN xs ((0 : Nat) : Int) x = x :: xs := by simp [insN]
theorem ins_end (xs : List Int) (x : Int) : insN xs (xs.length : Int) x = xs ++ [x] := by simp [insN]
theorem clp_p (k : Int) (n : Nat) : ∃ p : Nat, clp k n = p ∧ p ≤ n := by
  have h := clp_bd (k := k) (n := (n : Int)) (by omega)
  obtain ⟨p, hp⟩ := Int.eq_ofNat_of_zero_le h.1
  exact ⟨p, hp, by omega⟩
theorem ins_parts {xs : List Int} {m k x : Int} (h : isB xs m (clp k xs.length) x = true) : ∃ p : Nat, clp k xs.length = p ∧ p ≤ xs.length ∧ validD (insN xs p x) m = true ∧ (exfB xs [x] m = true ∧ exfL xs [x] m = x :: xs) ∧ (extB xs [x] m = true ∧ extL xs [x] m = xs ++ [x]) ∧ (isB xs m (clp 0 xs.length) x = true ∧ insN xs (clp 0 xs.length) x = x :: xs) ∧ (isB xs m (clp xs.length xs.length) x = true ∧ insN xs (clp xs.length xs.length) x = xs ++ [x]) := by
  obtain ⟨p, hp, hpl⟩ := clp_p k xs.length
  rw [hp] at h
  unfold isB at h
  rw [Bool.and_eq_true] at h
  obtain ⟨hv, hw⟩ := h
  have w0 := valid_ins hpl (Nat.zero_le _) hw
  have w1 := valid_ins hpl (Nat.le_refl _) hw
  rw [ins_zero] at w0
  rw [ins_end] at w1
  have hx := allN_iff.1 (validD_all w0) x (by simp)
  have hax : areN [x] = true := areN_iff.2 ⟨by simp, allN_iff.2 fun y hy => by rw [List.mem_singleton.1 hy]; exact hx⟩
  have l0 := (validD_iff.1 w0).2.2.2
  have l1 := (validD_iff.1 w1).2.2.2
  have eF : exfL xs [x] m = x :: xs := by
    unfold exfL fitF
    show (if 0 ≤ m ∧ m < ((x :: xs).length : Int) then _ else x :: xs) = _
    rw [if_neg (by omega)]
  have eB : extL xs [x] m = xs ++ [x] := by unfold extL fitB; rw [if_neg (by omega)]
  have c0 : clp 0 (xs.length : Int) = ((0 : Nat) : Int) := by unfold clp; rw [if_neg (by omega)]; split <;> omega
  have c1 : clp (xs.length : Int) (xs.length : Int) = (xs.length : Int) := by unfold clp; rw [if_neg (by omega)]; split <;> omega
  refine ⟨p, hp, hpl, hw, ⟨?_, eF⟩, ⟨?_, eB⟩, ⟨?_, by rw [c0, ins_zero]⟩, ⟨?_, by rw [c1, ins_end]⟩⟩
  · unfold exfB; rw [eF, hv, hax, w0]; rfl
  · unfold extB; rw [eB, hv, hax, w1]; rfl
  · rw [c0]; unfold isB; rw [hv, ins_zero, w0]; rfl
  · rw [c1]; unfold isB; rw [hv, ins_end, w1]; rfl
theorem ins_at {xs : List Int} {p : Nat} (hp : p ≤ xs.length) (x : Int) (h : p < (insN xs p x).length) : (insN xs p x)[p] = x ∧ delN (insN xs p x) (p : Int) = xs := by
  have hl : (xs.take p).length = p := by rw [List.length_take]; omega
  have e : insN xs p x = xs.take p ++ (x :: xs.drop p) := by unfold insN; simp
  constructor
  · simp only [e]
    rw [List.getElem_append_right (by omega)]
    simp [hl]
  · rw [e]
    unfold delN
    simp only [Int.toNat_natCast]
    rw [List.take_left' hl, show xs.take p ++ x :: xs.drop p = (xs.take p ++ [x]) ++ xs.drop p by simp, List.drop_left' (by simp; omega), List.take_append_drop]

set_option linter.unusedSimpArgs false in
set_option maxHeartbeats 800000 in
theorem DrawInsertAt_any (v : Value) (bs : List Int) (w : World) (h : Bytes w v bs) :
    Calls Try.prog 26 #[v] w fun e w' => ∃ v' xs m x y, e = .returned (.tuple #[.agg #[v', .int .i64 m], .int .i64 x, .int .i64 y]) ∧ OwnN w.heap.size w'.heap.size w' v' xs ∧ (xs.length ≤ 11 ∧ nearL xs ∧ -2 ≤ m ∧ m ≤ 11) ∧ (-9223372036854775808 ≤ x ∧ x ≤ 9223372036854775807) ∧ (-9223372036854775808 ≤ y ∧ y ≤ 9223372036854775807) ∧ Below w.heap.size w w' := by
  have hb0 : Below w.heap.size w (w.alloc (.cells #[.slice none 0 0, .int .i64 0] 25)) := (Below.refl _ _).alloc (Nat.le_refl _) _
  have HR := Lib.hid (heap_new w (.cells #[.slice none 0 0, .int .i64 0] 25))
  go_enter Try.func26, Try.ntmps26
  go_wp2_with fail
  refine (DrawSetAt_any v bs _ (h.below hb0)).mono ?_
  rintro e w1 ⟨v1, xs, m, x, y, rfl, hown, hb, hx, hy, hb1⟩
  obtain ⟨xo, xcap, rfl, _, _⟩ := hown.nums.slice
  have hs1 := hb1.size
  simp at hs1 hb1 hown
  have R2 := (hb1.block _ (by omega)).trans HR.out
  have HBB : Hid (Below w.heap.size w w1) := hb0.trans (hb1.mono (by omega))
  have HO := Lib.hid hown
  have s0 := two_cell0 R2
  have s1 := two_cell1 R2
  have t0 := two_free R2
  clear R2 hown hb1
  go_wp2
  exact bodyPost_ret (v := .tuple #[.agg #[.slice xo xs.length xcap, .int .i64 m], .int .i64 x, .int .i64 y]) (by simp [results, Try.results26, go_sem, s0, s1]) rfl ⟨_, _, _, _, _, rfl, (HO.out.keeps (((Keeps.refl _ _).setCell (by simp [In] <;> omega) _).setCell (by simp [In] <;> omega) _)).wide (by omega) (by simp <;> omega), hb, hx, hy, (HBB.out.setCell (by simp) _).setCell (by simp) _⟩

set_option maxHeartbeats 800000 in
set_option maxRecDepth 100000 in
theorem equalD_b (v u : Value) (xs ys : List Int) (m : Int) (w : World) (h : Nums w v xs) (h' : Nums w u ys) :
    Calls Try.prog 18 #[.agg #[v, .int .i64 m], .agg #[u, .int .i64 m]] w fun e w' => e = .returned (.bool (decide (xs = ys))) ∧ Below w.heap.size w w' := by
  go_enter Try.func18, Try.ntmps18
  have HB0 : Hid (Below w.heap.size w ((w.alloc (.cells #[v, .int .i64 m] 25)).alloc (.cells #[u, .int .i64 m] 25))) := ((Below.refl _ _).alloc (Nat.le_refl _) _).alloc (by simp) _
  have G0 := heap_old (heap_new w (.cells #[v, .int .i64 m] 25)) (.cells #[u, .int .i64 m] 25)
  have G1 := heap_at (n := w.heap.size + 1) (w.alloc (.cells #[v, .int .i64 m] 25)) (.cells #[u, .int .i64 m] 25) (by simp)
  obtain ⟨D, hD⟩ : ∃ D, Hid (D = decide (xs = ys)) := ⟨_, Lib.hid rfl⟩
  rw [← hD.out]
  go_wp2_with fail
  refine (equalInts_any v u xs ys _ (h.mono HB0.out (Nat.le_refl _)) (h'.mono HB0.out (Nat.le_refl _))).mono ?_
  rw [← hD.out]
  rintro e w1 ⟨rfl, hb⟩
  have g0 := two_cell1 (two_below G0 hb (by simp <;> omega))
  have g1 := two_cell1 (two_below G1 hb (by simp))
  have H2 := HB0.out.trans (hb.mono (by simp <;> omega))
  clear G0 G1 hD
  cases D
  · go_wp2
    go_ret
    exact ⟨rfl, H2⟩
  · go_wp2
    go_ret
    exact ⟨rfl, H2⟩

set_option maxHeartbeats 4000000 in
set_option maxRecDepth 100000 in
theorem FnInsertAt_walk (v : Value) (bs : List Int) (w : World) (h : Bytes w v bs) :
    Calls Try.prog 5 #[v] w fun e w' => e = .returned (.bool true) ∧ Below w.heap.size w w' := by
  have h0 := h
  obtain ⟨ao, cap, rfl, hl, hc, hok, hcell⟩ := h0
  clear hcell hok
  go_enter Try.func5, Try.ntmps5
  by_cases hbig : (1048576 : Int) < (bs.length : Int)
  · go_wp2
    go_ret
    exact ⟨rfl, Below.refl _ _⟩
  go_wp2_with fail
  refine (DrawInsertAt_any _ bs w h).mono ?_
  rintro e w1 ⟨vd, xs, m, k, x, rfl, ho, hbnd, hkb, hxb, hbl⟩
  have H1 := (Things.nil w).new (t := numT w.heap.size w1.heap.size vd xs) (Nat.le_refl _) (Nat.le_refl _) ho hbl
  obtain ⟨dp, dc, rfl, hdc, hdm⟩ := (H1.nums 0 rfl).slice
  have H2 := H1.boxed 25 [.slice dp xs.length dc, .int .i64 m]
  clear ho hbl H1 h
  obtain ⟨G, hG⟩ : ∃ G, Hid (G = ifN (isB xs m (clp k xs.length) x) (insN xs (clp k xs.length) x)) := ⟨_, Lib.hid rfl⟩
  obtain ⟨g, hg⟩ : ∃ g, Hid (g = ifI (isB xs m (clp k xs.length) x) m) := ⟨_, Lib.hid rfl⟩
  obtain ⟨K, hK⟩ : ∃ K, Hid (K = isB xs m (clp k xs.length) x) := ⟨_, Lib.hid rfl⟩
  have cI := Lib.hid (fun (v0 : Value) (w : World) (h0 : Nums w v0 xs) => (show Calls Try.prog 27 #[.agg #[v0, .int .i64 m], .int .i64 k, .int .i64 x] w (NewD G g K w) by rw [hG.out, hg.out, hK.out]; exact InsertAt_any v0 xs m k x w h0 hkb hxb))
  have cS := Lib.hid (fun (v0 : Value) (w : World) (h0 : Nums w v0 xs) => (show Calls Try.prog 28 #[.agg #[v0, .int .i64 m], .int .i64 k, .int .i64 x] w (NewD G g K w) by rw [hG.out, hg.out, hK.out]; exact sInsertAt_any v0 xs m k x w h0 hkb hxb))
  obtain ⟨d0_, d1_⟩ := H2.box2 0 rfl
  go_wp2_with fail
  refine (cI.out _ _ (H2.nums 1 rfl)).mono ?_
  rintro e w3 ⟨vo, rfl, ho, hbl⟩
  have H3 := H2.newN ho hbl
  obtain ⟨op, oc, rfl, hoc, hom⟩ := (H3.nums 0 rfl).slice
  have H4 := H3.boxed 25 [.slice op G.length oc, .int .i64 g]
  clear d0_ d1_
  clear H2 H3 ho hbl
  obtain ⟨d0_, d1_⟩ := H4.box2 2 rfl
  go_wp2_with fail
  refine (cS.out _ _ (H4.nums 3 rfl)).mono ?_
  rintro e w5 ⟨vw, rfl, ho, hbl⟩
  have H5 := H4.newN ho hbl
  obtain ⟨wp, wc, rfl, hwc, hwm⟩ := (H5.nums 0 rfl).slice
  have H6 := H5.boxed 25 [.slice wp G.length wc, .int .i64 g]
  clear d0_ d1_
  clear H4 H5 ho hbl
  clear cI cS
  obtain ⟨o0_, o1_⟩ := H6.box2 2 rfl
  obtain ⟨w0_, w1_⟩ := H6.box2 0 rfl
  go_wp2_with fail
  refine (equalD_T H6 (H6.nums 3 rfl) (H6.nums 1 rfl)).mono ?_
  rintro e w7 ⟨rfl, H7⟩
  clear o0_ o1_ w0_ w1_
  clear H6
  cases K
  · skip
    obtain ⟨o0_, o1_⟩ := H7.box2 2 rfl
    obtain ⟨w0_, w1_⟩ := H7.box2 0 rfl
    go_wp2_with fail
    refine (equalD_T H7 (H7.nums 3 rfl) (H7.nums 1 rfl)).mono ?_
    rintro e w8 ⟨rfl, H8⟩
    clear o0_ o1_ w0_ w1_
    clear H7
    go_wp2
    go_ret
    exact ⟨rfl, H8.below⟩
  · obtain ⟨p, hp, hpl, hvG, ⟨f1, f2⟩, ⟨b1, b2⟩, ⟨a1, a2⟩, ⟨z1, z2⟩⟩ := ins_parts hK.out.symm
    have hGe : G = insN xs p x := by rw [hG.out, ← hK.out, hp]; rfl
    obtain rfl : g = m := by rw [hg.out, ← hK.out]; rfl
    have hGlen : G.length = xs.length + 1 := by rw [hGe]; exact ins_len xs hpl x
    rw [← hGe] at hvG
    have hpG : p < G.length := by omega
    have hG10 := validD_len hvG
    have hat : G[p] = x ∧ delN G (p : Int) = xs := by
      have h1 := ins_at hpl x (by rw [← hGe]; exact hpG)
      simp only [← hGe] at h1
      exact h1
    have HAT : Hid (∀ (j : Nat) (hj : j < G.length), j = p → G[j] = x ∧ delN G (j : Int) = xs) := fun j hj e => by subst e; exact hat
    obtain ⟨A, hA⟩ : ∃ A, Hid (A = x :: xs) := ⟨_, Lib.hid rfl⟩
    obtain ⟨Z, hZ⟩ : ∃ Z, Hid (Z = xs ++ [x]) := ⟨_, Lib.hid rfl⟩
    have hnl : -9223372036854775808 ≤ (xs.length : Int) ∧ (xs.length : Int) ≤ 9223372036854775807 := by omega
    have cF := Lib.hid (fun (v0 : Value) (w : World) (h0 : Nums w v0 xs) => (show Calls Try.prog 16 #[.agg #[v0, .int .i64 g], .int .i64 x] w (NewD A g true w) by have h1 := PushFront_any v0 xs g x w h0 hxb; rw [f1, f2, ← hA.out] at h1; exact h1))
    have cA := Lib.hid (fun (v0 : Value) (w : World) (h0 : Nums w v0 xs) => (show Calls Try.prog 27 #[.agg #[v0, .int .i64 g], .int .i64 0, .int .i64 x] w (NewD A g true w) by have h1 := InsertAt_any v0 xs g 0 x w h0 (by omega) hxb; rw [a1, a2, ← hA.out] at h1; exact h1))
    have cE := Lib.hid (fun (v0 : Value) (w : World) (h0 : Nums w v0 xs) => (show Calls Try.prog 27 #[.agg #[v0, .int .i64 g], .int .i64 xs.length, .int .i64 x] w (NewD Z g true w) by have h1 := InsertAt_any v0 xs g xs.length x w h0 hnl hxb; rw [z1, z2, ← hZ.out] at h1; exact h1))
    have cB := Lib.hid (fun (v0 : Value) (w : World) (h0 : Nums w v0 xs) => (show Calls Try.prog 19 #[.agg #[v0, .int .i64 g], .int .i64 x] w (NewD Z g true w) by have h1 := PushBack_any v0 xs g x w h0 hxb; rw [b1, b2, ← hZ.out] at h1; exact h1))
    have cD := Lib.hid (fun (j : Nat) (hj : j < G.length) (v0 : Value) (w : World) (h0 : Nums w v0 G) => (show Calls Try.prog 29 #[.agg #[v0, .int .i64 g], .int .i64 j] w (NewD (delN G (j : Int)) g true w) by have h1 := DeleteAt_any v0 G g j w h0 (by omega); rw [in_front2 hvG hj, show dlB (j : Int) = true from decide_eq_true (by omega)] at h1; exact h1))
    clear hG hg hK hp hpl hvG f1 f2 b1 b2 a1 a2 z1 z2 hGe hGlen hat hA hZ hbnd hkb hxb hnl
    go_wp2
    go_loopw [10, 11] (fun i jv wr => ∃ (j : Nat) (e : Int), jv = .int .i64 j ∧ i = .int .i64 e ∧ j ≤ G.length ∧ ((e = 10 ∨ (0 ≤ e ∧ e < j)) ∧ (p < j → e < 10)) ∧ Below w7.heap.size w7 wr) (fun _ jv _ => G.length - (intOf jv).toNat)
    case atStart => exact ⟨0, 10, rfl, rfl, Nat.zero_le _, ⟨.inl rfl, fun h => absurd h (by omega)⟩, Below.refl _ _⟩
    case round =>
      obtain ⟨j, e, rfl, rfl, hj, hje, hbl⟩ := hrel
      have R := H7.quiet hbl
      obtain ⟨d0_, d1_⟩ := R.box2 4 rfl
      obtain ⟨o0_, o1_⟩ := R.box2 2 rfl
      by_cases hlt : j < G.length
      · obtain ⟨L0, hL0⟩ : ∃ L0, Hid (L0 = delN G (j : Int)) := ⟨_, Lib.hid rfl⟩
        have cDj := Lib.hid (cD.out j hlt)
        rw [← hL0.out] at cDj
        obtain ⟨y, hy⟩ : ∃ y, Hid (y = G[j]) := ⟨_, Lib.hid rfl⟩
        obtain ⟨T, hT⟩ : ∃ T, Hid (T = decide (L0 = xs)) := ⟨_, Lib.hid rfl⟩
        have hPT : Hid (j = p → y = x ∧ T = true) := fun h => by
          have h1 := HAT.out j hlt h
          rw [hy.out, hT.out, hL0.out]
          exact ⟨h1.1, decide_eq_true h1.2⟩
        go_wp2_with fail
        refine (cDj.out _ _ (R.nums 3 rfl)).mono ?_
        rintro er wq ⟨vl, rfl, ho, hbq⟩
        have R2 := R.newN ho hbq
        obtain ⟨lp, lc, rfl, _, _⟩ := (R2.nums 0 rfl).slice
        have R3 := R2.boxed 25 [.slice lp L0.length lc, .int .i64 g]
        have hblq := hbl.trans (hbq.mono hbl.size)
        have hblx := hblq.alloc hblq.size (.cells #[.slice lp L0.length lc, .int .i64 g] 25)
        clear ho hbq R R2 d0_ d1_ o0_ o1_ cDj hL0
        obtain ⟨d0_, d1_⟩ := R3.box2 6 rfl
        obtain ⟨o0_, o1_⟩ := R3.box2 4 rfl
        obtain ⟨l0_, l1_⟩ := R3.box2 0 rfl
        have hji : (0 : Int) ≤ (j : Int) := by omega
        have hjl : (j : Int) < (G.length : Int) := by omega
        obtain ⟨b, o, hoe, hb, y0⟩ := Nums.cellAt (R3.nums 5 rfl) hlt
        subst hoe
        rw [← hy.out] at y0
        clear hy
        by_cases hyx : y = x
        · have hyb : (y == x) = true := by rw [beq_iff_eq]; exact hyx
          clear hyx
          go_wp2_with fail
          refine (equalD_b _ _ L0 xs g _ (R3.nums 1 rfl) (R3.nums 7 rfl)).mono ?_
          rw [← hT.out]
          rintro er wz ⟨rfl, hbz⟩
          have hblz := hblx.trans (hbz.mono hblx.size)
          clear hbz d0_ d1_ o0_ o1_ l0_ l1_ y0 R3 hT
          cases T
          · have hnp : j ≠ p := fun h => by have := (hPT.out h).2; cases this
            clear hPT
            go_wp2
            go_roundw
            case rel => exact ⟨j + 1, e, by go_num, rfl, by omega, ⟨hje.1.imp id (fun h => ⟨h.1, by omega⟩), fun h => hje.2 (by omega)⟩, hblz⟩
            case measure => simp [intOf]; omega
          · clear hPT
            by_cases he : e = 10
            · have heb : (e == 10) = true := by rw [beq_iff_eq]; exact he
              clear he
              go_wp2
              go_roundw
              case rel => exact ⟨j + 1, j, by go_num, rfl, by omega, ⟨.inr ⟨by omega, by omega⟩, fun _ => by omega⟩, hblz⟩
              case measure => simp [intOf]; omega
            · have heb : (e == 10) = false := by rw [beq_eq_false_iff_ne]; exact he
              have HE := Lib.hid he
              clear he
              go_wp2
              go_roundw
              case rel => exact ⟨j + 1, e, by go_num, rfl, by omega, ⟨hje.1.imp id (fun h => ⟨h.1, by omega⟩), fun _ => by have := HE.out; omega⟩, hblz⟩
              case measure => simp [intOf]; omega
        · have hyb : (y == x) = false := by rw [beq_eq_false_iff_ne]; exact hyx
          have hnp : j ≠ p := fun h => hyx (hPT.out h).1
          clear hyx hPT hT
          go_wp2
          go_roundw
          case rel => exact ⟨j + 1, e, by go_num, rfl, by omega, ⟨hje.1.imp id (fun h => ⟨h.1, by omega⟩), fun h => hje.2 (by omega)⟩, hblx⟩
          case measure => simp [intOf]; omega
      · obtain rfl : j = G.length := by omega
        have he10 : e < 10 := hje.2 hpG
        clear hje HAT cD d0_ d1_ o0_ o1_
        have H8 := R
        clear R H7
        obtain ⟨d0_, d1_⟩ := H8.box2 4 rfl
        obtain ⟨o0_, o1_⟩ := H8.box2 2 rfl
        go_wp2_with fail
        refine (cF.out _ _ (H8.nums 5 rfl)).mono ?_
        rintro e w9 ⟨vr, rfl, ho, hbl⟩
        have H9 := H8.newN ho hbl
        obtain ⟨rp, rc, rfl, hrc, hrm⟩ := (H9.nums 0 rfl).slice
        have H10 := H9.boxed 25 [.slice rp A.length rc, .int .i64 g]
        clear d0_ d1_ o0_ o1_
        clear H8 H9 ho hbl
        obtain ⟨d0_, d1_⟩ := H10.box2 6 rfl
        go_wp2_with fail
        refine (cA.out _ _ (H10.nums 7 rfl)).mono ?_
        rintro e w11 ⟨vs, rfl, ho, hbl⟩
        have H11 := H10.newN ho hbl
        obtain ⟨sp, sc, rfl, hsc, hsm⟩ := (H11.nums 0 rfl).slice
        have H12 := H11.boxed 25 [.slice sp A.length sc, .int .i64 g]
        clear d0_ d1_
        clear H10 H11 ho hbl
        obtain ⟨d0_, d1_⟩ := H12.box2 8 rfl
        go_wp2_with fail
        refine (cE.out _ _ (H12.nums 9 rfl)).mono ?_
        rintro e w13 ⟨vt, rfl, ho, hbl⟩
        have H13 := H12.newN ho hbl
        obtain ⟨tp, tc, rfl, htc, htm⟩ := (H13.nums 0 rfl).slice
        have H14 := H13.boxed 25 [.slice tp Z.length tc, .int .i64 g]
        clear d0_ d1_
        clear H12 H13 ho hbl
        obtain ⟨d0_, d1_⟩ := H14.box2 10 rfl
        go_wp2_with fail
        refine (cB.out _ _ (H14.nums 11 rfl)).mono ?_
        rintro e w15 ⟨vu, rfl, ho, hbl⟩
        have H15 := H14.newN ho hbl
        obtain ⟨up, uc, rfl, huc, hum⟩ := (H15.nums 0 rfl).slice
        have H16 := H15.boxed 25 [.slice up Z.length uc, .int .i64 g]
        clear d0_ d1_
        clear H14 H15 ho hbl
        clear cF cA cE cB
        obtain ⟨r0_, r1_⟩ := H16.box2 6 rfl
        obtain ⟨s0_, s1_⟩ := H16.box2 4 rfl
        obtain ⟨t0_, t1_⟩ := H16.box2 2 rfl
        obtain ⟨u0_, u1_⟩ := H16.box2 0 rfl
        go_wp2_with fail
        refine (equalD_T H16 (H16.nums 7 rfl) (H16.nums 5 rfl)).mono ?_
        rintro e w17 ⟨rfl, H17⟩
        clear r0_ r1_ s0_ s1_ t0_ t1_ u0_ u1_
        clear H16
        obtain ⟨t0_, t1_⟩ := H17.box2 2 rfl
        obtain ⟨u0_, u1_⟩ := H17.box2 0 rfl
        go_wp2_with fail
        refine (equalD_T H17 (H17.nums 3 rfl) (H17.nums 1 rfl)).mono ?_
        rintro e w18 ⟨rfl, H18⟩
        clear t0_ t1_ u0_ u1_
        clear H17
        go_wp2
        go_ret
        exact ⟨rfl, H18.below⟩

set_option maxRecDepth 100000 in
theorem FnInsertAt_lifted (os : Os) (started : os.Started) (H : Type) (enc : TypeId × Value → H) :
    ReturnsInHanded {} Try.checked os 5 .any (Rows.fnInsertAtSpec.pre6 enc Try.prog Try.f5 Rows.fnInsertAtRow.domain false) (Rows.fnInsertAtSpec.post enc Try.prog Try.f5 false true false false) := by
  refine returnsInHanded_of_change (C := Try.checked) own started (by kernel_rfl) Try.func5
    (ChangeSpec.witness6 (enc := enc) (C := Try.checked) false ⟨#[], #[.slice none 0 0], []⟩ 8 (by kernel_rfl) (by kernel_rfl) (by kernel_rfl) (by kernel_rfl)) ?_
  intro W base args ds gs before hval0 hW _ _
  have hval : ∀ (j : Nat) t v, Try.f5.params[j]? = some t → args[j]? = some v → Value.okWide Try.prog W .any base t v := hval0
  have hW' := hW
  obtain ⟨p, q, hA0, hV, rfl, _, _⟩ := hW
  have hA : DataW.TrodAll enc Try.prog W 0 (fun _ => true) true Try.f5.params.toList args.toList ds p := hA0
  rw [Try.params5] at hA hval
  obtain ⟨v0, vs0, d0, ds0, p0, q0, hargs, rfl, rfl, h0, r0⟩ := trodAll_cons hA
  obtain ⟨rfl, rfl, rfl⟩ := trodAll_nil r0
  obtain rfl : args = #[v0] := by cases args; simp_all
  obtain ⟨rfl, rfl⟩ := trodVars_none hV
  obtain ⟨xs0, hI0⟩ := open_bytes (hval 0 _ v0 rfl rfl) h0
  refine (FnInsertAt_walk v0 xs0 W hI0).mono fun e W' ⟨he, hb⟩ => ⟨_, he, ?_⟩
  exact law_end rfl (by rw [Try.params5]; decide +kernel) rfl hW' rfl rfl rfl hb

theorem FnInsertAt_facts : joinedFacts Try.prog 5 Try.f5 Rows.fnInsertAtSpec Rows.fnInsertAtRow = true :=
  facts_of (by kernel_rfl) q2 q3 (by kernel_rfl) (by kernel_rfl) (by kernel_rfl) q7 (by kernel_rfl) q9 (by kernel_rfl) (by kernel_rfl) (by kernel_rfl) (by kernel_rfl) (by kernel_rfl) (by kernel_rfl) (by kernel_rfl) (by kernel_rfl) (by kernel_rfl) (by kernel_rfl) (by kernel_rfl) (by kernel_rfl) (by kernel_rfl)
    (by rw [q22]; kernel_rfl) (by kernel_rfl) q23 head_enter (by kernel_rfl) head_lifts head_make (by kernel_rfl) (by kernel_rfl) (by kernel_rfl) (by kernel_rfl) (by kernel_rfl)

theorem FnInsertAt_holds : Rows.FnInsertAtSaid :=
  OpenClaim.holds_of_wide 5 Try.f5 rfl rfl rfl rfl rfl rfl rfl ⟨rfl, rfl, rfl, rfl, rfl⟩ rfl rfl rfl rfl rfl (by kernel_rfl) Try.func5 FnInsertAt_facts
    (of_decide_eq_true (by kernel_rfl)) (by unfold Func.isWrapper; first | (rw [if_pos (by decide +kernel)]; kernel_rfl) | (rw [if_neg (by decide +kernel)]; exact ⟨rfl, rfl⟩))
    (fun os started H enc _ => FnInsertAt_lifted os started H enc)
end Go.Proofs.Ytoglgeinnocfjaa
