/-
  A deque drawn from a reader.
-/
import Derived.Test.YtcipkdegcplmcaaRdN
namespace Go.Proofs.Ytcipkdegcplmcaa
open Go.RowKit

/-- What is known while a deque is drawn: its box d, the result's box (the first block made), the reader. -/
structure DQ (w : World) (r P d : Nat) (v : Value) (xs : List Int) (m : Int) (W : World) : Prop where
  res : W.heap[w.heap.size]? = some (.cells #[.slice none 0 0, .int .i64 0] 25 (0, 0))
  box : W.heap[d]? = some (.cells #[v, .int .i64 m] 25 (0, 0))
  lt : w.heap.size < d
  own : OwnN (w.heap.size + 1) d W v xs
  rd : Reader W r P
  keep : Keeps (RK r w) w W
  rlt : r < w.heap.size
section
variable {w W : World} {r P d : Nat} {v : Value} {xs : List Int} {m : Int}
theorem DQ.size (D : DQ w r P d v xs m W) : d < W.heap.size := lt_of_block D.box
theorem DQ.draw (D : DQ w r P d v xs m W) {W' : World} {P' : Nat} (hr : Reader W' r P') (hk : Keeps (RK r W) W W') : DQ w r P' d v xs m W' := by
  have := D.size
  have := D.lt
  have := D.rlt
  exact ⟨(hk.block _ ⟨by omega, by omega⟩).trans D.res, (hk.block _ ⟨by omega, by omega⟩).trans D.box, D.lt, D.own.keeps (hk.mono fun j hj => ⟨by have := hj.2; omega, by have := hj.1; omega⟩), hr, RK.trans D.keep hk, D.rlt⟩
theorem DQ.below (D : DQ w r P d v xs m W) {W' : World} (hb : Below W.heap.size W W') : DQ w r P d v xs m W' := D.draw (D.rd.below hb) (RK.of_below hb)
theorem DQ.setM (D : DQ w r P d v xs m W) (q : Int) : DQ w r P d v xs q (W.setCell ⟨d, 1, none⟩ (.int .i64 q)) := by
  have := D.size
  have := D.lt
  have := D.rlt
  have hk : Keeps (fun j => j ≠ d) W (W.setCell ⟨d, 1, none⟩ (.int .i64 q)) := (Keeps.refl _ W).setCell (fun h => h rfl) _
  exact ⟨(hk.block _ (by omega)).trans D.res, two_set1 D.box _, D.lt, D.own.keeps (hk.mono fun j hj => by have := hj.2; omega), D.rd.set (by show r < d; omega) _, RK.set D.keep (by show _ ≤ d; omega) _, D.rlt⟩
theorem DQ.setV (D : DQ w r P d v xs m W) (u : Value) (ys : List Int) (ho : OwnN (w.heap.size + 1) d W u ys) : DQ w r P d u ys m (W.setCell ⟨d, 0, none⟩ u) := by
  have := D.size
  have := D.lt
  have := D.rlt
  have hk : Keeps (fun j => j ≠ d) W (W.setCell ⟨d, 0, none⟩ u) := (Keeps.refl _ W).setCell (fun h => h rfl) _
  exact ⟨(hk.block _ (by omega)).trans D.res, two_set0 D.box _, D.lt, ho.keeps (hk.mono fun j hj => by have := hj.2; omega), D.rd.set (by show r < d; omega) _, RK.set D.keep (by show _ ≤ d; omega) _, D.rlt⟩
theorem DQ.mono (D : DQ w r P d v xs m W) {P' : Nat} (h : P ≤ P') : DQ w r P' d v xs m W := ⟨D.res, D.box, D.lt, D.own, D.rd.mono h, D.keep, D.rlt⟩
theorem DQ.c0 (D : DQ w r P d v xs m W) : W.cell? ⟨d, 0, none⟩ = some v := two_cell0 D.box
theorem DQ.c1 (D : DQ w r P d v xs m W) : W.cell? ⟨d, 1, none⟩ = some (.int .i64 m) := two_cell1 D.box
theorem DQ.r0 (D : DQ w r P d v xs m W) : W.cell? ⟨w.heap.size, 0, none⟩ = some (.slice none 0 0) := two_cell0 D.res
theorem DQ.r1 (D : DQ w r P d v xs m W) : W.cell? ⟨w.heap.size, 1, none⟩ = some (.int .i64 0) := two_cell1 D.res
theorem DQ.free (D : DQ w r P d v xs m W) (j : Nat) : W.frozen? ⟨d, j, none⟩ = false := two_free D.box j
theorem DQ.rfree (D : DQ w r P d v xs m W) (j : Nat) : W.frozen? ⟨w.heap.size, j, none⟩ = false := two_free D.res j
end
theorem OwnN.take {lo hi : Nat} {w : World} {ao : Option Addr} {n c : Nat} {xs : List Int} (h : OwnN lo hi w (.slice ao n c) xs) {k : Nat} (hk : k ≤ xs.length) : OwnN lo hi w (.slice ao k c) (xs.take k) := by
  rcases h with ⟨rfl, ao', c', e, hc⟩ | ⟨g, o, c', T, e, hl, hc, hok, h1, h2, cs, h3, h4⟩
  · obtain rfl : k = 0 := by simpa using hk
    simp only [Value.slice.injEq] at e
    obtain ⟨-, -, rfl⟩ := e
    exact .inl ⟨rfl, ao, c, rfl, hc⟩
  · simp only [Value.slice.injEq] at e
    obtain ⟨rfl, -, rfl⟩ := e
    have hl' : (xs.take k).length = k := by rw [List.length_take]; omega
    exact .inr ⟨g, o, c, T, by rw [hl'], by omega, hc, okN_take hok k, h1, h2, cs, h3, fun j hj => by rw [List.getElem_take]; exact h4 j (by omega)⟩

/-- A drawn deque. -/
def DrawD (r P : Nat) (w : World) (e : Ending) (w' : World) : Prop :=
  ∃ v xs m, e = .returned (.agg #[v, .int .i64 m]) ∧ (xs.length ≤ 11 ∧ nearL xs ∧ -2 ≤ m ∧ m ≤ 11) ∧ OwnN w.heap.size w'.heap.size w' v xs ∧ Reader w' r P ∧ Keeps (RK r w) w w'

theorem DQ.fin {w W : World} {r P d : Nat} {v : Value} {xs : List Int} {m : Int} (D : DQ w r P d v xs m W) (a b : Value) :
    OwnN w.heap.size ((W.setCell ⟨w.heap.size, 0, none⟩ a).setCell ⟨w.heap.size, 1, none⟩ b).heap.size ((W.setCell ⟨w.heap.size, 0, none⟩ a).setCell ⟨w.heap.size, 1, none⟩ b) v xs ∧ Reader ((W.setCell ⟨w.heap.size, 0, none⟩ a).setCell ⟨w.heap.size, 1, none⟩ b) r P ∧ Keeps (RK r w) w ((W.setCell ⟨w.heap.size, 0, none⟩ a).setCell ⟨w.heap.size, 1, none⟩ b) := by
  have hs := D.size
  exact ⟨(D.own.keeps (((Keeps.refl _ _).setCell (by simp [In]; omega) _).setCell (by simp [In]; omega) _)).wide (by omega) (by simp; omega), (D.rd.set D.rlt _).set D.rlt _, RK.set (RK.set D.keep (Nat.le_refl _) _) (Nat.le_refl _) _⟩

set_option linter.unusedSimpArgs false in
set_option maxHeartbeats 3200000 in
set_option maxRecDepth 100000 in
theorem someDeque_any (r P : Nat) (w : World) (h : Reader w r P) (hP : P ≤ 100000) :
    Calls Try.prog 53 #[.pointer (some ⟨r, 0, none⟩)] w (DrawD r (P + 19) w) := by
  have hrlt := h.lt
  have hb0 : Below w.heap.size w (w.alloc (.cells #[.slice none 0 0, .int .i64 0] 25)) := (Below.refl _ _).alloc (Nat.le_refl _) _
  have HR := Lib.hid (heap_new w (.cells #[.slice none 0 0, .int .i64 0] 25))
  go_enter Try.func53, Try.ntmps53
  go_wp2_with fail
  refine (someInts_any r P (w.alloc (.cells #[.slice none 0 0, .int .i64 0] 25)) (h.below hb0) (by omega)).mono ?_
  rintro e w1 ⟨v, xs, rfl, hl, hnear, hown, hr1, hk1⟩
  have hs1 := hk1.size
  simp at hs1
  have hne : ¬ w.heap.size = w1.heap.size := by omega
  have hne' : ¬ w1.heap.size = w.heap.size := by omega
  obtain ⟨xo, xcap, rfl, hlc, hcm⟩ := hown.nums.slice
  have D1 : DQ w r (P + 14) w1.heap.size (.slice xo xs.length xcap) xs (-1) (w1.alloc (.cells #[.slice xo xs.length xcap, .int .i64 (-1)] 25)) := by
    have hbx : Below w1.heap.size w1 (w1.alloc (.cells #[.slice xo xs.length xcap, .int .i64 (-1)] 25)) := (Below.refl _ _).alloc (Nat.le_refl _) _
    refine ⟨heap_old ((hk1.block _ ⟨by simp, by omega⟩).trans HR.out) _, heap_new _ _, by omega, (hown.below hbx (Nat.le_refl _)).wide (by simp) (Nat.le_refl _), hr1.below hbx, ?_, hrlt⟩
    exact RK.trans (RK.trans (RK.of_below hb0) hk1) (RK.of_below hbx)
  clear hown hr1 hk1 hb0 h
  go_wp2_with fail
  refine (pick_any r _ 4 _ D1.rd (by omega) (by omega) (by omega)).mono ?_
  rintro e w2 ⟨k, rfl, hk, hr2, hk2⟩
  have D2 := D1.draw hr2 hk2
  clear D1 hr2 hk2
  have c0 := D2.c0
  have c1 := D2.c1
  have f0 := D2.free 0
  have f1 := D2.free 1
  by_cases h0 : k = 0
  · subst h0
    go_wp2_with fail
    refine (one_lit r _ [5, 3, 10, 0, 8] w2 D2.rd (by omega) (by decide) (by decide) rfl rfl).mono ?_
    rintro e w3 ⟨q, hq, rfl, hr3, hk3⟩
    have hq2 : 0 ≤ q ∧ q ≤ 10 := by simp at hq; omega
    obtain ⟨n, rfl⟩ := Int.eq_ofNat_of_zero_le hq2.1
    have D3 := D2.draw hr3 hk3
    have D3' := D3.setM (n : Int)
    clear hq D2 hr3 hk3 c0 c1 f0 f1
    have c0 := D3.c0
    have c1 := D3.c1
    have f0 := D3.free 0
    have f1 := D3.free 1
    by_cases hlx : (n : Int) < (xs.length : Int)
    · go_wp2_with fail
      refine (pick_any r _ 12 _ D3'.rd (by omega) (by omega) (by omega)).mono ?_
      rintro e w4 ⟨k4, rfl, hk4, hr4, hk4'⟩
      have D4 := D3'.draw hr4 hk4'
      clear D3 D3' c0 c1 f0 f1 hr4 hk4'
      have c0 := D4.c0
      have c1 := D4.c1
      have f0 := D4.free 0
      have f1 := D4.free 1
      by_cases h4 : k4 = 0
      · subst h4
        go_wp2_with fail
        clear c0 c1 f0 f1
        refine (pick_any r _ 24 _ D4.rd (by omega) (by omega) (by omega)).mono ?_
        rintro e w5 ⟨k5, rfl, hk5, hr5, hk5'⟩
        have D5 := D4.draw hr5 hk5'
        clear D4 hr5 hk5'
        have u0 := D5.c0
        have u1 := D5.c1
        have s0 := D5.r0
        have s1 := D5.r1
        have t0 := D5.rfree 0
        have t1 := D5.rfree 1
        have g1 := D5.free 1
        by_cases h5 : k5 = 0
        · subst h5
          go_wp2_with fail
          refine (one_lit r _ [-2, 11] w5 D5.rd (by omega) (by decide) (by decide) rfl rfl).mono ?_
          rintro e w6 ⟨x, hx, rfl, hr6, hk6⟩
          have hx2 : -2 ≤ x ∧ x ≤ 11 := by simp at hx; omega
          have D6 := D5.draw hr6 hk6
          have D7 := Lib.hid (D6.setM x)
          clear hx u0 u1 s0 s1 t0 t1 g1 D5 hr6 hk6
          have u0 := D6.c0
          have u1 := D6.c1
          have g1 := D6.free 1
          have s0 := D7.out.r0
          have s1 := D7.out.r1
          have t0 := D6.rfree 0
          have t1 := D6.rfree 1
          have z0 := D6.r0
          have z1 := D6.r1
          clear D6
          go_wp2
          exact bodyPost_ret (v := .agg #[.slice xo xs.length xcap, .int .i64 x]) (by simp [results, Try.results53, go_sem, z0, z1, hne, hne']) rfl ⟨_, _, _, rfl, ⟨hl, hnear, by omega, by omega⟩, (D7.out.fin _ _).1, (D7.out.fin _ _).2.1.mono (by omega), (D7.out.fin _ _).2.2⟩
        · have hb5 : ((k5 : Int) == 0) = false := by rw [beq_eq_false_iff_ne]; omega
          have D7 := Lib.hid D5
          clear D5
          go_wp2
          exact bodyPost_ret (v := .agg #[.slice xo xs.length xcap, .int .i64 n]) (by simp [results, Try.results53, go_sem, s0, s1]) rfl ⟨_, _, _, rfl, ⟨hl, hnear, by omega, by omega⟩, (D7.out.fin _ _).1, (D7.out.fin _ _).2.1.mono (by omega), (D7.out.fin _ _).2.2⟩
      · have h4' : (0 : Int) < (k4 : Int) := by omega
        have hle : n ≤ xs.length := by omega
        have D4' := D4.setV _ _ (D4.own.take hle)
        have hlt' : (xs.take n).length = n := by rw [List.length_take]; omega
        go_wp2_with fail
        clear c0 c1 f0 f1
        refine (pick_any r _ 24 _ D4'.rd (by omega) (by omega) (by omega)).mono ?_
        rintro e w5 ⟨k5, rfl, hk5, hr5, hk5'⟩
        have D5 := D4'.draw hr5 hk5'
        clear D4' hr5 hk5'
        have u0 := D5.c0
        have u1 := D5.c1
        have s0 := D5.r0
        have s1 := D5.r1
        have t0 := D5.rfree 0
        have t1 := D5.rfree 1
        have g1 := D5.free 1
        by_cases h5 : k5 = 0
        · subst h5
          go_wp2_with fail
          refine (one_lit r _ [-2, 11] w5 D5.rd (by omega) (by decide) (by decide) rfl rfl).mono ?_
          rintro e w6 ⟨x, hx, rfl, hr6, hk6⟩
          have hx2 : -2 ≤ x ∧ x ≤ 11 := by simp at hx; omega
          have D6 := D5.draw hr6 hk6
          have D7 := Lib.hid (D6.setM x)
          clear hx u0 u1 s0 s1 t0 t1 g1 D5 hr6 hk6
          have u0 := D6.c0
          have u1 := D6.c1
          have g1 := D6.free 1
          have s0 := D7.out.r0
          have s1 := D7.out.r1
          have t0 := D6.rfree 0
          have t1 := D6.rfree 1
          have z0 := D6.r0
          have z1 := D6.r1
          clear D6
          go_wp2
          exact bodyPost_ret (v := .agg #[.slice xo n xcap, .int .i64 x]) (by simp [results, Try.results53, go_sem, z0, z1, hne, hne']) rfl ⟨_, _, _, rfl, ⟨by rw [hlt']; omega, hnear.take n, by omega, by omega⟩, (D7.out.fin _ _).1, (D7.out.fin _ _).2.1.mono (by omega), (D7.out.fin _ _).2.2⟩
        · have hb5 : ((k5 : Int) == 0) = false := by rw [beq_eq_false_iff_ne]; omega
          have D7 := Lib.hid D5
          clear D5
          go_wp2
          exact bodyPost_ret (v := .agg #[.slice xo n xcap, .int .i64 n]) (by simp [results, Try.results53, go_sem, s0, s1]) rfl ⟨_, _, _, rfl, ⟨by rw [hlt']; omega, hnear.take n, by omega, by omega⟩, (D7.out.fin _ _).1, (D7.out.fin _ _).2.1.mono (by omega), (D7.out.fin _ _).2.2⟩
    · go_wp2_with fail
      clear c0 c1 f0 f1
      refine (pick_any r _ 24 _ D3'.rd (by omega) (by omega) (by omega)).mono ?_
      rintro e w5 ⟨k5, rfl, hk5, hr5, hk5'⟩
      have D5 := D3'.draw hr5 hk5'
      clear D3' hr5 hk5'
      have u0 := D5.c0
      have u1 := D5.c1
      have s0 := D5.r0
      have s1 := D5.r1
      have t0 := D5.rfree 0
      have t1 := D5.rfree 1
      have g1 := D5.free 1
      by_cases h5 : k5 = 0
      · subst h5
        go_wp2_with fail
        refine (one_lit r _ [-2, 11] w5 D5.rd (by omega) (by decide) (by decide) rfl rfl).mono ?_
        rintro e w6 ⟨x, hx, rfl, hr6, hk6⟩
        have hx2 : -2 ≤ x ∧ x ≤ 11 := by simp at hx; omega
        have D6 := D5.draw hr6 hk6
        have D7 := Lib.hid (D6.setM x)
        clear hx u0 u1 s0 s1 t0 t1 g1 D5 hr6 hk6
        have u0 := D6.c0
        have u1 := D6.c1
        have g1 := D6.free 1
        have s0 := D7.out.r0
        have s1 := D7.out.r1
        have t0 := D6.rfree 0
        have t1 := D6.rfree 1
        have z0 := D6.r0
        have z1 := D6.r1
        clear D6
        go_wp2
        exact bodyPost_ret (v := .agg #[.slice xo xs.length xcap, .int .i64 x]) (by simp [results, Try.results53, go_sem, z0, z1, hne, hne']) rfl ⟨_, _, _, rfl, ⟨hl, hnear, by omega, by omega⟩, (D7.out.fin _ _).1, (D7.out.fin _ _).2.1.mono (by omega), (D7.out.fin _ _).2.2⟩
      · have hb5 : ((k5 : Int) == 0) = false := by rw [beq_eq_false_iff_ne]; omega
        have D7 := Lib.hid D5
        clear D5
        go_wp2
        exact bodyPost_ret (v := .agg #[.slice xo xs.length xcap, .int .i64 n]) (by simp [results, Try.results53, go_sem, s0, s1]) rfl ⟨_, _, _, rfl, ⟨hl, hnear, by omega, by omega⟩, (D7.out.fin _ _).1, (D7.out.fin _ _).2.1.mono (by omega), (D7.out.fin _ _).2.2⟩
  · have hb0 : ((k : Int) == 0) = false := by rw [beq_eq_false_iff_ne]; omega
    by_cases h1 : k = 1
    · subst h1
      have D3 := D2.setM (xs.length : Int)
      go_wp2_with fail
      clear c0 c1 f0 f1
      refine (pick_any r _ 24 _ D3.rd (by omega) (by omega) (by omega)).mono ?_
      rintro e w5 ⟨k5, rfl, hk5, hr5, hk5'⟩
      have D5 := D3.draw hr5 hk5'
      clear D3 hr5 hk5'
      have u0 := D5.c0
      have u1 := D5.c1
      have s0 := D5.r0
      have s1 := D5.r1
      have t0 := D5.rfree 0
      have t1 := D5.rfree 1
      have g1 := D5.free 1
      by_cases h5 : k5 = 0
      · subst h5
        go_wp2_with fail
        refine (one_lit r _ [-2, 11] w5 D5.rd (by omega) (by decide) (by decide) rfl rfl).mono ?_
        rintro e w6 ⟨x, hx, rfl, hr6, hk6⟩
        have hx2 : -2 ≤ x ∧ x ≤ 11 := by simp at hx; omega
        have D6 := D5.draw hr6 hk6
        have D7 := Lib.hid (D6.setM x)
        clear hx u0 u1 s0 s1 t0 t1 g1 D5 hr6 hk6
        have u0 := D6.c0
        have u1 := D6.c1
        have g1 := D6.free 1
        have s0 := D7.out.r0
        have s1 := D7.out.r1
        have t0 := D6.rfree 0
        have t1 := D6.rfree 1
        have z0 := D6.r0
        have z1 := D6.r1
        clear D6
        go_wp2
        exact bodyPost_ret (v := .agg #[.slice xo xs.length xcap, .int .i64 x]) (by simp [results, Try.results53, go_sem, z0, z1, hne, hne']) rfl ⟨_, _, _, rfl, ⟨hl, hnear, by omega, by omega⟩, (D7.out.fin _ _).1, (D7.out.fin _ _).2.1.mono (by omega), (D7.out.fin _ _).2.2⟩
      · have hb5 : ((k5 : Int) == 0) = false := by rw [beq_eq_false_iff_ne]; omega
        have D7 := Lib.hid D5
        clear D5
        go_wp2
        exact bodyPost_ret (v := .agg #[.slice xo xs.length xcap, .int .i64 xs.length]) (by simp [results, Try.results53, go_sem, s0, s1]) rfl ⟨_, _, _, rfl, ⟨hl, hnear, by omega, by omega⟩, (D7.out.fin _ _).1, (D7.out.fin _ _).2.1.mono (by omega), (D7.out.fin _ _).2.2⟩
    · have hb1 : ((k : Int) == 1) = false := by rw [beq_eq_false_iff_ne]; omega
      go_wp2_with fail
      clear c0 c1 f0 f1
      refine (pick_any r _ 24 _ D2.rd (by omega) (by omega) (by omega)).mono ?_
      rintro e w5 ⟨k5, rfl, hk5, hr5, hk5'⟩
      have D5 := D2.draw hr5 hk5'
      clear D2 hr5 hk5'
      have u0 := D5.c0
      have u1 := D5.c1
      have s0 := D5.r0
      have s1 := D5.r1
      have t0 := D5.rfree 0
      have t1 := D5.rfree 1
      have g1 := D5.free 1
      by_cases h5 : k5 = 0
      · subst h5
        go_wp2_with fail
        refine (one_lit r _ [-2, 11] w5 D5.rd (by omega) (by decide) (by decide) rfl rfl).mono ?_
        rintro e w6 ⟨x, hx, rfl, hr6, hk6⟩
        have hx2 : -2 ≤ x ∧ x ≤ 11 := by simp at hx; omega
        have D6 := D5.draw hr6 hk6
        have D7 := Lib.hid (D6.setM x)
        clear hx u0 u1 s0 s1 t0 t1 g1 D5 hr6 hk6
        have u0 := D6.c0
        have u1 := D6.c1
        have g1 := D6.free 1
        have s0 := D7.out.r0
        have s1 := D7.out.r1
        have t0 := D6.rfree 0
        have t1 := D6.rfree 1
        have z0 := D6.r0
        have z1 := D6.r1
        clear D6
        go_wp2
        exact bodyPost_ret (v := .agg #[.slice xo xs.length xcap, .int .i64 x]) (by simp [results, Try.results53, go_sem, z0, z1, hne, hne']) rfl ⟨_, _, _, rfl, ⟨hl, hnear, by omega, by omega⟩, (D7.out.fin _ _).1, (D7.out.fin _ _).2.1.mono (by omega), (D7.out.fin _ _).2.2⟩
      · have hb5 : ((k5 : Int) == 0) = false := by rw [beq_eq_false_iff_ne]; omega
        have D7 := Lib.hid D5
        clear D5
        go_wp2
        exact bodyPost_ret (v := .agg #[.slice xo xs.length xcap, .int .i64 (-1)]) (by simp [results, Try.results53, go_sem, s0, s1]) rfl ⟨_, _, _, rfl, ⟨hl, hnear, by omega, by omega⟩, (D7.out.fin _ _).1, (D7.out.fin _ _).2.1.mono (by omega), (D7.out.fin _ _).2.2⟩
end Go.Proofs.Ytcipkdegcplmcaa
