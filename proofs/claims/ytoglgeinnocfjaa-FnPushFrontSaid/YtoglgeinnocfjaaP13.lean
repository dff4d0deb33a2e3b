/-
  RdN, RdD, LwN, LwD.
-/
import Derived.Test.YtoglgeinnocfjaaP4
import Derived.Test.YtoglgeinnocfjaaP8
import Derived.Test.YtoglgeinnocfjaaP11
/-
  Numbers and deques drawn from a reader.
-/
namespace Go.Proofs.Ytoglgeinnocfjaa
open Go.RowKit

def nearL (xs : List Int) : Prop := ∀ x ∈ xs, -10000 ≤ x ∧ x ≤ 10000
theorem nearL.ok {xs : List Int} (h : nearL xs) : okN xs := fun x hx => by have := h x hx; omega
theorem nearL.snoc {xs : List Int} (h : nearL xs) {x : Int} (hx : -10000 ≤ x ∧ x ≤ 10000) : nearL (xs ++ [x]) := fun y hy => by
  rcases List.mem_append.1 hy with hy | hy
  · exact h y hy
  · rw [List.mem_singleton.1 hy]; exact hx
theorem nearL.take {xs : List Int} (h : nearL xs) (k : Nat) : nearL (xs.take k) := fun y hy => h y (List.mem_of_mem_take hy)
/-- Drawn numbers. -/
def DrawL (r P m : Nat) (w : World) (e : Ending) (w' : World) : Prop :=
  ∃ v xs, e = .returned v ∧ xs.length ≤ m ∧ nearL xs ∧ OwnN w.heap.size w'.heap.size w' v xs ∧ Reader w' r P ∧ Keeps (RK r w) w w'

set_option maxHeartbeats 800000 in
set_option maxRecDepth 100000 in
theorem aNumber_any (r P : Nat) (w : World) (h : Reader w r P) (hP : P ≤ 100000000) :
    Calls Try.prog 120 #[.pointer (some ⟨r, 0, none⟩)] w (DrawN r (P + 1) w) := by
  go_enter Try.func120, Try.ntmps120
  go_wp2_with fail
  refine (one_lit r P [1, 2, 3, 4, 5, 1, -1, 0, 9] w h hP (by decide) (by decide) rfl rfl).mono ?_
  rintro e w1 ⟨x, hx, rfl, hr1, hk1⟩
  have hs := near_mem (by rfl) hx
  clear hx
  go_wp2
  go_ret
  exact ⟨x, hs, rfl, hr1, hk1⟩

set_option maxHeartbeats 800000 in
set_option maxRecDepth 100000 in
theorem anyNumber_any (r P : Nat) (w : World) (h : Reader w r P) (hP : P ≤ 10000000) :
    Calls Try.prog 115 #[.pointer (some ⟨r, 0, none⟩)] w (DrawN r (P + 2) w) := by
  go_enter Try.func115, Try.ntmps115
  go_wp2_with fail
  refine (pick_any r P 20 w h (by omega) (by omega) (by omega)).mono ?_
  rintro e w1 ⟨x, rfl, hx, hr1, hk1⟩
  by_cases h0 : x = 0
  · subst h0
    go_wp2_with fail
    refine (one_lit r (P + 1) [10000, -10000, 9999] w1 hr1 (by omega) (by decide) (by decide) rfl rfl).mono ?_
    rintro e w2 ⟨x, hx, rfl, hr2, hk2⟩
    have hs := near_mem (by rfl) hx
    clear hx
    go_wp2
    go_ret
    exact ⟨x, hs, rfl, hr2, RK.trans hk1 hk2⟩
  · have hz : ((x : Int) == 0) = false := by rw [beq_eq_false_iff_ne]; omega
    go_wp2_with fail
    refine (aNumber_any r (P + 1) w1 hr1 (by omega)).mono ?_
    rintro e w2 ⟨s, hs, rfl, hr2, hk2⟩
    go_wp2
    go_ret
    exact ⟨s, hs, rfl, hr2, RK.trans hk1 hk2⟩

theorem zeros11 : (madeCells (Value.int IntKind.i64 0).cells (11 * 1)).toList = cellsN (List.replicate 11 0) := by
  have h := toList_madeCells_one (.int .i64 0) 11
  have e : cellsN (List.replicate 11 0) = List.replicate 11 (.int .i64 0) := by simp [cellsN]
  rw [e, ← h]
  rfl

set_option maxHeartbeats 1600000 in
set_option maxRecDepth 100000 in
theorem someInts_any (r P : Nat) (w : World) (h : Reader w r P) (hP : P ≤ 1000000) :
    Calls Try.prog 75 #[.pointer (some ⟨r, 0, none⟩)] w (DrawL r (P + 14) 11 w) := by
  have hrlt := h.lt
  have hb0 : Below w.heap.size w (w.alloc (.cells #[] 3)) := (Below.refl _ _).alloc (Nat.le_refl _) _
  have hlit := World.ownsRow_lit (base := w.heap.size) (e := 3) (size := 1) w #[] 0 (Nat.le_refl _) (by unfold maxLen; omega) rfl
  go_enter Try.func75, Try.ntmps75
  go_wp2_with fail
  refine (one_lit_at (w.heap.size + 1) r P [3, 4, 2, 5, 1, 0, 10] (w.alloc (.cells #[] 3)) (by simp) (h.below hb0) (by omega) (by decide) (by decide) rfl rfl).mono ?_
  rintro e w1 ⟨n, hn, rfl, hr1, hk1⟩
  have hn8 : 0 ≤ n ∧ n ≤ 10 := by simp at hn; omega
  obtain ⟨q0, rfl⟩ := Int.eq_ofNat_of_zero_le hn8.1
  have hk1' := RK.trans (RK.of_below hb0) hk1
  have hlit1 := own_keeps hlit hrlt hk1
  clear hn hlit hk1
  go_wp2
  go_loopw [3, 4] (fun x i wr => ∃ (xs : List Int) (q : Nat), i = .int .i64 q ∧ xs.length + q ≤ 10 ∧ nearL xs ∧ wr.ownsRow w.heap.size 3 1 x xs.length (cellsN xs) ∧ Reader wr r (P + 1 + (10 - q)) ∧ Keeps (RK r w) w wr) (fun _ i _ => (intOf i).toNat)
  case atStart => exact ⟨[], q0, rfl, by simp; omega, fun x hx => by simp at hx, hlit1, hr1.mono (by omega), hk1'⟩
  case round =>
    clear hlit1 hr1 hk1' h
    obtain ⟨xs, q, rfl, hq8, hnear, hown, hr, hk⟩ := hrel
    obtain ⟨xo, xcap, rfl, _, _⟩ := own_slice hown
    by_cases hq : 0 < q
    · go_wp2_with fail
      refine (aNumber_any r _ wr hr (by omega)).mono ?_
      rintro e w2 ⟨c, hc, rfl, hr2, hk2⟩
      have hown2 := own_keeps hown hrlt hk2
      have hkk2 := RK.trans hk hk2
      have hs2 := hkk2.size
      clear hr hk2 hk hown
      go_wp2_with (at_builtin; refine wpl_append_nums _ rfl _ _ rfl w.heap.size (.slice xo xs.length xcap) xs.length (cellsN xs) rfl (hown2.alloc _) (.slice (some ⟨w2.heap.size, 0, none⟩) 1 1) [c] rfl (Nums_one _ _ _ (by omega)) (by omega) (by simp) (by simp; omega) ?_; intro v' w5 hown5 hgrow5)
      have hkk5 := RK.grown hkk2 _ hown2 (Nat.le_refl _) hgrow5
      have hr5 := Reader.grown3 hr2 _ hown2 hrlt hgrow5
      have hown6 : w5.ownsRow w.heap.size 3 1 v' (xs ++ [c]).length (cellsN (xs ++ [c])) := by rw [List.length_append, cellsN_append]; exact hown5
      clear hown5 hgrow5 hown2 hkk2 hr2
      go_roundw
      case rel => exact ⟨_, q - 1, by go_num, by rw [List.length_append]; simp; omega, hnear.snoc hc, hown6, hr5.mono (by omega), hkk5⟩
      case measure => simp [intOf]; omega
    · obtain rfl : q = 0 := by omega
      go_wp2_with fail
      refine (pick_any r _ 30 wr hr (by omega) (by omega) (by omega)).mono ?_
      rintro e w3 ⟨c, rfl, hc, hr3, hk3⟩
      have hown3 := own_keeps hown hrlt hk3
      have hkk3 := RK.trans hk hk3
      have hs3 := hkk3.size
      clear hk hk3 hr hown
      by_cases h0 : c = 0
      · subst h0
        go_wp2_with fail
        refine (anyNumber_any r _ w3 hr3 (by omega)).mono ?_
        rintro e w2 ⟨c, hc, rfl, hr2, hk2⟩
        have hown2 := own_keeps hown3 hrlt hk2
        have hkk2 := RK.trans hkk3 hk2
        have hs2 := hkk2.size
        clear hr3 hk2 hkk3 hown3
        go_wp2_with (at_builtin; refine wpl_append_nums _ rfl _ _ rfl w.heap.size (.slice xo xs.length xcap) xs.length (cellsN xs) rfl (hown2.alloc _) (.slice (some ⟨w2.heap.size, 0, none⟩) 1 1) [c] rfl (Nums_one _ _ _ (by omega)) (by omega) (by simp) (by simp; omega) ?_; intro v' w5 hown5 hgrow5)
        have hkk5 := RK.grown hkk2 _ hown2 (Nat.le_refl _) hgrow5
        have hr5 := Reader.grown3 hr2 _ hown2 hrlt hgrow5
        have hn5 := hnear.snoc hc
        have hown6 : OwnN w.heap.size w5.heap.size w5 v' (xs ++ [c]) := OwnN.of (n := xs.length + 1) (by rw [cellsN_append]; exact hown5) hn5.ok
        clear hown5 hgrow5 hown2 hkk2 hr2
        go_wp2
        go_ret
        exact ⟨_, _, rfl, by rw [List.length_append]; simp; omega, hn5, hown6, hr5.mono (by omega), hkk5⟩
      · have hb0 : ((c : Int) == 0) = false := by rw [beq_eq_false_iff_ne]; omega
        by_cases h1 : c = 1
        · subst h1
          obtain ⟨i0, hi, hz0, hz1, hz2⟩ := info_parts Try.infoN
          have hbytes : i0.bytes * 11 ≤ 281474976710656 := by rw [hz2]; omega
          go_wp2_with (at_make; refine wpList_make_full _ rfl _ _ 23 rfl w3.heap.size 3 i0 _ 1 Try.underlying23 hi hz0 hz1 _ _ _ _ 11 rfl rfl rfl rfl hbytes (by unfold maxLen; omega) (Nat.le_refl _) ?_; intro w0 hown0 hgrow0)
          have hb3 : Below w3.heap.size w3 w0 := (Below.refl _ _).grown hgrow0 (Nat.le_refl _) (fun k hk => by cases hk)
          have hr5 := hr3.below hb3
          have hkk5 := RK.trans hkk3 (RK.of_below hb3)
          have hnz : nearL (List.replicate 11 0) := fun x hx => by rw [(List.mem_replicate.1 hx).2]; omega
          have hown6 : OwnN w.heap.size w0.heap.size w0 (.slice (some ⟨w3.heap.size, 0, none⟩) 11 11) (List.replicate 11 0) := (OwnN.of (n := 11) (xs := List.replicate 11 0) (zeros11 ▸ hown0) hnz.ok).wide hs3 (Nat.le_refl _)
          clear hown0 hgrow0 hown3
          go_wp2
          go_ret
          exact ⟨_, _, rfl, by simp, hnz, hown6, hr5.mono (by omega), hkk5⟩
        · have hb1 : ((c : Int) == 1) = false := by rw [beq_eq_false_iff_ne]; omega
          go_wp2
          go_ret
          exact ⟨_, xs, rfl, by omega, hnear, OwnN.of (n := xs.length) hown3 hnear.ok, hr3.mono (by omega), hkk3⟩
end Go.Proofs.Ytoglgeinnocfjaa
/-
  A deque drawn from a reader.
-/
namespace Go.Proofs.Ytoglgeinnocfjaa
open Go.RowKit

/-- What is known while a deque is drawn: its box d, the result's box (the first block made), the reader. -/
structure DQ (w : World) (r P d : Nat) (v : Value) (xs : List Int) (m : Int) (W : World) : Prop where
  res : W.heap[w.heap.size]? = some (.cells #[.slice none 0 0, .int .i64 0] 25 (0, 0))
  box : W.heap[d]? = some (.cells #[v, .int .i64 m] 25 (0, 0))
  lt : w.heap.size < d
  own : OwnN (w.heap.size + 1) d W v xs
  rd : Reader W r P
  keep : Keeps (RK r w) w W
  rlt : r < w.heap.size
section
variable {w W : World} {r P d : Nat} {v : Value} {xs : List Int} {m : Int}
theorem DQ.size (D : DQ w r P d v xs m W) : d < W.heap.size := lt_of_block D.box
theorem DQ.draw (D : DQ w r P d v xs m W) {W' : World} {P' : Nat} (hr : Reader W' r P') (hk : Keeps (RK r W) W W') : DQ w r P' d v xs m W' := by
  have := D.size
  have := D.lt
  have := D.rlt
  exact ⟨(hk.block _ ⟨by omega, by omega⟩).trans D.res, (hk.block _ ⟨by omega, by omega⟩).trans D.box, D.lt, D.own.keeps (hk.mono fun j hj => ⟨by have := hj.2; omega, by have := hj.1; omega⟩), hr, RK.trans D.keep hk, D.rlt⟩
theorem DQ.below (D : DQ w r P d v xs m W) {W' : World} (hb : Below W.heap.size W W') : DQ w r P d v xs m W' := D.draw (D.rd.below hb) (RK.of_below hb)
theorem DQ.setM (D : DQ w r P d v xs m W) (q : Int) : DQ w r P d v xs q (W.setCell ⟨d, 1, none⟩ (.int .i64 q)) := by
  have := D.size
  have := D.lt
  have := D.rlt
  have hk : Keeps (fun j => j ≠ d) W (W.setCell ⟨d, 1, none⟩ (.int .i64 q)) := (Keeps.refl _ W).setCell (fun h => h rfl) _
  exact ⟨(hk.block _ (by omega)).trans D.res, two_set1 D.box _, D.lt, D.own.keeps (hk.mono fun j hj => by have := hj.2; omega), D.rd.set (by show r < d; omega) _, RK.set D.keep (by show _ ≤ d; omega) _, D.rlt⟩
theorem DQ.setV (D : DQ w r P d v xs m W) (u : Value) (ys : List Int) (ho : OwnN (w.heap.size + 1) d W u ys) : DQ w r P d u ys m (W.setCell ⟨d, 0, none⟩ u) := by
  have := D.size
  have := D.lt
  have := D.rlt
  have hk : Keeps (fun j => j ≠ d) W (W.setCell ⟨d, 0, none⟩ u) := (Keeps.refl _ W).setCell (fun h => h rfl) _
  exact ⟨(hk.block _ (by omega)).trans D.res, two_set0 D.box _, D.lt, ho.keeps (hk.mono fun j hj => by have := hj.2; omega), D.rd.set (by show r < d; omega) _, RK.set D.keep (by show _ ≤ d; omega) _, D.rlt⟩
theorem DQ.mono (D : DQ w r P d v xs m W) {P' : Nat} (h : P ≤ P') : DQ w r P' d v xs m W := ⟨D.res, D.box, D.lt, D.own, D.rd.mono h, D.keep, D.rlt⟩
theorem DQ.c0 (D : DQ w r P d v xs m W) : W.cell? ⟨d, 0, none⟩ = some v := two_cell0 D.box
theorem DQ.c1 (D : DQ w r P d v xs m W) : W.cell? ⟨d, 1, none⟩ = some (.int .i64 m) := two_cell1 D.box
theorem DQ.r0 (D : DQ w r P d v xs m W) : W.cell? ⟨w.heap.size, 0, none⟩ = some (.slice none 0 0) := two_cell0 D.res
theorem DQ.r1 (D : DQ w r P d v xs m W) : W.cell? ⟨w.heap.size, 1, none⟩ = some (.int .i64 0) := two_cell1 D.res
theorem DQ.free (D : DQ w r P d v xs m W) (j : Nat) : W.frozen? ⟨d, j, none⟩ = false := two_free D.box j
theorem DQ.rfree (D : DQ w r P d v xs m W) (j : Nat) : W.frozen? ⟨w.heap.size, j, none⟩ = false := two_free D.res j
end
theorem OwnN.take {lo hi : Nat} {w : World} {ao : Option Addr} {n c : Nat} {xs : List Int} (h : OwnN lo hi w (.slice ao n c) xs) {k : Nat} (hk : k ≤ xs.length) : OwnN lo hi w (.slice ao k c) (xs.take k) := by
  rcases h with ⟨rfl, ao', c', e, hc⟩ | ⟨g, o, c', T, e, hl, hc, hok, h1, h2, cs, h3, h4⟩
  · obtain rfl : k = 0 := by simpa using hk
    simp only [Value.slice.injEq] at e
    obtain ⟨-, -, rfl⟩ := e
    exact .inl ⟨rfl, ao, c, rfl, hc⟩
  · simp only [Value.slice.injEq] at e
    obtain ⟨rfl, -, rfl⟩ := e
    have hl' : (xs.take k).length = k := by rw [List.length_take]; omega
    exact .inr ⟨g, o, c, T, by rw [hl'], by omega, hc, okN_take hok k, h1, h2, cs, h3, fun j hj => by rw [List.getElem_take]; exact h4 j (by omega)⟩

/-- A drawn deque. -/
def DrawD (r P : Nat) (w : World) (e : Ending) (w' : World) : Prop :=
  ∃ v xs m, e = .returned (.agg #[v, .int .i64 m]) ∧ (xs.length ≤ 11 ∧ nearL xs ∧ -2 ≤ m ∧ m ≤ 11) ∧ OwnN w.heap.size w'.heap.size w' v xs ∧ Reader w' r P ∧ Keeps (RK r w) w w'

theorem DQ.fin {w W : World} {r P d : Nat} {v : Value} {xs : List Int} {m : Int} (D : DQ w r P d v xs m W) (a b : Value) :
    OwnN w.heap.size ((W.setCell ⟨w.heap.size, 0, none⟩ a).setCell ⟨w.heap.size, 1, none⟩ b).heap.size ((W.setCell ⟨w.heap.size, 0, none⟩ a).setCell ⟨w.heap.size, 1, none⟩ b) v xs ∧ Reader ((W.setCell ⟨w.heap.size, 0, none⟩ a).setCell ⟨w.heap.size, 1, none⟩ b) r P ∧ Keeps (RK r w) w ((W.setCell ⟨w.heap.size, 0, none⟩ a).setCell ⟨w.heap.size, 1, none⟩ b) := by
  have hs := D.size
  exact ⟨(D.own.keeps (((Keeps.refl _ _).setCell (by simp [In]; omega) _).setCell (by simp [In]; omega) _)).wide (by omega) (by simp; omega), (D.rd.set D.rlt _).set D.rlt _, RK.set (RK.set D.keep (Nat.le_refl _) _) (Nat.le_refl _) _⟩

set_option linter.unusedSimpArgs false in
set_option maxHeartbeats 3200000 in
set_option maxRecDepth 100000 in
theorem someDeque_any (r P : Nat) (w : World) (h : Reader w r P) (hP : P ≤ 100000) :
    Calls Try.prog 74 #[.pointer (some ⟨r, 0, none⟩)] w (DrawD r (P + 19) w) := by
  have hrlt := h.lt
  have hb0 : Below w.heap.size w (w.alloc (.cells #[.slice none 0 0, .int .i64 0] 25)) := (Below.refl _ _).alloc (Nat.le_refl _) _
  have HR := Lib.hid (heap_new w (.cells #[.slice none 0 0, .int .i64 0] 25))
  go_enter Try.func74, Try.ntmps74
  go_wp2_with fail
  refine (someInts_any r P (w.alloc (.cells #[.slice none 0 0, .int .i64 0] 25)) (h.below hb0) (by omega)).mono ?_
  rintro e w1 ⟨v, xs, rfl, hl, hnear, hown, hr1, hk1⟩
  have hs1 := hk1.size
  simp at hs1
  have hne : ¬ w.heap.size = w1.heap.size := by omega
  have hne' : ¬ w1.heap.size = w.heap.size := by omega
  obtain ⟨xo, xcap, rfl, hlc, hcm⟩ := hown.nums.slice
  have D1 : DQ w r (P + 14) w1.heap.size (.slice xo xs.length xcap) xs (-1) (w1.alloc (.cells #[.slice xo xs.length xcap, .int .i64 (-1)] 25)) := by
    have hbx : Below w1.heap.size w1 (w1.alloc (.cells #[.slice xo xs.length xcap, .int .i64 (-1)] 25)) := (Below.refl _ _).alloc (Nat.le_refl _) _
    refine ⟨heap_old ((hk1.block _ ⟨by simp, by omega⟩).trans HR.out) _, heap_new _ _, by omega, (hown.below hbx (Nat.le_refl _)).wide (by simp) (Nat.le_refl _), hr1.below hbx, ?_, hrlt⟩
    exact RK.trans (RK.trans (RK.of_below hb0) hk1) (RK.of_below hbx)
  clear hown hr1 hk1 hb0 h
  go_wp2_with fail
  refine (pick_any r _ 4 _ D1.rd (by omega) (by omega) (by omega)).mono ?_
  rintro e w2 ⟨k, rfl, hk, hr2, hk2⟩
  have D2 := D1.draw hr2 hk2
  clear D1 hr2 hk2
  have c0 := D2.c0
  have c1 := D2.c1
  have f0 := D2.free 0
  have f1 := D2.free 1
  by_cases h0 : k = 0
  · subst h0
    go_wp2_with fail
    refine (one_lit r _ [5, 3, 10, 0, 8] w2 D2.rd (by omega) (by decide) (by decide) rfl rfl).mono ?_
    rintro e w3 ⟨q, hq, rfl, hr3, hk3⟩
    have hq2 : 0 ≤ q ∧ q ≤ 10 := by simp at hq; omega
    obtain ⟨n, rfl⟩ := Int.eq_ofNat_of_zero_le hq2.1
    have D3 := D2.draw hr3 hk3
    have D3' := D3.setM (n : Int)
    clear hq D2 hr3 hk3 c0 c1 f0 f1
    have c0 := D3.c0
    have c1 := D3.c1
    have f0 := D3.free 0
    have f1 := D3.free 1
    by_cases hlx : (n : Int) < (xs.length : Int)
    · go_wp2_with fail
      refine (pick_any r _ 12 _ D3'.rd (by omega) (by omega) (by omega)).mono ?_
      rintro e w4 ⟨k4, rfl, hk4, hr4, hk4'⟩
      have D4 := D3'.draw hr4 hk4'
      clear D3 D3' c0 c1 f0 f1 hr4 hk4'
      have c0 := D4.c0
      have c1 := D4.c1
      have f0 := D4.free 0
      have f1 := D4.free 1
      by_cases h4 : k4 = 0
      · subst h4
        go_wp2_with fail
        clear c0 c1 f0 f1
        refine (pick_any r _ 24 _ D4.rd (by omega) (by omega) (by omega)).mono ?_
        rintro e w5 ⟨k5, rfl, hk5, hr5, hk5'⟩
        have D5 := D4.draw hr5 hk5'
        clear D4 hr5 hk5'
        have u0 := D5.c0
        have u1 := D5.c1
        have s0 := D5.r0
        have s1 := D5.r1
        have t0 := D5.rfree 0
        have t1 := D5.rfree 1
        have g1 := D5.free 1
        by_cases h5 : k5 = 0
        · subst h5
          go_wp2_with fail
          refine (one_lit r _ [-2, 11] w5 D5.rd (by omega) (by decide) (by decide) rfl rfl).mono ?_
          rintro e w6 ⟨x, hx, rfl, hr6, hk6⟩
          have hx2 : -2 ≤ x ∧ x ≤ 11 := by simp at hx; omega
          have D6 := D5.draw hr6 hk6
          have D7 := Lib.hid (D6.setM x)
          clear hx u0 u1 s0 s1 t0 t1 g1 D5 hr6 hk6
          have u0 := D6.c0
          have u1 := D6.c1
          have g1 := D6.free 1
          have s0 := D7.out.r0
          have s1 := D7.out.r1
          have t0 := D6.rfree 0
          have t1 := D6.rfree 1
          have z0 := D6.r0
          have z1 := D6.r1
          clear D6
          go_wp2
          exact bodyPost_ret (v := .agg #[.slice xo xs.length xcap, .int .i64 x]) (by simp [results, Try.results74, go_sem, z0, z1, hne, hne']) rfl ⟨_, _, _, rfl, ⟨hl, hnear, by omega, by omega⟩, (D7.out.fin _ _).1, (D7.out.fin _ _).2.1.mono (by omega), (D7.out.fin _ _).2.2⟩
        · have hb5 : ((k5 : Int) == 0) = false := by rw [beq_eq_false_iff_ne]; omega
          have D7 := Lib.hid D5
          clear D5
          go_wp2
          exact bodyPost_ret (v := .agg #[.slice xo xs.length xcap, .int .i64 n]) (by simp [results, Try.results74, go_sem, s0, s1]) rfl ⟨_, _, _, rfl, ⟨hl, hnear, by omega, by omega⟩, (D7.out.fin _ _).1, (D7.out.fin _ _).2.1.mono (by omega), (D7.out.fin _ _).2.2⟩
      · have h4' : (0 : Int) < (k4 : Int) := by omega
        have hle : n ≤ xs.length := by omega
        have D4' := D4.setV _ _ (D4.own.take hle)
        have hlt' : (xs.take n).length = n := by rw [List.length_take]; omega
        go_wp2_with fail
        clear c0 c1 f0 f1
        refine (pick_any r _ 24 _ D4'.rd (by omega) (by omega) (by omega)).mono ?_
        rintro e w5 ⟨k5, rfl, hk5, hr5, hk5'⟩
        have D5 := D4'.draw hr5 hk5'
        clear D4' hr5 hk5'
        have u0 := D5.c0
        have u1 := D5.c1
        have s0 := D5.r0
        have s1 := D5.r1
        have t0 := D5.rfree 0
        have t1 := D5.rfree 1
        have g1 := D5.free 1
        by_cases h5 : k5 = 0
        · subst h5
          go_wp2_with fail
          refine (one_lit r _ [-2, 11] w5 D5.rd (by omega) (by decide) (by decide) rfl rfl).mono ?_
          rintro e w6 ⟨x, hx, rfl, hr6, hk6⟩
          have hx2 : -2 ≤ x ∧ x ≤ 11 := by simp at hx; omega
          have D6 := D5.draw hr6 hk6
          have D7 := Lib.hid (D6.setM x)
          clear hx u0 u1 s0 s1 t0 t1 g1 D5 hr6 hk6
          have u0 := D6.c0
          have u1 := D6.c1
          have g1 := D6.free 1
          have s0 := D7.out.r0
          have s1 := D7.out.r1
          have t0 := D6.rfree 0
          have t1 := D6.rfree 1
          have z0 := D6.r0
          have z1 := D6.r1
          clear D6
          go_wp2
          exact bodyPost_ret (v := .agg #[.slice xo n xcap, .int .i64 x]) (by simp [results, Try.results74, go_sem, z0, z1, hne, hne']) rfl ⟨_, _, _, rfl, ⟨by rw [hlt']; omega, hnear.take n, by omega, by omega⟩, (D7.out.fin _ _).1, (D7.out.fin _ _).2.1.mono (by omega), (D7.out.fin _ _).2.2⟩
        · have hb5 : ((k5 : Int) == 0) = false := by rw [beq_eq_false_iff_ne]; omega
          have D7 := Lib.hid D5
          clear D5
          go_wp2
          exact bodyPost_ret (v := .agg #[.slice xo n xcap, .int .i64 n]) (by simp [results, Try.results74, go_sem, s0, s1]) rfl ⟨_, _, _, rfl, ⟨by rw [hlt']; omega, hnear.take n, by omega, by omega⟩, (D7.out.fin _ _).1, (D7.out.fin _ _).2.1.mono (by omega), (D7.out.fin _ _).2.2⟩
    · go_wp2_with fail
      clear c0 c1 f0 f1
      refine (pick_any r _ 24 _ D3'.rd (by omega) (by omega) (by omega)).mono ?_
      rintro e w5 ⟨k5, rfl, hk5, hr5, hk5'⟩
      have D5 := D3'.draw hr5 hk5'
      clear D3' hr5 hk5'
      have u0 := D5.c0
      have u1 := D5.c1
      have s0 := D5.r0
      have s1 := D5.r1
      have t0 := D5.rfree 0
      have t1 := D5.rfree 1
      have g1 := D5.free 1
      by_cases h5 : k5 = 0
      · subst h5
        go_wp2_with fail
        refine (one_lit r _ [-2, 11] w5 D5.rd (by omega) (by decide) (by decide) rfl rfl).mono ?_
        rintro e w6 ⟨x, hx, rfl, hr6, hk6⟩
        have hx2 : -2 ≤ x ∧ x ≤ 11 := by simp at hx; omega
        have D6 := D5.draw hr6 hk6
        have D7 := Lib.hid (D6.setM x)
        clear hx u0 u1 s0 s1 t0 t1 g1 D5 hr6 hk6
        have u0 := D6.c0
        have u1 := D6.c1
        have g1 := D6.free 1
        have s0 := D7.out.r0
        have s1 := D7.out.r1
        have t0 := D6.rfree 0
        have t1 := D6.rfree 1
        have z0 := D6.r0
        have z1 := D6.r1
        clear D6
        go_wp2
        exact bodyPost_ret (v := .agg #[.slice xo xs.length xcap, .int .i64 x]) (by simp [results, Try.results74, go_sem, z0, z1, hne, hne']) rfl ⟨_, _, _, rfl, ⟨hl, hnear, by omega, by omega⟩, (D7.out.fin _ _).1, (D7.out.fin _ _).2.1.mono (by omega), (D7.out.fin _ _).2.2⟩
      · have hb5 : ((k5 : Int) == 0) = false := by rw [beq_eq_false_iff_ne]; omega
        have D7 := Lib.hid D5
        clear D5
        go_wp2
        exact bodyPost_ret (v := .agg #[.slice xo xs.length xcap, .int .i64 n]) (by simp [results, Try.results74, go_sem, s0, s1]) rfl ⟨_, _, _, rfl, ⟨hl, hnear, by omega, by omega⟩, (D7.out.fin _ _).1, (D7.out.fin _ _).2.1.mono (by omega), (D7.out.fin _ _).2.2⟩
  · have hb0 : ((k : Int) == 0) = false := by rw [beq_eq_false_iff_ne]; omega
    by_cases h1 : k = 1
    · subst h1
      have D3 := D2.setM (xs.length : Int)
      go_wp2_with fail
      clear c0 c1 f0 f1
      refine (pick_any r _ 24 _ D3.rd (by omega) (by omega) (by omega)).mono ?_
      rintro e w5 ⟨k5, rfl, hk5, hr5, hk5'⟩
      have D5 := D3.draw hr5 hk5'
      clear D3 hr5 hk5'
      have u0 := D5.c0
      have u1 := D5.c1
      have s0 := D5.r0
      have s1 := D5.r1
      have t0 := D5.rfree 0
      have t1 := D5.rfree 1
      have g1 := D5.free 1
      by_cases h5 : k5 = 0
      · subst h5
        go_wp2_with fail
        refine (one_lit r _ [-2, 11] w5 D5.rd (by omega) (by decide) (by decide) rfl rfl).mono ?_
        rintro e w6 ⟨x, hx, rfl, hr6, hk6⟩
        have hx2 : -2 ≤ x ∧ x ≤ 11 := by simp at hx; omega
        have D6 := D5.draw hr6 hk6
        have D7 := Lib.hid (D6.setM x)
        clear hx u0 u1 s0 s1 t0 t1 g1 D5 hr6 hk6
        have u0 := D6.c0
        have u1 := D6.c1
        have g1 := D6.free 1
        have s0 := D7.out.r0
        have s1 := D7.out.r1
        have t0 := D6.rfree 0
        have t1 := D6.rfree 1
        have z0 := D6.r0
        have z1 := D6.r1
        clear D6
        go_wp2
        exact bodyPost_ret (v := .agg #[.slice xo xs.length xcap, .int .i64 x]) (by simp [results, Try.results74, go_sem, z0, z1, hne, hne']) rfl ⟨_, _, _, rfl, ⟨hl, hnear, by omega, by omega⟩, (D7.out.fin _ _).1, (D7.out.fin _ _).2.1.mono (by omega), (D7.out.fin _ _).2.2⟩
      · have hb5 : ((k5 : Int) == 0) = false := by rw [beq_eq_false_iff_ne]; omega
        have D7 := Lib.hid D5
        clear D5
        go_wp2
        exact bodyPost_ret (v := .agg #[.slice xo xs.length xcap, .int .i64 xs.length]) (by simp [results, Try.results74, go_sem, s0, s1]) rfl ⟨_, _, _, rfl, ⟨hl, hnear, by omega, by omega⟩, (D7.out.fin _ _).1, (D7.out.fin _ _).2.1.mono (by omega), (D7.out.fin _ _).2.2⟩
    · have hb1 : ((k : Int) == 1) = false := by rw [beq_eq_false_iff_ne]; omega
      go_wp2_with fail
      clear c0 c1 f0 f1
      refine (pick_any r _ 24 _ D2.rd (by omega) (by omega) (by omega)).mono ?_
      rintro e w5 ⟨k5, rfl, hk5, hr5, hk5'⟩
      have D5 := D2.draw hr5 hk5'
      clear D2 hr5 hk5'
      have u0 := D5.c0
      have u1 := D5.c1
      have s0 := D5.r0
      have s1 := D5.r1
      have t0 := D5.rfree 0
      have t1 := D5.rfree 1
      have g1 := D5.free 1
      by_cases h5 : k5 = 0
      · subst h5
        go_wp2_with fail
        refine (one_lit r _ [-2, 11] w5 D5.rd (by omega) (by decide) (by decide) rfl rfl).mono ?_
        rintro e w6 ⟨x, hx, rfl, hr6, hk6⟩
        have hx2 : -2 ≤ x ∧ x ≤ 11 := by simp at hx; omega
        have D6 := D5.draw hr6 hk6
        have D7 := Lib.hid (D6.setM x)
        clear hx u0 u1 s0 s1 t0 t1 g1 D5 hr6 hk6
        have u0 := D6.c0
        have u1 := D6.c1
        have g1 := D6.free 1
        have s0 := D7.out.r0
        have s1 := D7.out.r1
        have t0 := D6.rfree 0
        have t1 := D6.rfree 1
        have z0 := D6.r0
        have z1 := D6.r1
        clear D6
        go_wp2
        exact bodyPost_ret (v := .agg #[.slice xo xs.length xcap, .int .i64 x]) (by simp [results, Try.results74, go_sem, z0, z1, hne, hne']) rfl ⟨_, _, _, rfl, ⟨hl, hnear, by omega, by omega⟩, (D7.out.fin _ _).1, (D7.out.fin _ _).2.1.mono (by omega), (D7.out.fin _ _).2.2⟩
      · have hb5 : ((k5 : Int) == 0) = false := by rw [beq_eq_false_iff_ne]; omega
        have D7 := Lib.hid D5
        clear D5
        go_wp2
        exact bodyPost_ret (v := .agg #[.slice xo xs.length xcap, .int .i64 (-1)]) (by simp [results, Try.results74, go_sem, s0, s1]) rfl ⟨_, _, _, rfl, ⟨hl, hnear, by omega, by omega⟩, (D7.out.fin _ _).1, (D7.out.fin _ _).2.1.mono (by omega), (D7.out.fin _ _).2.2⟩
end Go.Proofs.Ytoglgeinnocfjaa
/-
  What drawn laws over deques draw, and how they compare.
-/
namespace Go.Proofs.Ytoglgeinnocfjaa
open Go.RowKit

theorem Bytes.below {w w' : World} {v : Value} {bs : List Int} (h : Bytes w v bs) (hb : Below w.heap.size w w') : Bytes w' v bs := h.kept (K := (· < w.heap.size)) (Keeps.of_below hb (fun _ h => h)) (fun h0 _ hg => h.lt h0 hg)
def wideB (ns : List Int) : Bool := ns.all fun x => decide (-9223372036854775808 ≤ x) && decide (x ≤ 9223372036854775807)
theorem wide_mem {ns : List Int} (h : wideB ns = true) {x : Int} (hx : x ∈ ns) : -9223372036854775808 ≤ x ∧ x ≤ 9223372036854775807 := by
  have := List.all_eq_true.1 h x hx
  simpa using this

set_option maxHeartbeats 400000 in
set_option maxRecDepth 100000 in
theorem equalInts_any (v u : Value) (xs ys : List Int) (w : World) (h : Nums w v xs) (h' : Nums w u ys) :
    Calls Try.prog 25 #[v, u] w fun e w' => e = .returned (.bool (decide (xs = ys))) ∧ Below w.heap.size w w' := by
  obtain ⟨ao, cap, rfl, hlc, hcm, hok, hcell⟩ := h
  obtain ⟨ao', cap', rfl, hlc', hcm', hok', hcell'⟩ := h'
  go_enter Try.func25, Try.ntmps25
  by_cases hl : xs.length = ys.length
  · have hlb := eqLen_lit hl
    have HL := Lib.hid hl
    clear hl
    go_wp2
    go_loopw [5] (fun i wr => ∃ k : Nat, k ≤ xs.length ∧ i = .int .i64 k ∧ Hid (decide (xs = ys) = eqFromN k xs ys) ∧ Below w.heap.size w wr) (fun i _ => xs.length - (intOf i).toNat)
    case atStart => exact ⟨0, Nat.zero_le _, rfl, rfl, Below.refl _ _⟩
    case round =>
      obtain ⟨k, hk, rfl, HQ, hbl⟩ := hrel
      by_cases hlt : k < xs.length
      · obtain ⟨b, o, rfl, hb, h1⟩ := hcell k hlt
        have hlt' : k < ys.length := by have := HL.out; omega
        obtain ⟨b', o', rfl, hb', h1'⟩ := hcell' k hlt'
        have c1 := (hbl.cell (p := ⟨b, _, none⟩) hb).trans h1
        have c3 := (hbl.cell (p := ⟨b', _, none⟩) hb').trans h1'
        by_cases ht : xs[k] = ys[k]
        · have e1 := Lib.hid (eqFromN_step hlt hlt')
          have hbq : (xs[k] != ys[k]) = false := by simp [ht]
          go_wp2_with fail
          go_quiet (fail)
          go_wp2
          go_roundw
          case rel => exact ⟨k + 1, by omega, by go_num, by unfold Hid; rw [HQ.out, e1.out]; simp [ht], belowN hbl _⟩
          case measure => simp [intOf]; omega
        · have e1 := Lib.hid (eqFromN_step hlt hlt')
          have hbq : (xs[k] != ys[k]) = true := by simp [ht]
          go_wp2_with fail
          go_quiet (fail)
          go_wp2
          go_ret
          refine ⟨ret_bool ?_, belowN hbl _⟩
          rw [HQ.out, e1.out]
          simp [ht]
      · obtain rfl : k = xs.length := by omega
        go_wp2
        go_ret
        refine ⟨ret_bool ?_, hbl⟩
        rw [HQ.out]
        unfold eqFromN
        rw [List.drop_length, HL.out, List.drop_length]
        rfl
  · go_wp2
    go_ret
    refine ⟨ret_bool ?_, Below.refl _ _⟩
    symm
    rw [decide_eq_false_iff_not]
    rintro rfl
    exact hl rfl


set_option maxHeartbeats 800000 in
set_option maxRecDepth 100000 in
theorem equalD_T {W w : World} {L : List Thing} (H : Things W w L) {v u : Value} {xs : List Int} {m : Int} (h : Nums w v xs) (h' : Nums w u xs) :
    Calls Try.prog 18 #[.agg #[v, .int .i64 m], .agg #[u, .int .i64 m]] w fun e w' => e = .returned (.bool true) ∧ Things W w' L := by
  go_enter Try.func18, Try.ntmps18
  have HB0 : Hid (Below w.heap.size w ((w.alloc (.cells #[v, .int .i64 m] 25)).alloc (.cells #[u, .int .i64 m] 25))) := ((Below.refl _ _).alloc (Nat.le_refl _) _).alloc (by simp) _
  have G0 := heap_old (heap_new w (.cells #[v, .int .i64 m] 25)) (.cells #[u, .int .i64 m] 25)
  have G1 := heap_at (n := w.heap.size + 1) (w.alloc (.cells #[v, .int .i64 m] 25)) (.cells #[u, .int .i64 m] 25) (by simp)
  go_wp2_with fail
  refine (equalInts_any v u xs xs _ (h.mono HB0.out (Nat.le_refl _)) (h'.mono HB0.out (Nat.le_refl _))).mono ?_
  rintro e w1 ⟨rfl, hb⟩
  rw [decide_eq_true rfl]
  have g0 := two_cell1 (two_below G0 hb (by simp <;> omega))
  have g1 := two_cell1 (two_below G1 hb (by simp))
  have H2 := H.quiet (HB0.out.trans (hb.mono (by simp <;> omega)))
  clear G0 G1
  go_wp2
  go_ret
  exact ⟨rfl, H2⟩


set_option maxHeartbeats 800000 in
set_option maxRecDepth 100000 in
theorem anIndex_any (r P : Nat) (w : World) (h : Reader w r P) (hP : P ≤ 100000000) :
    Calls Try.prog 121 #[.pointer (some ⟨r, 0, none⟩)] w fun e w' => ∃ x, (-9223372036854775808 ≤ x ∧ x ≤ 9223372036854775807) ∧ e = .returned (.int .i64 x) ∧ Reader w' r (P + 1) ∧ Keeps (RK r w) w w' := by
  go_enter Try.func121, Try.ntmps121
  go_wp2_with fail
  refine (one_lit r P [0, 1, -1, 2, -2, 3, 4, -4, 10, -11, 9, 4611686018427387904, -9223372036854775808] w h hP (by decide) (by decide) rfl rfl).mono ?_
  rintro e w1 ⟨x, hx, rfl, hr1, hk1⟩
  have hs := wide_mem (by rfl) hx
  clear hx
  go_wp2
  go_ret
  exact ⟨x, hs, rfl, hr1, hk1⟩

set_option linter.unusedSimpArgs false in
set_option maxHeartbeats 800000 in
set_option maxRecDepth 100000 in
theorem DrawPushBack_any (v : Value) (bs : List Int) (w : World) (h : Bytes w v bs) :
    Calls Try.prog 66 #[v] w fun e w' => ∃ v' xs m x, e = .returned (.tuple #[.agg #[v', .int .i64 m], .int .i64 x]) ∧ OwnN w.heap.size w'.heap.size w' v' xs ∧ (xs.length ≤ 11 ∧ nearL xs ∧ -2 ≤ m ∧ m ≤ 11) ∧ (-9223372036854775808 ≤ x ∧ x ≤ 9223372036854775807) ∧ Below w.heap.size w w' := by
  have hb0 : Below w.heap.size w (w.alloc (.cells #[.slice none 0 0, .int .i64 0] 25)) := (Below.refl _ _).alloc (Nat.le_refl _) _
  have HR := Lib.hid (heap_new w (.cells #[.slice none 0 0, .int .i64 0] 25))
  go_enter Try.func66, Try.ntmps66
  go_wp2_with fail
  refine (newReader_any v bs _ (h.below hb0)).mono ?_
  rintro e w1 ⟨r, rfl, hr, hR1, hb1⟩
  have hs1 := hb1.size
  simp at hs1 hb1 hr
  go_wp2_with fail
  refine (someDeque_any r 0 w1 hR1 (by omega)).mono ?_
  rintro e w2 ⟨v2, xs, m, rfl, hb, hown, hR2, hk2⟩
  obtain ⟨xo, xcap, rfl, _, _⟩ := hown.nums.slice
  have hlt := hR1.lt
  have hs2 := hk2.size
  go_wp2_with fail
  refine (anyNumber_any r _ w2 hR2 (by omega)).mono ?_
  rintro e w3 ⟨x, hx, rfl, hR3, hk3⟩
  have hx2 : -9223372036854775808 ≤ x ∧ x ≤ 9223372036854775807 := by omega
  have hown3 := hown.keeps (hk3.mono fun j hj => ⟨hj.2, by have := hj.1; omega⟩)
  have hk23 := RK.trans hk2 hk3
  have hs3 := hk3.size
  have R2 := (hk23.block _ ⟨by omega, by omega⟩).trans ((hb1.block _ (by omega)).trans HR.out)
  have HBB : Hid (Below w.heap.size w w3) := (hb0.trans (hb1.mono (by omega))).trans (Keeps.below hk23 (fun k hk => ⟨by omega, by omega⟩))
  have HO := Lib.hid hown3
  have s0 := two_cell0 R2
  have s1 := two_cell1 R2
  have t0 := two_free R2
  clear R2 hk23 hown3 hb1 hR1
  go_wp2
  exact bodyPost_ret (v := .tuple #[.agg #[.slice xo xs.length xcap, .int .i64 m], .int .i64 x]) (by simp [results, Try.results66, go_sem, s0, s1]) rfl ⟨_, _, _, _, rfl, (HO.out.keeps (((Keeps.refl _ _).setCell (by simp [In]; omega) _).setCell (by simp [In]; omega) _)).wide (by omega) (by simp <;> omega), hb, hx2, (HBB.out.setCell (by simp) _).setCell (by simp) _⟩

end Go.Proofs.Ytoglgeinnocfjaa
/-
  What drawn laws over deques compare, in the class of fresh worlds.
-/
namespace Go.Proofs.Ytoglgeinnocfjaa
open Go.RowKit

theorem Nums.cellAt {w : World} {ao : Option Addr} {n cap : Nat} {xs : List Int} (h : Nums w (.slice ao n cap) xs) {j : Nat} (hj : j < xs.length) :
    ∃ b o, ao = some ⟨b, o, none⟩ ∧ b < w.heap.size ∧ w.cell? ⟨b, o + j, none⟩ = some (.int .i64 xs[j]) := by
  obtain ⟨ao', cap', e, _, _, _, hcell⟩ := h
  simp only [Value.slice.injEq] at e
  obtain ⟨rfl, _, rfl⟩ := e
  exact hcell j hj
theorem fresh_N {f : Nat} {us : Array Value} {v : Value} {w : World} {p : Fresh w} (h : Calls Try.prog f us p.at' (RetN v p.at')) :
    Calls Try.prog f us p.at' fun e w'' => e = .returned v ∧ ∃ p' : Fresh w, w'' = p'.at' := fresh_of h
theorem Nums.cast {w : World} {v : Value} {xs ys : List Int} (h : Nums w v xs) (e : xs = ys) : Nums w v ys := e ▸ h
theorem equalD_q {w : World} {v u : Value} {xs : List Int} {m : Int} (h : Nums w v xs) (h' : Nums w u xs) :
    Calls Try.prog 18 #[.agg #[v, .int .i64 m], .agg #[u, .int .i64 m]] w (RetN (.bool true) w) := by
  refine (equalD_T (Things.nil w) h h').mono ?_
  rintro e w' ⟨rfl, H⟩
  exact ⟨rfl, H.below⟩
theorem equalN_q {w : World} {v u : Value} {xs : List Int} (h : Nums w v xs) (h' : Nums w u xs) :
    Calls Try.prog 25 #[v, u] w (RetN (.bool true) w) := by
  refine (equalInts_any v u xs xs w h h').mono ?_
  rintro e w' ⟨rfl, hb⟩
  exact ⟨by rw [decide_eq_true rfl], hb⟩
end Go.Proofs.Ytoglgeinnocfjaa
