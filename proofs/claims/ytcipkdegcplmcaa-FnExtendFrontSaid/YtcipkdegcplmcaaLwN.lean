/-
  What drawn laws over deques draw, and how they compare.
-/
import Derived.Test.YtcipkdegcplmcaaRdD
import Derived.Test.YtcipkdegcplmcaaDqT
namespace Go.Proofs.Ytcipkdegcplmcaa
open Go.RowKit

theorem Bytes.below {w w' : World} {v : Value} {bs : List Int} (h : Bytes w v bs) (hb : Below w.heap.size w w') : Bytes w' v bs := h.kept (K := (· < w.heap.size)) (Keeps.of_below hb (fun _ h => h)) (fun h0 _ hg => h.lt h0 hg)
def wideB (ns : List Int) : Bool := ns.all fun x => decide (-9223372036854775808 ≤ x) && decide (x ≤ 9223372036854775807)
theorem wide_mem {ns : List Int} (h : wideB ns = true) {x : Int} (hx : x ∈ ns) : -9223372036854775808 ≤ x ∧ x ≤ 9223372036854775807 := by
  have := List.all_eq_true.1 h x hx
  simpa using this

set_option maxHeartbeats 400000 in
set_option maxRecDepth 100000 in
theorem equalInts_any (v u : Value) (xs ys : List Int) (w : World) (h : Nums w v xs) (h' : Nums w u ys) :
    Calls Try.prog 18 #[v, u] w fun e w' => e = .returned (.bool (decide (xs = ys))) ∧ Below w.heap.size w w' := by
  obtain ⟨ao, cap, rfl, hlc, hcm, hok, hcell⟩ := h
  obtain ⟨ao', cap', rfl, hlc', hcm', hok', hcell'⟩ := h'
  go_enter Try.func18, Try.ntmps18
  by_cases hl : xs.length = ys.length
  · have hlb := eqLen_lit hl
    have HL := Lib.hid hl
    clear hl
    go_wp2
    go_loopw [5] (fun i wr => ∃ k : Nat, k ≤ xs.length ∧ i = .int .i64 k ∧ Hid (decide (xs = ys) = eqFromN k xs ys) ∧ Below w.heap.size w wr) (fun i _ => xs.length - (intOf i).toNat)
    case atStart => exact ⟨0, Nat.zero_le _, rfl, rfl, Below.refl _ _⟩
    case round =>
      obtain ⟨k, hk, rfl, HQ, hbl⟩ := hrel
      by_cases hlt : k < xs.length
      · obtain ⟨b, o, rfl, hb, h1⟩ := hcell k hlt
        have hlt' : k < ys.length := by have := HL.out; omega
        obtain ⟨b', o', rfl, hb', h1'⟩ := hcell' k hlt'
        have c1 := (hbl.cell (p := ⟨b, _, none⟩) hb).trans h1
        have c3 := (hbl.cell (p := ⟨b', _, none⟩) hb').trans h1'
        by_cases ht : xs[k] = ys[k]
        · have e1 := Lib.hid (eqFromN_step hlt hlt')
          have hbq : (xs[k] != ys[k]) = false := by simp [ht]
          go_wp2_with fail
          go_quiet (fail)
          go_wp2
          go_roundw
          case rel => exact ⟨k + 1, by omega, by go_num, by unfold Hid; rw [HQ.out, e1.out]; simp [ht], belowN hbl _⟩
          case measure => simp [intOf]; omega
        · have e1 := Lib.hid (eqFromN_step hlt hlt')
          have hbq : (xs[k] != ys[k]) = true := by simp [ht]
          go_wp2_with fail
          go_quiet (fail)
          go_wp2
          go_ret
          refine ⟨ret_bool ?_, belowN hbl _⟩
          rw [HQ.out, e1.out]
          simp [ht]
      · obtain rfl : k = xs.length := by omega
        go_wp2
        go_ret
        refine ⟨ret_bool ?_, hbl⟩
        rw [HQ.out]
        unfold eqFromN
        rw [List.drop_length, HL.out, List.drop_length]
        rfl
  · go_wp2
    go_ret
    refine ⟨ret_bool ?_, Below.refl _ _⟩
    symm
    rw [decide_eq_false_iff_not]
    rintro rfl
    exact hl rfl


set_option maxHeartbeats 800000 in
set_option maxRecDepth 100000 in
theorem equalD_T {W w : World} {L : List Thing} (H : Things W w L) {v u : Value} {xs : List Int} {m : Int} (h : Nums w v xs) (h' : Nums w u xs) :
    Calls Try.prog 16 #[.agg #[v, .int .i64 m], .agg #[u, .int .i64 m]] w fun e w' => e = .returned (.bool true) ∧ Things W w' L := by
  go_enter Try.func16, Try.ntmps16
  have HB0 : Hid (Below w.heap.size w ((w.alloc (.cells #[v, .int .i64 m] 25)).alloc (.cells #[u, .int .i64 m] 25))) := ((Below.refl _ _).alloc (Nat.le_refl _) _).alloc (by simp) _
  have G0 := heap_old (heap_new w (.cells #[v, .int .i64 m] 25)) (.cells #[u, .int .i64 m] 25)
  have G1 := heap_at (n := w.heap.size + 1) (w.alloc (.cells #[v, .int .i64 m] 25)) (.cells #[u, .int .i64 m] 25) (by simp)
  go_wp2_with fail
  refine (equalInts_any v u xs xs _ (h.mono HB0.out (Nat.le_refl _)) (h'.mono HB0.out (Nat.le_refl _))).mono ?_
  rintro e w1 ⟨rfl, hb⟩
  rw [decide_eq_true rfl]
  have g0 := two_cell1 (two_below G0 hb (by simp <;> omega))
  have g1 := two_cell1 (two_below G1 hb (by simp))
  have H2 := H.quiet (HB0.out.trans (hb.mono (by simp <;> omega)))
  clear G0 G1
  go_wp2
  go_ret
  exact ⟨rfl, H2⟩


set_option maxHeartbeats 800000 in
theorem anIndex_any (r P : Nat) (w : World) (h : Reader w r P) (hP : P ≤ 100000000) :
    Calls Try.prog 70 #[.pointer (some ⟨r, 0, none⟩)] w fun e w' => ∃ x, (-9223372036854775808 ≤ x ∧ x ≤ 9223372036854775807) ∧ e = .returned (.int .i64 x) ∧ Reader w' r (P + 1) ∧ Keeps (RK r w) w w' := by
  go_enter Try.func70, Try.ntmps70
  go_wp2_with fail
  refine (one_lit r P [0, 1, -1, 2, -2, 3, 4, -4, 10, -11, 9, 4611686018427387904, -9223372036854775808] w h hP (by decide) (by decide) rfl rfl).mono ?_
  rintro e w1 ⟨x, hx, rfl, hr1, hk1⟩
  have hs := wide_mem (by rfl) hx
  clear hx
  go_wp2
  go_ret
  exact ⟨x, hs, rfl, hr1, hk1⟩

set_option linter.unusedSimpArgs false in
set_option maxHeartbeats 800000 in
theorem DrawGetAt_any (v : Value) (bs : List Int) (w : World) (h : Bytes w v bs) :
    Calls Try.prog 75 #[v] w fun e w' => ∃ v' xs m x, e = .returned (.tuple #[.agg #[v', .int .i64 m], .int .i64 x]) ∧ OwnN w.heap.size w'.heap.size w' v' xs ∧ (xs.length ≤ 11 ∧ nearL xs ∧ -2 ≤ m ∧ m ≤ 11) ∧ (-9223372036854775808 ≤ x ∧ x ≤ 9223372036854775807) ∧ Below w.heap.size w w' := by
  have hb0 : Below w.heap.size w (w.alloc (.cells #[.slice none 0 0, .int .i64 0] 25)) := (Below.refl _ _).alloc (Nat.le_refl _) _
  have HR := Lib.hid (heap_new w (.cells #[.slice none 0 0, .int .i64 0] 25))
  go_enter Try.func75, Try.ntmps75
  go_wp2_with fail
  refine (newReader_any v bs _ (h.below hb0)).mono ?_
  rintro e w1 ⟨r, rfl, hr, hR1, hb1⟩
  have hs1 := hb1.size
  simp at hs1 hb1 hr
  go_wp2_with fail
  refine (someDeque_any r 0 w1 hR1 (by omega)).mono ?_
  rintro e w2 ⟨v2, xs, m, rfl, hb, hown, hR2, hk2⟩
  obtain ⟨xo, xcap, rfl, _, _⟩ := hown.nums.slice
  have hlt := hR1.lt
  have hs2 := hk2.size
  go_wp2_with fail
  refine (anIndex_any r _ w2 hR2 (by omega)).mono ?_
  rintro e w3 ⟨x, hx2, rfl, hR3, hk3⟩
  have hown3 := hown.keeps (hk3.mono fun j hj => ⟨hj.2, by have := hj.1; omega⟩)
  have hk23 := RK.trans hk2 hk3
  have hs3 := hk3.size
  have R2 := (hk23.block _ ⟨by omega, by omega⟩).trans ((hb1.block _ (by omega)).trans HR.out)
  have HBB : Hid (Below w.heap.size w w3) := (hb0.trans (hb1.mono (by omega))).trans (Keeps.below hk23 (fun k hk => ⟨by omega, by omega⟩))
  have HO := Lib.hid hown3
  have s0 := two_cell0 R2
  have s1 := two_cell1 R2
  have t0 := two_free R2
  clear R2 hk23 hown3 hb1 hR1
  go_wp2
  exact bodyPost_ret (v := .tuple #[.agg #[.slice xo xs.length xcap, .int .i64 m], .int .i64 x]) (by simp [results, Try.results75, go_sem, s0, s1]) rfl ⟨_, _, _, _, rfl, (HO.out.keeps (((Keeps.refl _ _).setCell (by simp [In]; omega) _).setCell (by simp [In]; omega) _)).wide (by omega) (by simp <;> omega), hb, hx2, (HBB.out.setCell (by simp) _).setCell (by simp) _⟩

set_option linter.unusedSimpArgs false in
set_option maxHeartbeats 800000 in
theorem DrawRemoveFirst_any (v : Value) (bs : List Int) (w : World) (h : Bytes w v bs) :
    Calls Try.prog 78 #[v] w fun e w' => ∃ v' xs m x, e = .returned (.tuple #[.agg #[v', .int .i64 m], .int .i64 x]) ∧ OwnN w.heap.size w'.heap.size w' v' xs ∧ (xs.length ≤ 11 ∧ nearL xs ∧ -2 ≤ m ∧ m ≤ 11) ∧ (-9223372036854775808 ≤ x ∧ x ≤ 9223372036854775807) ∧ Below w.heap.size w w' := by
  have hb0 : Below w.heap.size w (w.alloc (.cells #[.slice none 0 0, .int .i64 0] 25)) := (Below.refl _ _).alloc (Nat.le_refl _) _
  have HR := Lib.hid (heap_new w (.cells #[.slice none 0 0, .int .i64 0] 25))
  go_enter Try.func78, Try.ntmps78
  go_wp2_with fail
  refine (newReader_any v bs _ (h.below hb0)).mono ?_
  rintro e w1 ⟨r, rfl, hr, hR1, hb1⟩
  have hs1 := hb1.size
  simp at hs1 hb1 hr
  go_wp2_with fail
  refine (someDeque_any r 0 w1 hR1 (by omega)).mono ?_
  rintro e w2 ⟨v2, xs, m, rfl, hb, hown, hR2, hk2⟩
  obtain ⟨xo, xcap, rfl, _, _⟩ := hown.nums.slice
  have hlt := hR1.lt
  have hs2 := hk2.size
  go_wp2_with fail
  refine (aNumber_any r _ w2 hR2 (by omega)).mono ?_
  rintro e w3 ⟨x, hx, rfl, hR3, hk3⟩
  have hx2 : -9223372036854775808 ≤ x ∧ x ≤ 9223372036854775807 := by omega
  have hown3 := hown.keeps (hk3.mono fun j hj => ⟨hj.2, by have := hj.1; omega⟩)
  have hk23 := RK.trans hk2 hk3
  have hs3 := hk3.size
  have R2 := (hk23.block _ ⟨by omega, by omega⟩).trans ((hb1.block _ (by omega)).trans HR.out)
  have HBB : Hid (Below w.heap.size w w3) := (hb0.trans (hb1.mono (by omega))).trans (Keeps.below hk23 (fun k hk => ⟨by omega, by omega⟩))
  have HO := Lib.hid hown3
  have s0 := two_cell0 R2
  have s1 := two_cell1 R2
  have t0 := two_free R2
  clear R2 hk23 hown3 hb1 hR1
  go_wp2
  exact bodyPost_ret (v := .tuple #[.agg #[.slice xo xs.length xcap, .int .i64 m], .int .i64 x]) (by simp [results, Try.results78, go_sem, s0, s1]) rfl ⟨_, _, _, _, rfl, (HO.out.keeps (((Keeps.refl _ _).setCell (by simp [In]; omega) _).setCell (by simp [In]; omega) _)).wide (by omega) (by simp <;> omega), hb, hx2, (HBB.out.setCell (by simp) _).setCell (by simp) _⟩

end Go.Proofs.Ytcipkdegcplmcaa
