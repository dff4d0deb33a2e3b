/-
  RdI, LwI, LwK.
-/
import Derived.Deep.Slices
import Derived.Test.YtfjgmnlbchcabaaQ10
import Derived.Test.YtfjgmnlbchcabaaQ11
import Derived.Test.YtfjgmnlbchcabaaQ12
import Derived.Test.YtfjgmnlbchcabaaQ17
/-
  What is drawn: items with a key, two lists of items.
-/
namespace Go.Proofs.Ytfjgmnlbchcabaa
open Go.RowKit
open Go.ChangeShapes Go.WideShapes Go.ChangeAt Go.Deep

/-- A list and a text drawn. -/
def DrawIS (r P : Nat) (w : World) (e : Ending) (w' : World) : Prop :=
  ∃ v xs s, e = .returned (.tuple #[v, .string s]) ∧ (xs.length ≤ 9 ∧ s.size ≤ 9223372036854775807) ∧ OwnI 32 w' w.heap.size v xs ∧ Reader w' r P ∧ Keeps (RK r w) w w'
/-- Two lists drawn. -/
def DrawII (r P : Nat) (w : World) (e : Ending) (w' : World) : Prop :=
  ∃ v xs u ys, e = .returned (.tuple #[v, u]) ∧ (xs.length ≤ 9 ∧ ys.length ≤ 9) ∧ OwnI 32 w' w.heap.size v xs ∧ OwnI 32 w' w.heap.size u ys ∧ Reader w' r P ∧ Keeps (RK r w) w w'

set_option maxHeartbeats 1600000 in
set_option maxRecDepth 100000 in
theorem keyIn_any (r P : Nat) (w : World) (h : Reader w r P) (hP : P ≤ 1000000) :
    Calls Try.prog 76 #[.pointer (some ⟨r, 0, none⟩)] w (DrawIS r (P + 24) w) := by
  have hrlt := h.lt
  go_enter Try.func76, Try.ntmps76
  go_wp2_with fail
  refine (someItems_any r P w h (by omega)).mono ?_
  rintro e w1 ⟨v, xs, rfl, hl, hown, hr1, hk1⟩
  by_cases hz : 0 < xs.length
  · have hcmp : (0 : Int) < (xs.length : Int) := by omega
    obtain ⟨g, cap, rfl, hgc, hgB⟩ := own_shape hown.1 hz
    go_wp2_with fail
    refine (pick_any r _ 4 w1 hr1 (by omega) (by omega) (by omega)).mono ?_
    rintro e w2 ⟨k, rfl, hk, hr2, hk2⟩
    have hown2 := hown.keeps hrlt hk2
    have hkk2 := RK.trans hk1 hk2
    clear hown hk1 hk2 hr1
    by_cases hk0 : (0 : Int) < (k : Int)
    · have hr2d := hr2.below (Below.refl _ _).drew
      have hown2d := hown2.keeps hrlt (RK.of_below (Below.refl w2.heap.size w2).drew)
      have hkk2d := RK.trans hkk2 (RK.of_below (Below.refl w2.heap.size w2).drew)
      clear hr2 hown2 hkk2
      go_wp2_with fail
      have HP := Lib.hid (pick_any r (P + 21 + 1) (xs.length : Int) w2.drew hr2d (by omega) (by omega) (by omega))
      go_region_with (refine HP.out.mono ?_; rintro e w3 ⟨j, rfl, hj, hr3, hk3⟩; have hown3 := hown2d.keeps hrlt hk3; have hkk3 := RK.trans hkk2d hk3; have hlt : j < xs.length := (by omega); have c1 := row_cell_at hown3.1 (cells_at hlt).1; have hs := (hown3.2 _ (List.getElem_mem hlt)).1; clear hk3)
      all_goals go_wp2
      all_goals go_ret2
      all_goals exact ⟨_, xs, _, rfl, ⟨by omega, hs⟩, hown3, hr3.mono (by omega), hkk3⟩
    · go_wp2_with fail
      refine (anyKey_any r _ w2 hr2 (by omega)).mono ?_
      rintro e w3 ⟨s, hs, rfl, hr3, hk3⟩
      go_wp2
      go_ret2
      exact ⟨_, xs, s, rfl, ⟨by omega, hs⟩, hown2.keeps hrlt hk3, hr3.mono (by omega), RK.trans hkk2 hk3⟩
  · have hcmp : ¬ (0 : Int) < (xs.length : Int) := by omega
    obtain ⟨xo, xcap, rfl, _, _⟩ := own_slice hown.1
    go_wp2_with fail
    refine (anyKey_any r _ w1 hr1 (by omega)).mono ?_
    rintro e w3 ⟨s, hs, rfl, hr3, hk3⟩
    go_wp2
    go_ret2
    exact ⟨_, xs, s, rfl, ⟨by omega, hs⟩, hown.keeps hrlt hk3, hr3.mono (by omega), RK.trans hk1 hk3⟩

set_option maxHeartbeats 3200000 in
set_option maxRecDepth 100000 in
theorem twoItems_any (r P : Nat) (w : World) (h : Reader w r P) (hP : P ≤ 900000) :
    Calls Try.prog 58 #[.pointer (some ⟨r, 0, none⟩)] w (DrawII r (P + 60) w) := by
  have hrlt := h.lt
  go_enter Try.func58, Try.ntmps58
  go_wp2_with fail
  refine (someItems_any r P w h (by omega)).mono ?_
  rintro e w1 ⟨v, xs, rfl, hl, hown, hr1, hk1⟩
  go_wp2_with fail
  refine (pick_any r _ 5 w1 hr1 (by omega) (by omega) (by omega)).mono ?_
  rintro e w2 ⟨c, rfl, hc, hr2, hk2⟩
  have hown2 := hown.keeps hrlt hk2
  have hkk2 := RK.trans hk1 hk2
  have hs2 := hkk2.size
  clear hown hk1 hk2 hr1
  by_cases h0 : c = 0
  · subst h0
    go_wp2_with fail
    refine (copyItems_any v xs w2 hown2.items (by omega)).mono ?_
    rintro e w3 ⟨u, rfl, hu, hb3⟩
    have hr3 := hr2.below hb3
    obtain ⟨uo, ucap, rfl, _, _⟩ := own_slice hu.1
    obtain ⟨vo, vcap, rfl, _, _⟩ := own_slice hown2.1
    have hk3 : Keeps (RK r w2) w2 w3 := RK.of_below hb3
    clear hb3
    go_wp2
    go_loopw [6] (fun i wr => ∃ (k : Nat) (zs : List Itm), i = .int .i64 k ∧ k ≤ xs.length ∧ zs.length = xs.length ∧ OwnI 32 wr w2.heap.size (.slice uo xs.length ucap) zs ∧ Reader wr r (P + 22 + k) ∧ Keeps (RK r w2) w2 wr) (fun i _ => xs.length - (intOf i).toNat)
    case atStart => exact ⟨0, xs, rfl, Nat.zero_le _, rfl, hu, hr3.mono (by omega), hk3⟩
    case round =>
      clear hu hr3 hk3 h hr2
      obtain ⟨k, zs, rfl, hk, hzl, hown, hr, hkr⟩ := hrel
      by_cases hlt : k < xs.length
      · obtain ⟨g, cap', e, hgc, hgB⟩ := own_shape hown.1 (by omega)
        simp only [Value.slice.injEq] at e
        obtain ⟨rfl, -, rfl⟩ := e
        go_wp2_with fail
        refine (pick_any r _ xs.length wr hr (by omega) (by omega) (by omega)).mono ?_
        rintro e w4 ⟨j, rfl, hj, hr4, hk4⟩
        have hown4 := hown.keeps (by omega) hk4
        have hkk4 := RK.trans hkr hk4
        clear hown hk4 hkr hr
        have hk1 : k < zs.length := by omega
        have hj1 : j < zs.length := by omega
        have hrow := hown4.1
        rw [hzl] at hrow
        by_cases hkj : k = j
        · subst hkj
          have c0 := row_cell_at hrow (cells_at hk1).1
          have c1 := row_cell_at hrow (cells_at hk1).2
          have f0 := hrow.frozenAt (k * 2)
          have f1 := hrow.frozenAt (k * 2 + 1)
          have hgl := (own_range hrow (g := g) rfl).2
          have hs4 := hkk4.size
          have HRow := Lib.hid ((swap_row hk1 hj1 hrow).alloc (.cells #[.string zs[k].1, .int .i64 zs[k].2] 32))
          have HOk := Lib.hid hown4.2
          clear hrow hown4
          have hrg : r < g := by omega
          have HRd := Lib.hid (Reader.below ((((hr4.set (a := ⟨g, k * 2, none⟩) hrg (.string zs[k].1)).set (a := ⟨g, k * 2 + 1, none⟩) hrg (.int .i64 zs[k].2)).set (a := ⟨g, k * 2, none⟩) hrg (.string zs[k].1)).set (a := ⟨g, k * 2 + 1, none⟩) hrg (.int .i64 zs[k].2)) ((Below.refl _ _).alloc (Nat.le_refl _) (.cells #[.string zs[k].1, .int .i64 zs[k].2] 32)) |>.mono (show P + 22 + k + 1 ≤ P + 22 + (k + 1) by omega))
          have HKk := Lib.hid (RK.alloc (RK.set (a := ⟨g, k * 2 + 1, none⟩) (RK.set (a := ⟨g, k * 2, none⟩) (RK.set (a := ⟨g, k * 2 + 1, none⟩) (RK.set (a := ⟨g, k * 2, none⟩) hkk4 hgB (.string zs[k].1)) hgB (.int .i64 zs[k].2)) hgB (.string zs[k].1)) hgB (.int .i64 zs[k].2)) (.cells #[.string zs[k].1, .int .i64 zs[k].2] 32))
          clear hr4 hkk4
          go_wp2
          go_roundw
          case rel => exact ⟨k + 1, (zs.set k zs[k]).set k zs[k], by go_num, by omega, by rw [List.length_set, List.length_set, hzl], ⟨by rw [List.length_set, List.length_set, hzl]; exact HRow.out, fun x hx => by
            rcases List.mem_or_eq_of_mem_set hx with hx | rfl
            · rcases List.mem_or_eq_of_mem_set hx with hx | rfl
              · exact HOk.out x hx
              · exact HOk.out _ (List.getElem_mem hj1)
            · exact HOk.out _ (List.getElem_mem hk1)⟩, HRd.out, HKk.out⟩
          case measure => simp [intOf]; omega
        · have c0 := row_cell_at hrow (cells_at hk1).1
          have c1 := row_cell_at hrow (cells_at hk1).2
          have d0 := row_cell_at hrow (cells_at hj1).1
          have d1 := row_cell_at hrow (cells_at hj1).2
          have f0 := hrow.frozenAt (k * 2)
          have f1 := hrow.frozenAt (k * 2 + 1)
          have f2 := hrow.frozenAt (j * 2)
          have f3 := hrow.frozenAt (j * 2 + 1)
          have hne0 : k * 2 ≠ j * 2 := by omega
          have hne1 : k * 2 + 1 ≠ j * 2 + 1 := by omega
          have hne2 : k * 2 ≠ j * 2 + 1 := by omega
          have hne3 : k * 2 + 1 ≠ j * 2 := by omega
          have hgl := (own_range hrow (g := g) rfl).2
          have hs4 := hkk4.size
          have HRow := Lib.hid ((swap_row hk1 hj1 hrow).alloc (.cells #[.string zs[k].1, .int .i64 zs[k].2] 32))
          have HOk := Lib.hid hown4.2
          clear hrow hown4
          have hrg : r < g := by omega
          have HRd := Lib.hid (Reader.below ((((hr4.set (a := ⟨g, k * 2, none⟩) hrg (.string zs[j].1)).set (a := ⟨g, k * 2 + 1, none⟩) hrg (.int .i64 zs[j].2)).set (a := ⟨g, j * 2, none⟩) hrg (.string zs[k].1)).set (a := ⟨g, j * 2 + 1, none⟩) hrg (.int .i64 zs[k].2)) ((Below.refl _ _).alloc (Nat.le_refl _) (.cells #[.string zs[k].1, .int .i64 zs[k].2] 32)) |>.mono (show P + 22 + k + 1 ≤ P + 22 + (k + 1) by omega))
          have HKk := Lib.hid (RK.alloc (RK.set (a := ⟨g, j * 2 + 1, none⟩) (RK.set (a := ⟨g, j * 2, none⟩) (RK.set (a := ⟨g, k * 2 + 1, none⟩) (RK.set (a := ⟨g, k * 2, none⟩) hkk4 hgB (.string zs[j].1)) hgB (.int .i64 zs[j].2)) hgB (.string zs[k].1)) hgB (.int .i64 zs[k].2)) (.cells #[.string zs[k].1, .int .i64 zs[k].2] 32))
          clear hr4 hkk4
          go_wp2
          go_roundw
          case rel => exact ⟨k + 1, (zs.set k zs[j]).set j zs[k], by go_num, by omega, by rw [List.length_set, List.length_set, hzl], ⟨by rw [List.length_set, List.length_set, hzl]; exact HRow.out, fun x hx => by
            rcases List.mem_or_eq_of_mem_set hx with hx | rfl
            · rcases List.mem_or_eq_of_mem_set hx with hx | rfl
              · exact HOk.out x hx
              · exact HOk.out _ (List.getElem_mem hj1)
            · exact HOk.out _ (List.getElem_mem hk1)⟩, HRd.out, HKk.out⟩
          case measure => simp [intOf]; omega
      · obtain rfl : k = xs.length := by omega
        go_wp2
        go_ret2
        exact ⟨_, xs, _, zs, rfl, ⟨by omega, by omega⟩, hown2.keeps hrlt hkr, hown.base hs2, hr.mono (by omega), RK.trans hkk2 hkr⟩
  · have hb0 : ((c : Int) == 0) = false := by rw [beq_eq_false_iff_ne]; omega
    by_cases h1 : c = 1
    · subst h1
      go_wp2_with fail
      refine (copyItems_any v xs w2 hown2.items (by omega)).mono ?_
      rintro e w3 ⟨u, rfl, hu, hb3⟩
      have hr3 := hr2.below hb3
      have hk3 : Keeps (RK r w2) w2 w3 := RK.of_below hb3
      have hs3 := hk3.size
      clear hb3
      by_cases hz : 0 < xs.length
      · have hcmp : (0 : Int) < (xs.length : Int) := by omega
        obtain ⟨g, cap, rfl, hgc, hgB⟩ := own_shape hu.1 hz
        obtain ⟨vo, vcap, rfl, _, _⟩ := own_slice hown2.1
        go_wp2_with fail
        refine (pick_any r _ xs.length w3 hr3 (by omega) (by omega) (by omega)).mono ?_
        rintro e w4 ⟨j, rfl, hj, hr4, hk4⟩
        have hu4 := hu.keeps (by omega) hk4
        have hkk4 := RK.trans hk3 hk4
        clear hu hk4 hk3 hr3
        go_wp2_with fail
        refine (aCount_any r _ w4 hr4 (by omega)).mono ?_
        rintro e w5 ⟨x, hx, rfl, hr5, hk5⟩
        have hu5 := hu4.keeps (by omega) hk5
        have hkk5 := RK.trans hkk4 hk5
        clear hu4 hk5 hkk4 hr4
        have hlt : j < xs.length := by omega
        have hrow := hu5.1
        obtain ⟨q, c1⟩ := row_cell hrow (j := j * 2 + 1) (by omega)
        have f1 := hrow.frozenAt (j * 2 + 1)
        have hst := Lib.hid (row_number hrow hlt x)
        have hok5 := Lib.hid hu5.2
        clear hu5 hrow
        go_wp2
        go_ret2
        exact ⟨_, xs, _, xs.set j (xs[j].1, x), rfl, ⟨by omega, by rw [List.length_set]; omega⟩, hown2.keeps hrlt (RK.set hkk5 hgB _), (OwnI.base (B := w2.heap.size) ⟨by rw [List.length_set]; exact hst.out, okI_setN hok5.out hlt x (by omega)⟩ hs2), (hr5.mono (by omega)).set (by show r < g; have := hs2; have := hrlt; omega) _, RK.trans hkk2 (RK.set hkk5 hgB _)⟩
      · have hcmp : ¬ (0 : Int) < (xs.length : Int) := by omega
        obtain ⟨uo, ucap, rfl, _, _⟩ := own_slice hu.1
        obtain ⟨vo, vcap, rfl, _, _⟩ := own_slice hown2.1
        go_wp2
        go_ret2
        exact ⟨_, xs, _, xs, rfl, ⟨by omega, by omega⟩, hown2.keeps hrlt hk3, hu.base hs2, hr3.mono (by omega), RK.trans hkk2 hk3⟩
    · have hb1 : ((c : Int) == 1) = false := by rw [beq_eq_false_iff_ne]; omega
      go_wp2_with fail
      refine (someItems_any r _ w2 hr2 (by omega)).mono ?_
      rintro e w3 ⟨u, ys, rfl, hl3, hu, hr3, hk3⟩
      go_wp2
      go_ret2
      exact ⟨_, xs, _, ys, rfl, ⟨by omega, by omega⟩, hown2.keeps hrlt hk3, hu.base hs2, hr3.mono (by omega), RK.trans hkk2 hk3⟩
end Go.Proofs.Ytfjgmnlbchcabaa
/-
  What drawn laws over items draw.
-/
namespace Go.Proofs.Ytfjgmnlbchcabaa
open Go.RowKit
open Go.ChangeShapes Go.WideShapes Go.ChangeAt Go.Deep

theorem draw_below {w w1 w2 : World} {r : Nat} (hb : Below w.heap.size w w1) (hr : w.heap.size ≤ r) (hk : Keeps (RK r w1) w1 w2) : Below w.heap.size w w2 :=
  hb.trans (Keeps.below hk (fun k hk => ⟨Nat.lt_of_lt_of_le hk hb.size, by omega⟩))

set_option maxHeartbeats 800000 in
set_option maxRecDepth 100000 in
theorem DrawTurnItems_any (v : Value) (bs : List Int) (w : World) (h : Bytes w v bs) :
    Calls Try.prog 30 #[v] w fun e w' => ∃ v' xs, e = .returned v' ∧ xs.length ≤ 9 ∧ Items w' v' xs ∧ Below w.heap.size w w' := by
  go_enter Try.func30, Try.ntmps30
  go_wp2_with fail
  refine (newReader_any v bs w h).mono ?_
  rintro e w1 ⟨r, rfl, hr, hR1, hb1⟩
  go_wp2_with fail
  refine (someItems_any r 0 w1 hR1 (by omega)).mono ?_
  rintro e w2 ⟨v2, xs, rfl, hl, hown, hR2, hk2⟩
  have hB := draw_below hb1 hr hk2
  go_wp2
  go_ret
  exact ⟨v2, xs, rfl, hl, hown.items, hB⟩

set_option maxHeartbeats 800000 in
set_option maxRecDepth 100000 in
theorem DrawSortKeys_any (v : Value) (bs : List Int) (w : World) (h : Bytes w v bs) :
    Calls Try.prog 35 #[v] w fun e w' => ∃ v' xs, e = .returned v' ∧ xs.length ≤ 9 ∧ Items w' v' xs ∧ Below w.heap.size w w' := by
  go_enter Try.func35, Try.ntmps35
  go_wp2_with fail
  refine (newReader_any v bs w h).mono ?_
  rintro e w1 ⟨r, rfl, hr, hR1, hb1⟩
  go_wp2_with fail
  refine (someItems_any r 0 w1 hR1 (by omega)).mono ?_
  rintro e w2 ⟨v2, xs, rfl, hl, hown, hR2, hk2⟩
  have hB := draw_below hb1 hr hk2
  go_wp2
  go_ret
  exact ⟨v2, xs, rfl, hl, hown.items, hB⟩

set_option maxHeartbeats 800000 in
set_option maxRecDepth 100000 in
theorem DrawOverItems_any (v : Value) (bs : List Int) (w : World) (h : Bytes w v bs) :
    Calls Try.prog 15 #[v] w fun e w' => ∃ va xs vb ys, e = .returned (.tuple #[va, vb]) ∧ (xs.length ≤ 9 ∧ ys.length ≤ 9) ∧ Items w' va xs ∧ Items w' vb ys ∧ Below w.heap.size w w' := by
  go_enter Try.func15, Try.ntmps15
  go_wp2_with fail
  refine (newReader_any v bs w h).mono ?_
  rintro e w1 ⟨r, rfl, hr, hR1, hb1⟩
  go_wp2_with fail
  refine (twoItems_any r 0 w1 hR1 (by omega)).mono ?_
  rintro e w2 ⟨v2, xs, u2, ys, rfl, hl, hown, hown2, hR2, hk2⟩
  have hB := draw_below hb1 hr hk2
  go_wp2
  go_ret2
  exact ⟨v2, xs, u2, ys, rfl, hl, hown.items, hown2.items, hB⟩

set_option maxHeartbeats 800000 in
set_option maxRecDepth 100000 in
theorem DrawMeetKeys_any (v : Value) (bs : List Int) (w : World) (h : Bytes w v bs) :
    Calls Try.prog 43 #[v] w fun e w' => ∃ va xs vb ys, e = .returned (.tuple #[va, vb]) ∧ (xs.length ≤ 9 ∧ ys.length ≤ 9) ∧ Items w' va xs ∧ Items w' vb ys ∧ Below w.heap.size w w' := by
  go_enter Try.func43, Try.ntmps43
  go_wp2_with fail
  refine (newReader_any v bs w h).mono ?_
  rintro e w1 ⟨r, rfl, hr, hR1, hb1⟩
  go_wp2_with fail
  refine (twoItems_any r 0 w1 hR1 (by omega)).mono ?_
  rintro e w2 ⟨v2, xs, u2, ys, rfl, hl, hown, hown2, hR2, hk2⟩
  have hB := draw_below hb1 hr hk2
  go_wp2
  go_ret2
  exact ⟨v2, xs, u2, ys, rfl, hl, hown.items, hown2.items, hB⟩

set_option maxHeartbeats 800000 in
set_option maxRecDepth 100000 in
theorem DrawJoinKeys_any (v : Value) (bs : List Int) (w : World) (h : Bytes w v bs) :
    Calls Try.prog 48 #[v] w fun e w' => ∃ va xs vb ys, e = .returned (.tuple #[va, vb]) ∧ (xs.length ≤ 9 ∧ ys.length ≤ 9) ∧ Items w' va xs ∧ Items w' vb ys ∧ Below w.heap.size w w' := by
  go_enter Try.func48, Try.ntmps48
  go_wp2_with fail
  refine (newReader_any v bs w h).mono ?_
  rintro e w1 ⟨r, rfl, hr, hR1, hb1⟩
  go_wp2_with fail
  refine (twoItems_any r 0 w1 hR1 (by omega)).mono ?_
  rintro e w2 ⟨v2, xs, u2, ys, rfl, hl, hown, hown2, hR2, hk2⟩
  have hB := draw_below hb1 hr hk2
  go_wp2
  go_ret2
  exact ⟨v2, xs, u2, ys, rfl, hl, hown.items, hown2.items, hB⟩

set_option maxHeartbeats 800000 in
set_option maxRecDepth 100000 in
theorem DrawLessKeys_any (v : Value) (bs : List Int) (w : World) (h : Bytes w v bs) :
    Calls Try.prog 51 #[v] w fun e w' => ∃ va xs vb ys, e = .returned (.tuple #[va, vb]) ∧ (xs.length ≤ 9 ∧ ys.length ≤ 9) ∧ Items w' va xs ∧ Items w' vb ys ∧ Below w.heap.size w w' := by
  go_enter Try.func51, Try.ntmps51
  go_wp2_with fail
  refine (newReader_any v bs w h).mono ?_
  rintro e w1 ⟨r, rfl, hr, hR1, hb1⟩
  go_wp2_with fail
  refine (twoItems_any r 0 w1 hR1 (by omega)).mono ?_
  rintro e w2 ⟨v2, xs, u2, ys, rfl, hl, hown, hown2, hR2, hk2⟩
  have hB := draw_below hb1 hr hk2
  go_wp2
  go_ret2
  exact ⟨v2, xs, u2, ys, rfl, hl, hown.items, hown2.items, hB⟩

set_option maxHeartbeats 800000 in
set_option maxRecDepth 100000 in
theorem DrawOddKeys_any (v : Value) (bs : List Int) (w : World) (h : Bytes w v bs) :
    Calls Try.prog 53 #[v] w fun e w' => ∃ va xs vb ys, e = .returned (.tuple #[va, vb]) ∧ (xs.length ≤ 9 ∧ ys.length ≤ 9) ∧ Items w' va xs ∧ Items w' vb ys ∧ Below w.heap.size w w' := by
  go_enter Try.func53, Try.ntmps53
  go_wp2_with fail
  refine (newReader_any v bs w h).mono ?_
  rintro e w1 ⟨r, rfl, hr, hR1, hb1⟩
  go_wp2_with fail
  refine (twoItems_any r 0 w1 hR1 (by omega)).mono ?_
  rintro e w2 ⟨v2, xs, u2, ys, rfl, hl, hown, hown2, hR2, hk2⟩
  have hB := draw_below hb1 hr hk2
  go_wp2
  go_ret2
  exact ⟨v2, xs, u2, ys, rfl, hl, hown.items, hown2.items, hB⟩

set_option maxHeartbeats 800000 in
set_option maxRecDepth 100000 in
theorem DrawPutItem_any (v : Value) (bs : List Int) (w : World) (h : Bytes w v bs) :
    Calls Try.prog 70 #[v] w fun e w' => ∃ v' xs s n, e = .returned (.tuple #[v', .string s, .int .i64 n]) ∧ (xs.length ≤ 9 ∧ s.size ≤ 9223372036854775807 ∧ -10000 ≤ n ∧ n ≤ 10000) ∧ Items w' v' xs ∧ Below w.heap.size w w' := by
  go_enter Try.func70, Try.ntmps70
  go_wp2_with fail
  refine (newReader_any v bs w h).mono ?_
  rintro e w1 ⟨r, rfl, hr, hR1, hb1⟩
  go_wp2_with fail
  refine (keyIn_any r 0 w1 hR1 (by omega)).mono ?_
  rintro e w2 ⟨v2, xs, s, rfl, hl, hown, hR2, hk2⟩
  go_wp2_with fail
  refine (one_lit r _ [7, 0, -7, 10000] w2 hR2 (by omega) (by decide) (by decide) rfl rfl).mono ?_
  rintro e w3 ⟨n, hn, rfl, hR3, hk3⟩
  have hn2 := near_mem (by rfl) hn
  have hown3 := hown.keeps hR1.lt hk3
  have hB := draw_below hb1 hr (RK.trans hk2 hk3)
  clear hn
  go_wp2
  exact bodyPost_ret (v := .tuple #[v2, .string s, .int .i64 n]) (by simp [results, Try.results70, go_sem]) rfl ⟨v2, xs, s, n, rfl, ⟨hl.1, hl.2, hn2⟩, hown3.items, hB⟩

end Go.Proofs.Ytfjgmnlbchcabaa
/-
  What drawn laws draw: items with a key and a number, with two texts, with texts.
-/
namespace Go.Proofs.Ytfjgmnlbchcabaa
open Go.RowKit
open Go.ChangeShapes Go.WideShapes Go.ChangeAt Go.Deep

theorem OwnT.keepsR {r : Nat} {w w' : World} {B : Nat} {v : Value} {xs : List ByteArray} (h : OwnT w B v xs) (hr : r < B) (hk : Keeps (RK r w) w w') : OwnT w' B v xs := ⟨own_keeps h.1 hr hk, h.2⟩

set_option maxHeartbeats 800000 in
set_option maxRecDepth 100000 in
theorem DrawDefaultItem_any (v : Value) (bs : List Int) (w : World) (h : Bytes w v bs) :
    Calls Try.prog 23 #[v] w fun e w' => ∃ v' xs s n, e = .returned (.tuple #[v', .string s, .int .i64 n]) ∧ (xs.length ≤ 9 ∧ s.size ≤ 9223372036854775807 ∧ -10000 ≤ n ∧ n ≤ 10000) ∧ Items w' v' xs ∧ Below w.heap.size w w' := by
  go_enter Try.func23, Try.ntmps23
  go_wp2_with fail
  refine (DrawPutItem_any v bs w h).mono ?_
  rintro e w1 ⟨v2, xs, s, n, rfl, hl, hI, hB⟩
  go_wp2
  exact bodyPost_ret (v := .tuple #[v2, .string s, .int .i64 n]) (by simp [results, Try.results23, go_sem]) rfl ⟨v2, xs, s, n, rfl, hl, hI, hB⟩

set_option maxHeartbeats 800000 in
set_option maxRecDepth 100000 in
theorem DrawRenameItem_any (v : Value) (bs : List Int) (w : World) (h : Bytes w v bs) :
    Calls Try.prog 26 #[v] w fun e w' => ∃ v' xs s t, e = .returned (.tuple #[v', .string s, .string t]) ∧ (xs.length ≤ 9 ∧ s.size ≤ 9223372036854775807 ∧ t.size ≤ 9223372036854775807) ∧ Items w' v' xs ∧ Below w.heap.size w w' := by
  go_enter Try.func26, Try.ntmps26
  go_wp2_with fail
  refine (newReader_any v bs w h).mono ?_
  rintro e w1 ⟨r, rfl, hr, hR1, hb1⟩
  go_wp2_with fail
  refine (keyIn_any r 0 w1 hR1 (by omega)).mono ?_
  rintro e w2 ⟨v2, xs, s, rfl, hl, hown, hR2, hk2⟩
  go_wp2_with fail
  refine (of_lit r _ [⟨#[110, 101, 119]⟩, ⟨#[122]⟩, ⟨#[97]⟩, ⟨#[]⟩, ⟨#[88]⟩, s] w2 hR2 (by omega) (by simp) (by simp) rfl rfl).mono ?_
  rintro e w3 ⟨t, ht, rfl, hR3, hk3⟩
  have ht2 : t.size ≤ 9223372036854775807 := by
    simp only [List.mem_cons, List.not_mem_nil, or_false] at ht
    rcases ht with rfl | rfl | rfl | rfl | rfl | rfl
    · decide
    · decide
    · decide
    · decide
    · decide
    · exact hl.2
  have hown3 := hown.keeps hR1.lt hk3
  have hB := draw_below hb1 hr (RK.trans hk2 hk3)
  clear ht
  go_wp2
  exact bodyPost_ret (v := .tuple #[v2, .string s, .string t]) (by simp [results, Try.results26, go_sem]) rfl ⟨v2, xs, s, t, rfl, ⟨hl.1, hl.2, ht2⟩, hown3.items, hB⟩

set_option maxHeartbeats 1600000 in
set_option maxRecDepth 100000 in
theorem DrawInKeyOrder_any (v : Value) (bs : List Int) (w : World) (h : Bytes w v bs) :
    Calls Try.prog 39 #[v] w fun e w' => ∃ v' xs vk ks, e = .returned (.tuple #[v', vk]) ∧ (xs.length ≤ 9 ∧ ks.length ≤ 5) ∧ Items w' v' xs ∧ Texts w' vk ks ∧ Below w.heap.size w w' := by
  obtain ⟨i0, hi0, hz0, hz1, hz2⟩ := info_parts Try.infoS
  go_enter Try.func39, Try.ntmps39
  go_wp2_with fail
  refine (newReader_any v bs w h).mono ?_
  rintro e w1 ⟨r, rfl, hr, hR1, hb1⟩
  have hrlt := hR1.lt
  have hbA : Below w1.heap.size w1 (w1.alloc (.cells #[] 9)) := (Below.refl _ _).alloc (Nat.le_refl _) _
  have hlit : OwnT (w1.alloc (.cells #[] 9)) w1.heap.size (.slice (some ⟨w1.heap.size, 0, none⟩) 0 0) [] :=
    ⟨World.ownsRow_lit (base := w1.heap.size) (e := 9) (size := 1) w1 #[] 0 (Nat.le_refl _) (by unfold maxLen; omega) rfl, fun x hx => by simp at hx⟩
  go_wp2_with fail
  refine (pick_any r _ 6 _ (hR1.below hbA) (by omega) (by omega) (by omega)).mono ?_
  rintro e w2 ⟨q0, rfl, hq0, hr2, hk2⟩
  have hk1' := RK.trans (RK.of_below hbA) hk2
  have hlit1 := hlit.keepsR hrlt hk2
  clear hlit hk2 hbA
  go_wp2
  go_loopw [5, 6] (fun x i wr => ∃ (ts : List ByteArray) (q : Nat), i = .int .i64 q ∧ ts.length + q ≤ 5 ∧ OwnT wr w1.heap.size x ts ∧ Reader wr r (1 + 2 * (5 - q)) ∧ Keeps (RK r w1) w1 wr) (fun _ i _ => (intOf i).toNat)
  case atStart => exact ⟨[], q0, rfl, by simp; omega, hlit1, hr2.mono (by omega), hk1'⟩
  case round =>
    clear hlit1 hr2 hk1' h
    obtain ⟨ts, q, rfl, hq8, hown, hrd, hk⟩ := hrel
    obtain ⟨xo, xcap, rfl, _, _⟩ := own_slice hown.1
    by_cases hq : 0 < q
    · go_wp2_with fail
      refine (anyKey_any r _ wr hrd (by omega)).mono ?_
      rintro e w3 ⟨s, hs2, rfl, hr3, hk3⟩
      have hown2 := hown.keepsR hrlt hk3
      have hkk2 := RK.trans hk hk3
      have hsz2 : w1.heap.size ≤ w3.heap.size := hkk2.size
      clear hrd hk3 hk hown
      go_wp2_with (at_builtin; refine wpList_append_own _ rfl _ _ 34 rfl w1.heap.size 9 i0 (.string ⟨#[]⟩) 1 16 Try.underlying34 hi0 hz0 hz1 hz2 rfl (by decide) (.slice xo ts.length xcap) ts.length (cellsT ts) rfl (hown2.1.alloc _) ⟨w3.heap.size, 0, none⟩ 1 1 [.string s] rfl rfl (cell_one_new _ _ _) (by intro u hu; simp at hu; subst hu; rfl) (by unfold maxLen; omega) (by omega) (by simp; omega) ?_; intro v' w5 hown5 hgrow5 hnil5)
      have hrow5 : OwnT w5 w1.heap.size v' (ts ++ [s]) := ⟨by
        have e1 : cellsT (ts ++ [s]) = cellsT ts ++ [.string s] := by simp [cellsT]
        rw [List.length_append, e1]; exact hown5, fun x hx => by
        rcases List.mem_append.1 hx with hx | hx
        · exact hown2.2 x hx
        · rw [List.mem_singleton.1 hx]; exact hs2⟩
      have hbb : Below w3.heap.size w3 (w3.alloc (.cells #[.string s] 9)) := (Below.refl _ _).alloc (Nat.le_refl _) _
      have hkk5 : Keeps (RK r w1) w1 w5 := by
        refine (RK.alloc hkk2 _).trans ⟨hgrow5.os, hgrow5.tape, hgrow5.output, hgrow5.size, fun j hj => hgrow5.block j (by simp; have := hj.1; omega) (fun e => ?_)⟩
        have := (hown2.1.lt j e.symm).1
        have := hj.1
        omega
      have hr5 : Reader w5 r (1 + 2 * (5 - q) + 2) := (hr3.below hbb).grown_to hgrow5 (fun j e => by have := (hown2.1.lt j e).1; omega)
      clear hown5 hgrow5 hnil5 hown2 hkk2 hr3 hbb
      go_roundw
      case rel => exact ⟨_, q - 1, by go_num, by rw [List.length_append]; simp; omega, hrow5, hr5.mono (by omega), hkk5⟩
      case measure => simp [intOf]; omega
    · obtain rfl : q = 0 := by omega
      go_wp2_with fail
      refine (someItems_any r _ wr hrd (by omega)).mono ?_
      rintro e w6 ⟨v6, xs, rfl, hl, hI, hr6, hk6⟩
      have hownT := hown.keepsR hrlt hk6
      have hB := draw_below hb1 hr (RK.trans hk hk6)
      go_wp2
      go_ret2
      exact ⟨v6, xs, _, ts, rfl, ⟨hl, by omega⟩, hI.items, hownT.texts, hB⟩

end Go.Proofs.Ytfjgmnlbchcabaa
