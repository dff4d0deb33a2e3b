/-
  What drawn laws over items draw.
-/
import Derived.Test.YtloalakpkjbeaaaRdI
import Derived.Test.YtloalakpkjbeaaaOpenB
namespace Go.Proofs.Ytloalakpkjbeaaa
open Go.RowKit
open Go.ChangeShapes Go.WideShapes Go.ChangeAt Go.Deep

theorem draw_below {w w1 w2 : World} {r : Nat} (hb : Below w.heap.size w w1) (hr : w.heap.size ≤ r) (hk : Keeps (RK r w1) w1 w2) : Below w.heap.size w w2 :=
  hb.trans (Keeps.below hk (fun k hk => ⟨Nat.lt_of_lt_of_le hk hb.size, by omega⟩))

set_option maxHeartbeats 800000 in
theorem DrawValidItems_any (v : Value) (bs : List Int) (w : World) (h : Bytes w v bs) :
    Calls Try.prog 15 #[v] w fun e w' => ∃ v' xs, e = .returned v' ∧ xs.length ≤ 9 ∧ Items w' v' xs ∧ Below w.heap.size w w' := by
  go_enter Try.func15, Try.ntmps15
  go_wp2_with fail
  refine (newReader_any v bs w h).mono ?_
  rintro e w1 ⟨r, rfl, hr, hR1, hb1⟩
  go_wp2_with fail
  refine (someItems_any r 0 w1 hR1 (by omega)).mono ?_
  rintro e w2 ⟨v2, xs, rfl, hl, hown, hR2, hk2⟩
  have hB := draw_below hb1 hr hk2
  go_wp2
  go_ret
  exact ⟨v2, xs, rfl, hl, hown.items, hB⟩

set_option maxHeartbeats 800000 in
theorem DrawKeepCounts_any (v : Value) (bs : List Int) (w : World) (h : Bytes w v bs) :
    Calls Try.prog 45 #[v] w fun e w' => ∃ v' xs, e = .returned v' ∧ xs.length ≤ 9 ∧ Items w' v' xs ∧ Below w.heap.size w w' := by
  go_enter Try.func45, Try.ntmps45
  go_wp2_with fail
  refine (newReader_any v bs w h).mono ?_
  rintro e w1 ⟨r, rfl, hr, hR1, hb1⟩
  go_wp2_with fail
  refine (someItems_any r 0 w1 hR1 (by omega)).mono ?_
  rintro e w2 ⟨v2, xs, rfl, hl, hown, hR2, hk2⟩
  have hB := draw_below hb1 hr hk2
  go_wp2
  go_ret
  exact ⟨v2, xs, rfl, hl, hown.items, hB⟩

set_option maxHeartbeats 800000 in
theorem DrawTurnCounts_any (v : Value) (bs : List Int) (w : World) (h : Bytes w v bs) :
    Calls Try.prog 48 #[v] w fun e w' => ∃ v' xs, e = .returned v' ∧ xs.length ≤ 9 ∧ Items w' v' xs ∧ Below w.heap.size w w' := by
  go_enter Try.func48, Try.ntmps48
  go_wp2_with fail
  refine (newReader_any v bs w h).mono ?_
  rintro e w1 ⟨r, rfl, hr, hR1, hb1⟩
  go_wp2_with fail
  refine (someItems_any r 0 w1 hR1 (by omega)).mono ?_
  rintro e w2 ⟨v2, xs, rfl, hl, hown, hR2, hk2⟩
  have hB := draw_below hb1 hr hk2
  go_wp2
  go_ret
  exact ⟨v2, xs, rfl, hl, hown.items, hB⟩

set_option maxHeartbeats 800000 in
theorem DrawTotalCount_any (v : Value) (bs : List Int) (w : World) (h : Bytes w v bs) :
    Calls Try.prog 51 #[v] w fun e w' => ∃ v' xs, e = .returned v' ∧ xs.length ≤ 9 ∧ Items w' v' xs ∧ Below w.heap.size w w' := by
  go_enter Try.func51, Try.ntmps51
  go_wp2_with fail
  refine (newReader_any v bs w h).mono ?_
  rintro e w1 ⟨r, rfl, hr, hR1, hb1⟩
  go_wp2_with fail
  refine (someItems_any r 0 w1 hR1 (by omega)).mono ?_
  rintro e w2 ⟨v2, xs, rfl, hl, hown, hR2, hk2⟩
  have hB := draw_below hb1 hr hk2
  go_wp2
  go_ret
  exact ⟨v2, xs, rfl, hl, hown.items, hB⟩

set_option maxHeartbeats 800000 in
theorem DrawCountOf_any (v : Value) (bs : List Int) (w : World) (h : Bytes w v bs) :
    Calls Try.prog 19 #[v] w fun e w' => ∃ v' xs s, e = .returned (.tuple #[v', .string s]) ∧ (xs.length ≤ 9 ∧ s.size ≤ 9223372036854775807) ∧ Items w' v' xs ∧ Below w.heap.size w w' := by
  go_enter Try.func19, Try.ntmps19
  go_wp2_with fail
  refine (newReader_any v bs w h).mono ?_
  rintro e w1 ⟨r, rfl, hr, hR1, hb1⟩
  go_wp2_with fail
  refine (keyIn_any r 0 w1 hR1 (by omega)).mono ?_
  rintro e w2 ⟨v2, xs, s, rfl, hl, hown, hR2, hk2⟩
  have hB := draw_below hb1 hr hk2
  go_wp2
  go_ret2
  exact ⟨v2, xs, s, rfl, hl, hown.items, hB⟩

set_option maxHeartbeats 800000 in
theorem DrawSubtractCounts_any (v : Value) (bs : List Int) (w : World) (h : Bytes w v bs) :
    Calls Try.prog 23 #[v] w fun e w' => ∃ va xs vb ys, e = .returned (.tuple #[va, vb]) ∧ (xs.length ≤ 9 ∧ ys.length ≤ 9) ∧ Items w' va xs ∧ Items w' vb ys ∧ Below w.heap.size w w' := by
  go_enter Try.func23, Try.ntmps23
  go_wp2_with fail
  refine (newReader_any v bs w h).mono ?_
  rintro e w1 ⟨r, rfl, hr, hR1, hb1⟩
  go_wp2_with fail
  refine (twoItems_any r 0 w1 hR1 (by omega)).mono ?_
  rintro e w2 ⟨v2, xs, u2, ys, rfl, hl, hown, hown2, hR2, hk2⟩
  have hB := draw_below hb1 hr hk2
  go_wp2
  go_ret2
  exact ⟨v2, xs, u2, ys, rfl, hl, hown.items, hown2.items, hB⟩

set_option maxHeartbeats 800000 in
theorem DrawAddCounts_any (v : Value) (bs : List Int) (w : World) (h : Bytes w v bs) :
    Calls Try.prog 30 #[v] w fun e w' => ∃ va xs vb ys, e = .returned (.tuple #[va, vb]) ∧ (xs.length ≤ 9 ∧ ys.length ≤ 9) ∧ Items w' va xs ∧ Items w' vb ys ∧ Below w.heap.size w w' := by
  go_enter Try.func30, Try.ntmps30
  go_wp2_with fail
  refine (newReader_any v bs w h).mono ?_
  rintro e w1 ⟨r, rfl, hr, hR1, hb1⟩
  go_wp2_with fail
  refine (twoItems_any r 0 w1 hR1 (by omega)).mono ?_
  rintro e w2 ⟨v2, xs, u2, ys, rfl, hl, hown, hown2, hR2, hk2⟩
  have hB := draw_below hb1 hr hk2
  go_wp2
  go_ret2
  exact ⟨v2, xs, u2, ys, rfl, hl, hown.items, hown2.items, hB⟩

set_option maxHeartbeats 800000 in
theorem DrawLessCounts_any (v : Value) (bs : List Int) (w : World) (h : Bytes w v bs) :
    Calls Try.prog 35 #[v] w fun e w' => ∃ va xs vb ys, e = .returned (.tuple #[va, vb]) ∧ (xs.length ≤ 9 ∧ ys.length ≤ 9) ∧ Items w' va xs ∧ Items w' vb ys ∧ Below w.heap.size w w' := by
  go_enter Try.func35, Try.ntmps35
  go_wp2_with fail
  refine (newReader_any v bs w h).mono ?_
  rintro e w1 ⟨r, rfl, hr, hR1, hb1⟩
  go_wp2_with fail
  refine (twoItems_any r 0 w1 hR1 (by omega)).mono ?_
  rintro e w2 ⟨v2, xs, u2, ys, rfl, hl, hown, hown2, hR2, hk2⟩
  have hB := draw_below hb1 hr hk2
  go_wp2
  go_ret2
  exact ⟨v2, xs, u2, ys, rfl, hl, hown.items, hown2.items, hB⟩

set_option maxHeartbeats 800000 in
theorem DrawMeetCounts_any (v : Value) (bs : List Int) (w : World) (h : Bytes w v bs) :
    Calls Try.prog 39 #[v] w fun e w' => ∃ va xs vb ys, e = .returned (.tuple #[va, vb]) ∧ (xs.length ≤ 9 ∧ ys.length ≤ 9) ∧ Items w' va xs ∧ Items w' vb ys ∧ Below w.heap.size w w' := by
  go_enter Try.func39, Try.ntmps39
  go_wp2_with fail
  refine (newReader_any v bs w h).mono ?_
  rintro e w1 ⟨r, rfl, hr, hR1, hb1⟩
  go_wp2_with fail
  refine (twoItems_any r 0 w1 hR1 (by omega)).mono ?_
  rintro e w2 ⟨v2, xs, u2, ys, rfl, hl, hown, hown2, hR2, hk2⟩
  have hB := draw_below hb1 hr hk2
  go_wp2
  go_ret2
  exact ⟨v2, xs, u2, ys, rfl, hl, hown.items, hown2.items, hB⟩

set_option maxHeartbeats 800000 in
theorem DrawJoinCounts_any (v : Value) (bs : List Int) (w : World) (h : Bytes w v bs) :
    Calls Try.prog 42 #[v] w fun e w' => ∃ va xs vb ys, e = .returned (.tuple #[va, vb]) ∧ (xs.length ≤ 9 ∧ ys.length ≤ 9) ∧ Items w' va xs ∧ Items w' vb ys ∧ Below w.heap.size w w' := by
  go_enter Try.func42, Try.ntmps42
  go_wp2_with fail
  refine (newReader_any v bs w h).mono ?_
  rintro e w1 ⟨r, rfl, hr, hR1, hb1⟩
  go_wp2_with fail
  refine (twoItems_any r 0 w1 hR1 (by omega)).mono ?_
  rintro e w2 ⟨v2, xs, u2, ys, rfl, hl, hown, hown2, hR2, hk2⟩
  have hB := draw_below hb1 hr hk2
  go_wp2
  go_ret2
  exact ⟨v2, xs, u2, ys, rfl, hl, hown.items, hown2.items, hB⟩

end Go.Proofs.Ytloalakpkjbeaaa
