/-
  RdI, LwI.
-/
import Derived.Deep.Slices
import Derived.Test.YtkaiekegbkoecaaP10
import Derived.Test.YtkaiekegbkoecaaP11
import Derived.Test.YtkaiekegbkoecaaP12
import Derived.Test.YtkaiekegbkoecaaP17
/-
  What is drawn: items with a key, two lists of items.
-/
namespace Go.Proofs.Ytkaiekegbkoecaa
open Go.RowKit
open Go.ChangeShapes Go.WideShapes Go.ChangeAt Go.Deep

/-- A list and a text drawn. -/
def DrawIS (r P : Nat) (w : World) (e : Ending) (w' : World) : Prop :=
  ∃ v xs s, e = .returned (.tuple #[v, .string s]) ∧ (xs.length ≤ 9 ∧ s.size ≤ 9223372036854775807) ∧ OwnI 43 w' w.heap.size v xs ∧ Reader w' r P ∧ Keeps (RK r w) w w'
/-- Two lists drawn. -/
def DrawII (r P : Nat) (w : World) (e : Ending) (w' : World) : Prop :=
  ∃ v xs u ys, e = .returned (.tuple #[v, u]) ∧ (xs.length ≤ 9 ∧ ys.length ≤ 9) ∧ OwnI 43 w' w.heap.size v xs ∧ OwnI 43 w' w.heap.size u ys ∧ Reader w' r P ∧ Keeps (RK r w) w w'

set_option maxHeartbeats 3200000 in
set_option maxRecDepth 100000 in
theorem twoItems_any (r P : Nat) (w : World) (h : Reader w r P) (hP : P ≤ 900000) :
    Calls Try.prog 82 #[.pointer (some ⟨r, 0, none⟩)] w (DrawII r (P + 60) w) := by
  have hrlt := h.lt
  go_enter Try.func82, Try.ntmps82
  go_wp2_with fail
  refine (someItems_any r P w h (by omega)).mono ?_
  rintro e w1 ⟨v, xs, rfl, hl, hown, hr1, hk1⟩
  go_wp2_with fail
  refine (pick_any r _ 5 w1 hr1 (by omega) (by omega) (by omega)).mono ?_
  rintro e w2 ⟨c, rfl, hc, hr2, hk2⟩
  have hown2 := hown.keeps hrlt hk2
  have hkk2 := RK.trans hk1 hk2
  have hs2 := hkk2.size
  clear hown hk1 hk2 hr1
  by_cases h0 : c = 0
  · subst h0
    go_wp2_with fail
    refine (copyItems_any v xs w2 hown2.items (by omega)).mono ?_
    rintro e w3 ⟨u, rfl, hu, hb3⟩
    have hr3 := hr2.below hb3
    obtain ⟨uo, ucap, rfl, _, _⟩ := own_slice hu.1
    obtain ⟨vo, vcap, rfl, _, _⟩ := own_slice hown2.1
    have hk3 : Keeps (RK r w2) w2 w3 := RK.of_below hb3
    clear hb3
    go_wp2
    go_loopw [6] (fun i wr => ∃ (k : Nat) (zs : List Itm), i = .int .i64 k ∧ k ≤ xs.length ∧ zs.length = xs.length ∧ OwnI 43 wr w2.heap.size (.slice uo xs.length ucap) zs ∧ Reader wr r (P + 22 + k) ∧ Keeps (RK r w2) w2 wr) (fun i _ => xs.length - (intOf i).toNat)
    case atStart => exact ⟨0, xs, rfl, Nat.zero_le _, rfl, hu, hr3.mono (by omega), hk3⟩
    case round =>
      clear hu hr3 hk3 h hr2
      obtain ⟨k, zs, rfl, hk, hzl, hown, hr, hkr⟩ := hrel
      by_cases hlt : k < xs.length
      · obtain ⟨g, cap', e, hgc, hgB⟩ := own_shape hown.1 (by omega)
        simp only [Value.slice.injEq] at e
        obtain ⟨rfl, -, rfl⟩ := e
        go_wp2_with fail
        refine (pick_any r _ xs.length wr hr (by omega) (by omega) (by omega)).mono ?_
        rintro e w4 ⟨j, rfl, hj, hr4, hk4⟩
        have hown4 := hown.keeps (by omega) hk4
        have hkk4 := RK.trans hkr hk4
        clear hown hk4 hkr hr
        have hk1 : k < zs.length := by omega
        have hj1 : j < zs.length := by omega
        have hrow := hown4.1
        rw [hzl] at hrow
        by_cases hkj : k = j
        · subst hkj
          have c0 := row_cell_at hrow (cells_at hk1).1
          have c1 := row_cell_at hrow (cells_at hk1).2
          have f0 := hrow.frozenAt (k * 2)
          have f1 := hrow.frozenAt (k * 2 + 1)
          have hgl := (own_range hrow (g := g) rfl).2
          have hs4 := hkk4.size
          have HRow := Lib.hid ((swap_row hk1 hj1 hrow).alloc (.cells #[.string zs[k].1, .int .i64 zs[k].2] 43))
          have HOk := Lib.hid hown4.2
          clear hrow hown4
          have hrg : r < g := by omega
          have HRd := Lib.hid (Reader.below ((((hr4.set (a := ⟨g, k * 2, none⟩) hrg (.string zs[k].1)).set (a := ⟨g, k * 2 + 1, none⟩) hrg (.int .i64 zs[k].2)).set (a := ⟨g, k * 2, none⟩) hrg (.string zs[k].1)).set (a := ⟨g, k * 2 + 1, none⟩) hrg (.int .i64 zs[k].2)) ((Below.refl _ _).alloc (Nat.le_refl _) (.cells #[.string zs[k].1, .int .i64 zs[k].2] 43)) |>.mono (show P + 22 + k + 1 ≤ P + 22 + (k + 1) by omega))
          have HKk := Lib.hid (RK.alloc (RK.set (a := ⟨g, k * 2 + 1, none⟩) (RK.set (a := ⟨g, k * 2, none⟩) (RK.set (a := ⟨g, k * 2 + 1, none⟩) (RK.set (a := ⟨g, k * 2, none⟩) hkk4 hgB (.string zs[k].1)) hgB (.int .i64 zs[k].2)) hgB (.string zs[k].1)) hgB (.int .i64 zs[k].2)) (.cells #[.string zs[k].1, .int .i64 zs[k].2] 43))
          clear hr4 hkk4
          go_wp2
          go_roundw
          case rel => exact ⟨k + 1, (zs.set k zs[k]).set k zs[k], by go_num, by omega, by rw [List.length_set, List.length_set, hzl], ⟨by rw [List.length_set, List.length_set, hzl]; exact HRow.out, fun x hx => by
            rcases List.mem_or_eq_of_mem_set hx with hx | rfl
            · rcases List.mem_or_eq_of_mem_set hx with hx | rfl
              · exact HOk.out x hx
              · exact HOk.out _ (List.getElem_mem hj1)
            · exact HOk.out _ (List.getElem_mem hk1)⟩, HRd.out, HKk.out⟩
          case measure => simp [intOf]; omega
        · have c0 := row_cell_at hrow (cells_at hk1).1
          have c1 := row_cell_at hrow (cells_at hk1).2
          have d0 := row_cell_at hrow (cells_at hj1).1
          have d1 := row_cell_at hrow (cells_at hj1).2
          have f0 := hrow.frozenAt (k * 2)
          have f1 := hrow.frozenAt (k * 2 + 1)
          have f2 := hrow.frozenAt (j * 2)
          have f3 := hrow.frozenAt (j * 2 + 1)
          have hne0 : k * 2 ≠ j * 2 := by omega
          have hne1 : k * 2 + 1 ≠ j * 2 + 1 := by omega
          have hne2 : k * 2 ≠ j * 2 + 1 := by omega
          have hne3 : k * 2 + 1 ≠ j * 2 := by omega
          have hgl := (own_range hrow (g := g) rfl).2
          have hs4 := hkk4.size
          have HRow := Lib.hid ((swap_row hk1 hj1 hrow).alloc (.cells #[.string zs[k].1, .int .i64 zs[k].2] 43))
          have HOk := Lib.hid hown4.2
          clear hrow hown4
          have hrg : r < g := by omega
          have HRd := Lib.hid (Reader.below ((((hr4.set (a := ⟨g, k * 2, none⟩) hrg (.string zs[j].1)).set (a := ⟨g, k * 2 + 1, none⟩) hrg (.int .i64 zs[j].2)).set (a := ⟨g, j * 2, none⟩) hrg (.string zs[k].1)).set (a := ⟨g, j * 2 + 1, none⟩) hrg (.int .i64 zs[k].2)) ((Below.refl _ _).alloc (Nat.le_refl _) (.cells #[.string zs[k].1, .int .i64 zs[k].2] 43)) |>.mono (show P + 22 + k + 1 ≤ P + 22 + (k + 1) by omega))
          have HKk := Lib.hid (RK.alloc (RK.set (a := ⟨g, j * 2 + 1, none⟩) (RK.set (a := ⟨g, j * 2, none⟩) (RK.set (a := ⟨g, k * 2 + 1, none⟩) (RK.set (a := ⟨g, k * 2, none⟩) hkk4 hgB (.string zs[j].1)) hgB (.int .i64 zs[j].2)) hgB (.string zs[k].1)) hgB (.int .i64 zs[k].2)) (.cells #[.string zs[k].1, .int .i64 zs[k].2] 43))
          clear hr4 hkk4
          go_wp2
          go_roundw
          case rel => exact ⟨k + 1, (zs.set k zs[j]).set j zs[k], by go_num, by omega, by rw [List.length_set, List.length_set, hzl], ⟨by rw [List.length_set, List.length_set, hzl]; exact HRow.out, fun x hx => by
            rcases List.mem_or_eq_of_mem_set hx with hx | rfl
            · rcases List.mem_or_eq_of_mem_set hx with hx | rfl
              · exact HOk.out x hx
              · exact HOk.out _ (List.getElem_mem hj1)
            · exact HOk.out _ (List.getElem_mem hk1)⟩, HRd.out, HKk.out⟩
          case measure => simp [intOf]; omega
      · obtain rfl : k = xs.length := by omega
        go_wp2
        go_ret2
        exact ⟨_, xs, _, zs, rfl, ⟨by omega, by omega⟩, hown2.keeps hrlt hkr, hown.base hs2, hr.mono (by omega), RK.trans hkk2 hkr⟩
  · have hb0 : ((c : Int) == 0) = false := by rw [beq_eq_false_iff_ne]; omega
    by_cases h1 : c = 1
    · subst h1
      go_wp2_with fail
      refine (copyItems_any v xs w2 hown2.items (by omega)).mono ?_
      rintro e w3 ⟨u, rfl, hu, hb3⟩
      have hr3 := hr2.below hb3
      have hk3 : Keeps (RK r w2) w2 w3 := RK.of_below hb3
      have hs3 := hk3.size
      clear hb3
      by_cases hz : 0 < xs.length
      · have hcmp : (0 : Int) < (xs.length : Int) := by omega
        obtain ⟨g, cap, rfl, hgc, hgB⟩ := own_shape hu.1 hz
        obtain ⟨vo, vcap, rfl, _, _⟩ := own_slice hown2.1
        go_wp2_with fail
        refine (pick_any r _ xs.length w3 hr3 (by omega) (by omega) (by omega)).mono ?_
        rintro e w4 ⟨j, rfl, hj, hr4, hk4⟩
        have hu4 := hu.keeps (by omega) hk4
        have hkk4 := RK.trans hk3 hk4
        clear hu hk4 hk3 hr3
        go_wp2_with fail
        refine (aCount_any r _ w4 hr4 (by omega)).mono ?_
        rintro e w5 ⟨x, hx, rfl, hr5, hk5⟩
        have hu5 := hu4.keeps (by omega) hk5
        have hkk5 := RK.trans hkk4 hk5
        clear hu4 hk5 hkk4 hr4
        have hlt : j < xs.length := by omega
        have hrow := hu5.1
        obtain ⟨q, c1⟩ := row_cell hrow (j := j * 2 + 1) (by omega)
        have f1 := hrow.frozenAt (j * 2 + 1)
        have hst := Lib.hid (row_number hrow hlt x)
        have hok5 := Lib.hid hu5.2
        clear hu5 hrow
        go_wp2
        go_ret2
        exact ⟨_, xs, _, xs.set j (xs[j].1, x), rfl, ⟨by omega, by rw [List.length_set]; omega⟩, hown2.keeps hrlt (RK.set hkk5 hgB _), (OwnI.base (B := w2.heap.size) ⟨by rw [List.length_set]; exact hst.out, okI_setN hok5.out hlt x (by omega)⟩ hs2), (hr5.mono (by omega)).set (by show r < g; have := hs2; have := hrlt; omega) _, RK.trans hkk2 (RK.set hkk5 hgB _)⟩
      · have hcmp : ¬ (0 : Int) < (xs.length : Int) := by omega
        obtain ⟨uo, ucap, rfl, _, _⟩ := own_slice hu.1
        obtain ⟨vo, vcap, rfl, _, _⟩ := own_slice hown2.1
        go_wp2
        go_ret2
        exact ⟨_, xs, _, xs, rfl, ⟨by omega, by omega⟩, hown2.keeps hrlt hk3, hu.base hs2, hr3.mono (by omega), RK.trans hkk2 hk3⟩
    · have hb1 : ((c : Int) == 1) = false := by rw [beq_eq_false_iff_ne]; omega
      go_wp2_with fail
      refine (someItems_any r _ w2 hr2 (by omega)).mono ?_
      rintro e w3 ⟨u, ys, rfl, hl3, hu, hr3, hk3⟩
      go_wp2
      go_ret2
      exact ⟨_, xs, _, ys, rfl, ⟨by omega, by omega⟩, hown2.keeps hrlt hk3, hu.base hs2, hr3.mono (by omega), RK.trans hkk2 hk3⟩
end Go.Proofs.Ytkaiekegbkoecaa
/-
  What drawn laws over items draw.
-/
namespace Go.Proofs.Ytkaiekegbkoecaa
open Go.RowKit
open Go.ChangeShapes Go.WideShapes Go.ChangeAt Go.Deep

theorem draw_below {w w1 w2 : World} {r : Nat} (hb : Below w.heap.size w w1) (hr : w.heap.size ≤ r) (hk : Keeps (RK r w1) w1 w2) : Below w.heap.size w w2 :=
  hb.trans (Keeps.below hk (fun k hk => ⟨Nat.lt_of_lt_of_le hk hb.size, by omega⟩))

set_option maxHeartbeats 800000 in
set_option maxRecDepth 100000 in
theorem DrawMeetItems_any (v : Value) (bs : List Int) (w : World) (h : Bytes w v bs) :
    Calls Try.prog 36 #[v] w fun e w' => ∃ va xs vb ys, e = .returned (.tuple #[va, vb]) ∧ (xs.length ≤ 9 ∧ ys.length ≤ 9) ∧ Items w' va xs ∧ Items w' vb ys ∧ Below w.heap.size w w' := by
  go_enter Try.func36, Try.ntmps36
  go_wp2_with fail
  refine (newReader_any v bs w h).mono ?_
  rintro e w1 ⟨r, rfl, hr, hR1, hb1⟩
  go_wp2_with fail
  refine (twoItems_any r 0 w1 hR1 (by omega)).mono ?_
  rintro e w2 ⟨v2, xs, u2, ys, rfl, hl, hown, hown2, hR2, hk2⟩
  have hB := draw_below hb1 hr hk2
  go_wp2
  go_ret2
  exact ⟨v2, xs, u2, ys, rfl, hl, hown.items, hown2.items, hB⟩

end Go.Proofs.Ytkaiekegbkoecaa
