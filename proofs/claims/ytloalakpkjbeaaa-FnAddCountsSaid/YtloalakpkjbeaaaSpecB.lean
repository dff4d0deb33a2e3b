/-
  The model's count, and what is positive.
-/
import Derived.Test.YtloalakpkjbeaaaSpec
import Derived.Test.YtloalakpkjbeaaaImpl2
import Derived.Test.YtloalakpkjbeaaaCountS
namespace Go.Proofs.Ytloalakpkjbeaaa
open Go.RowKit

theorem posI_yes {l : List Itm} {k : Nat} (h : k < l.length) (hq : 0 < l[k].2) : posI (l.take (k + 1)) = posI (l.take k) ++ [l[k]] := by
  unfold posI; rw [List.take_succ_eq_append_getElem h, List.filter_append]; simp [hq]
theorem posI_no {l : List Itm} {k : Nat} (h : k < l.length) (hq : ¬ 0 < l[k].2) : posI (l.take (k + 1)) = posI (l.take k) := by
  unfold posI; rw [List.take_succ_eq_append_getElem h, List.filter_append]; simp [hq]
set_option maxHeartbeats 800000 in
theorem spositive_any (v : Value) (xs : List Itm) (w : World) (h : Items w v xs) (hn : xs.length ≤ 1000000) :
    Calls Try.prog 77 #[v] w (FreshI (posI xs) w) := by
  obtain ⟨ao, cap, rfl, hlc, hcm, hok, hcell⟩ := h
  obtain ⟨i0, hi0, hz0, hz1, hz2⟩ := info_parts Try.infoI
  have hown0 := World.ownsRow_lit (base := w.heap.size) (e := 39) (size := 2) w #[] 0 (Nat.le_refl _) (by unfold maxLen; omega) rfl
  go_enter Try.func77, Try.ntmps77
  go_wp2
  go_loopw [3, 4] (fun x i wr => ∃ k : Nat, k ≤ xs.length ∧ i = .int .i64 k ∧ wr.ownsRow w.heap.size 39 2 x (posI (xs.take k)).length (cellsI (posI (xs.take k))) ∧ Below w.heap.size w wr ∧ w.heap.size < wr.heap.size) (fun _ i _ => xs.length - (intOf i).toNat)
  case atStart => exact ⟨0, Nat.zero_le _, rfl, hown0, (Below.refl _ _).alloc (Nat.le_refl _) _, by simp⟩
  case round =>
    obtain ⟨k, hk, rfl, hrow, hbl, hsz⟩ := hrel
    by_cases hlt : k < xs.length
    · obtain ⟨b, o, rfl, hb, h1, h2⟩ := hcell k hlt
      have c1 := (hbl.cell (p := ⟨b, _, none⟩) hb).trans h1
      have c2 := (hbl.cell (p := ⟨b, _, none⟩) hb).trans h2
      have hle : (posI (xs.take k)).length ≤ k := Nat.le_trans (List.length_filter_le _ _) (List.length_take_le _ _)
      clear h1 h2
      obtain ⟨xo, xcap, rfl, _, _⟩ := own_slice hrow
      by_cases hp : 0 < xs[k].2
      · have e1 := Lib.hid (posI_yes hlt hp)
        go_wp2_with (at_builtin; refine wpList_append_own _ rfl _ _ 23 rfl w.heap.size 39 i0 (.agg #[.string ⟨#[]⟩, .int .i64 0]) 2 24 Try.underlying23 hi0 hz0 hz1 hz2 rfl (by decide) (.slice xo (posI (xs.take k)).length xcap) (posI (xs.take k)).length (cellsI (posI (xs.take k))) rfl (hrow.alloc _) ⟨wr.heap.size, 0, none⟩ 1 1 [.string xs[k].1, .int .i64 xs[k].2] rfl rfl (cells_two_new _ _ _ _) (by intro u hu; simp at hu; rcases hu with rfl | rfl <;> rfl) (by unfold maxLen; omega) (by omega) (by simp; omega) ?_; intro v' w2 hown2 hgrow2 hnil2)
        have hs2 := hgrow2.size
        simp at hs2
        have hrow3 : w2.ownsRow w.heap.size 39 2 v' (posI (xs.take (k + 1))).length (cellsI (posI (xs.take (k + 1)))) := by
          rw [e1.out, cellsI_snoc, List.length_append]; exact hown2
        have hb3 := (hbl.alloc (Nat.le_of_lt hsz) _).grown hgrow2 (by simp; omega) (fun j hj => (hrow.lt j hj).1)
        clear hown2 hrow c1 c2 hgrow2 hnil2
        go_roundw
        case rel => exact ⟨k + 1, by omega, by go_num, hrow3, hb3, by omega⟩
        case measure => simp [intOf]; omega
      · have e1 := Lib.hid (posI_no hlt hp)
        go_wp2
        go_roundw
        case rel => exact ⟨k + 1, by omega, by go_num, by rw [e1.out]; exact hrow, hbl, hsz⟩
        case measure => simp [intOf]; omega
    · obtain rfl : k = xs.length := by omega
      rw [List.take_length] at hrow
      go_wp2
      go_ret
      exact ⟨_, rfl, ⟨hrow, okI_filter hok _⟩, hbl⟩
end Go.Proofs.Ytloalakpkjbeaaa
