/-
  The model's rest of items.
-/
import Derived.Test.YtloalakpkjbeaaaSpec
namespace Go.Proofs.Ytloalakpkjbeaaa
open Go.RowKit

theorem drewN_self (w : World) : ∃ n, w = w.drewN n := ⟨0, rfl⟩
theorem drewN_belows {w w' : World} (h : ∃ n, w' = w.drewN n) : Below w.heap.size w w' := by
  obtain ⟨n, rfl⟩ := h
  exact ⟨rfl, rfl, rfl, Nat.le_refl _, fun _ _ => rfl⟩
theorem Items.drewN {w wr : World} {v : Value} {xs : List Itm} (h : Items w v xs) (hw : ∃ n, wr = w.drewN n) : Items wr v xs := h.mono (drewN_belows hw) (Nat.le_refl _)
theorem rest_yes {b a : List Itm} {k : Nat} (h : k < b.length) (hq : hasI a b[k].1 = false) : restI (b.take (k + 1)) a = restI (b.take k) a ++ [b[k]] := by
  unfold restI; rw [List.take_succ_eq_append_getElem h, List.filter_append]; simp [hq]
theorem rest_no {b a : List Itm} {k : Nat} (h : k < b.length) (hq : hasI a b[k].1 = true) : restI (b.take (k + 1)) a = restI (b.take k) a := by
  unfold restI; rw [List.take_succ_eq_append_getElem h, List.filter_append]; simp [hq]
set_option maxHeartbeats 1600000 in
set_option maxRecDepth 100000 in
theorem srest_any (v va : Value) (xs a : List Itm) (w : World) (h : Items w v xs) (ha : Items w va a) (hn : xs.length ≤ 1000000) :
    Calls Try.prog 79 #[v, va] w (FreshI (restI xs a) w) := by
  obtain ⟨ao, cap, rfl, hlc, hcm, hok, hcell⟩ := h
  obtain ⟨i0, hi0, hz0, hz1, hz2⟩ := info_parts Try.infoI
  have hown0 := World.ownsRow_lit (base := w.heap.size) (e := 39) (size := 2) w #[] 0 (Nat.le_refl _) (by unfold maxLen; omega) rfl
  go_enter Try.func79, Try.ntmps79
  go_wp2
  go_loopw [5, 6] (fun x i wr => ∃ k : Nat, k ≤ xs.length ∧ i = .int .i64 k ∧ wr.ownsRow w.heap.size 39 2 x (restI (xs.take k) a).length (cellsI (restI (xs.take k) a)) ∧ Below w.heap.size w wr ∧ w.heap.size < wr.heap.size) (fun _ i _ => xs.length - (intOf i).toNat)
  case atStart => exact ⟨0, Nat.zero_le _, rfl, hown0, (Below.refl _ _).alloc (Nat.le_refl _) _, by simp⟩
  case round =>
    obtain ⟨k, hk, rfl, hrow, hbl, hsz⟩ := hrel
    by_cases hlt : k < xs.length
    · obtain ⟨b, o, rfl, hb, h1, h2⟩ := hcell k hlt
      have c1 := (hbl.cell (p := ⟨b, _, none⟩) hb).trans h1
      have c2 := (hbl.cell (p := ⟨b, _, none⟩) hb).trans h2
      have hle : (restI (xs.take k) a).length ≤ k := Nat.le_trans (List.length_filter_le _ _) (List.length_take_le _ _)
      have hI := Lib.hid (ha.mono hbl (Nat.le_refl _))
      have HP := placeI_has a xs[k].1 0
      clear h1 h2
      obtain ⟨xo, xcap, rfl, _, _⟩ := own_slice hrow
      cases hp : hasI a xs[k].1
      · have e1 := Lib.hid (rest_yes hlt hp)
        have hpl : placeI a xs[k].1 0 < 0 := by have := HP.1 hp; omega
        clear HP
        go_wp2_with (first
          | (go_at_call 87; refine (place_any _ _ _ _ hI.out).mono ?_; rintro e w2 ⟨rfl, rfl⟩)
          | (at_builtin; refine wpList_append_own _ rfl _ _ 23 rfl w.heap.size 39 i0 (.agg #[.string ⟨#[]⟩, .int .i64 0]) 2 24 Try.underlying23 hi0 hz0 hz1 hz2 rfl (by decide) (.slice xo (restI (xs.take k) a).length xcap) (restI (xs.take k) a).length (cellsI (restI (xs.take k) a)) rfl (hrow.alloc _) ⟨wr.heap.size, 0, none⟩ 1 1 [.string xs[k].1, .int .i64 xs[k].2] rfl rfl (cells_two_new _ _ _ _) (by intro u hu; simp at hu; rcases hu with rfl | rfl <;> rfl) (by unfold maxLen; omega) (by omega) (by simp; omega) ?_; intro v' w2 hown2 hgrow2 hnil2))
        have hs2 := hgrow2.size
        simp at hs2
        have hrow3 : w2.ownsRow w.heap.size 39 2 v' (restI (xs.take (k + 1)) a).length (cellsI (restI (xs.take (k + 1)) a)) := by
          rw [e1.out, cellsI_snoc, List.length_append]; exact hown2
        have hb3 := (hbl.alloc (Nat.le_of_lt hsz) _).grown hgrow2 (by simp; omega) (fun j hj => (hrow.lt j hj).1)
        clear hown2 hrow c1 c2 hgrow2 hnil2
        go_roundw
        case rel => exact ⟨k + 1, by omega, by go_num, hrow3, hb3, by omega⟩
        case measure => simp [intOf]; omega
      · have e1 := Lib.hid (rest_no hlt hp)
        have hpl : 0 ≤ placeI a xs[k].1 0 := by have := HP.2 hp; omega
        clear HP
        go_wp2_with (go_at_call 87; refine (place_any _ _ _ _ hI.out).mono ?_; rintro e w2 ⟨rfl, rfl⟩)
        go_roundw
        case rel => exact ⟨k + 1, by omega, by go_num, by rw [e1.out]; exact hrow, hbl, hsz⟩
        case measure => simp [intOf]; omega
    · obtain rfl : k = xs.length := by omega
      rw [List.take_length] at hrow
      go_wp2
      go_ret
      exact ⟨_, rfl, ⟨hrow, okI_filter hok _⟩, hbl⟩
theorem rest_le (b a : List Itm) : (restI b a).length ≤ b.length := List.length_filter_le _ _
theorem Items.drew {w : World} {v : Value} {xs : List Itm} (h : Items w v xs) : Items w.drew v xs := h
end Go.Proofs.Ytloalakpkjbeaaa
