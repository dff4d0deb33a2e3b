/-
  Items drawn that may be invalid.
-/
import Derived.Test.YtloalakpkjbeaaaRead3
import Derived.Test.YtloalakpkjbeaaaSpecR
namespace Go.Proofs.Ytloalakpkjbeaaa
open Go.RowKit

theorem okI_set {l : List Itm} (h : okI l) (k : Nat) (x : Itm) (hs : x.1.size ≤ 9223372036854775807) (h1 : -10000 ≤ x.2 ∧ x.2 ≤ 10000) : okI (l.set k x) := fun y hy => by
  rcases List.mem_or_eq_of_mem_set hy with hy | rfl
  · exact h y hy
  · exact ⟨hs, by omega, by omega⟩
theorem okI_setN {l : List Itm} (h : okI l) {k : Nat} (hk : k < l.length) (n : Int) (h1 : -10000 ≤ n ∧ n ≤ 10000) : okI (l.set k (l[k].1, n)) := okI_set h k _ (h _ (List.getElem_mem hk)).1 h1
theorem okI_setK {l : List Itm} (h : okI l) {k : Nat} (hk : k < l.length) (s : ByteArray) (hs : s.size ≤ 9223372036854775807) : okI (l.set k (s, l[k].2)) := fun y hy => by
  rcases List.mem_or_eq_of_mem_set hy with hy | rfl
  · exact h y hy
  · exact ⟨hs, (h _ (List.getElem_mem hk)).2⟩

set_option maxHeartbeats 1600000 in
theorem someItems_any (r P : Nat) (w : World) (h : Reader w r P) (hP : P ≤ 1000000) :
    Calls Try.prog 55 #[.pointer (some ⟨r, 0, none⟩)] w (DrawI r (P + 21) 9 w) := by
  have hrlt := h.lt
  go_enter Try.func55, Try.ntmps55
  go_wp2_with fail
  refine (goodItems_any r P w h (by omega)).mono ?_
  rintro e w1 ⟨v, xs, rfl, hl, hown, hr1, hk1⟩
  by_cases hz : 0 < xs.length
  · have hcmp : (0 : Int) < (xs.length : Int) := by omega
    obtain ⟨g, cap, rfl, hgc, hgB⟩ := own_shape hown.1 hz
    go_wp2_with fail
    refine (pick_any r _ xs.length w1 hr1 (by omega) (by omega) (by omega)).mono ?_
    rintro e w2 ⟨k, rfl, hk, hr2, hk2⟩
    have hlt : k < xs.length := by omega
    have hown2 := hown.keeps hrlt hk2
    have hkk2 := RK.trans hk1 hk2
    clear hown hk1 hk2 hr1
    go_wp2_with fail
    refine (pick_any r _ 30 w2 hr2 (by omega) (by omega) (by omega)).mono ?_
    rintro e w3 ⟨c, rfl, hc, hr3, hk3⟩
    have hown3 := hown2.keeps hrlt hk3
    have hkk3 := RK.trans hkk2 hk3
    clear hown2 hk3 hr2 hkk2
    have hgr : r < g := by omega
    have hok := hown3.2
    by_cases h0 : c = 0
    · subst h0
      go_wp2_with fail
      refine (anyKey_any r _ w3 hr3 (by omega)).mono ?_
      rintro e w4 ⟨s, hs, rfl, hr4, hk4⟩
      have hrow4 := (hown3.keeps hrlt hk4).1
      have hkk4 := RK.trans hkk3 hk4
      have c1 := row_cell_at hrow4 (cells_at hlt).1
      have f1 := hrow4.frozenAt (k * 2)
      have hst := (hrow4.stored (k * 2) (.string s)).1
      rw [cellsI_setKey xs k hlt s] at hst
      go_wp2
      go_ret
      exact ⟨_, xs.set k (s, xs[k].2), rfl, by rw [List.length_set]; omega, ⟨by rw [List.length_set]; exact hst, okI_setK hok hlt s hs⟩, (hr4.mono (by omega)).set hgr _, RK.set hkk4 hgB _⟩
    · by_cases h1 : c = 1
      · subst h1
        go_wp2_with fail
        refine (one_lit r _ [10000, -10000, 9999, -9999] w3 hr3 (by omega) (by decide) (by decide) rfl rfl).mono ?_
        rintro e w4 ⟨x, hx, rfl, hr4, hk4⟩
        have hx2 := near_mem (by rfl) hx
        have hrow4 := (hown3.keeps hrlt hk4).1
        have hkk4 := RK.trans hkk3 hk4
        obtain ⟨u, c1⟩ := row_cell hrow4 (j := k * 2 + 1) (by omega)
        have f1 := hrow4.frozenAt (k * 2 + 1)
        have hst := row_number hrow4 hlt x
        clear hx
        go_wp2
        go_ret
        exact ⟨_, xs.set k (xs[k].1, x), rfl, by rw [List.length_set]; omega, ⟨by rw [List.length_set]; exact hst, okI_setN hok hlt x hx2⟩, (hr4.mono (by omega)).set hgr _, RK.set hkk4 hgB _⟩
      · have hb0 : ((c : Int) == 0) = false := by rw [beq_eq_false_iff_ne]; omega
        have hb1 : ((c : Int) == 1) = false := by rw [beq_eq_false_iff_ne]; omega
        by_cases h2 : c = 2
        · subst h2
          obtain ⟨i0, hi0, hz0, hz1, hz2⟩ := info_parts Try.infoI
          have c1 := row_cell_at hown3.1 (cells_at hlt).1
          have c2 := row_cell_at hown3.1 (cells_at hlt).2
          have hsz3 : w.heap.size ≤ w3.heap.size := hkk3.size
          go_wp2_with (at_builtin; refine wpList_append_own _ rfl _ _ 23 rfl w.heap.size 39 i0 (.agg #[.string ⟨#[]⟩, .int .i64 0]) 2 24 Try.underlying23 hi0 hz0 hz1 hz2 rfl (by decide) (.slice (some ⟨g, 0, none⟩) xs.length cap) xs.length (cellsI xs) rfl (hown3.1.alloc _) ⟨w3.heap.size, 0, none⟩ 1 1 [.string xs[k].1, .int .i64 xs[k].2] rfl rfl (cells_two_new _ _ _ _) (by intro u hu; simp at hu; rcases hu with rfl | rfl <;> rfl) (by unfold maxLen; omega) (by omega) (by simp; omega) ?_; intro v' w5 hown5 hgrow5 hnil5)
          have hbb : Below w3.heap.size w3 (w3.alloc (.cells #[.string xs[k].1, .int .i64 xs[k].2] 39)) := (Below.refl _ _).alloc (Nat.le_refl _) _
          have hkk5 : Keeps (RK r w) w w5 := by
            refine (RK.alloc hkk3 _).trans ⟨hgrow5.os, hgrow5.tape, hgrow5.output, hgrow5.size, fun j hj => hgrow5.block j (by simp; have := hj.1; omega) (fun e => ?_)⟩
            have := (hown3.1.lt j e.symm).1
            have := hj.1
            omega
          have hr5 : Reader w5 r _ := (hr3.below hbb).grown_to hgrow5 (fun j e => by have := (hown3.1.lt j e).1; omega)
          go_ret
          exact ⟨_, xs ++ [xs[k]], rfl, by simp; omega, ⟨by rw [List.length_append, cellsI_snoc]; exact hown5, fun y hy => by
            rcases List.mem_append.1 hy with hy | hy
            · exact hok y hy
            · rw [List.mem_singleton.1 hy]; exact hok _ (List.getElem_mem hlt)⟩, hr5.mono (by omega), hkk5⟩
        · have hb2 : ((c : Int) == 2) = false := by rw [beq_eq_false_iff_ne]; omega
          go_wp2
          go_ret
          exact ⟨_, xs, rfl, by omega, hown3, hr3.mono (by omega), hkk3⟩
  · have hcmp : ¬ (0 : Int) < (xs.length : Int) := by omega
    obtain ⟨xo, xcap, rfl, _, _⟩ := own_slice hown.1
    go_wp2
    go_ret
    exact ⟨_, xs, rfl, by omega, hown, hr1.mono (by omega), hk1⟩
end Go.Proofs.Ytloalakpkjbeaaa
