/-
  Numbers and deques drawn from a reader.
-/
import Derived.Test.YtcipkdegcplmcaaRdK
import Derived.Test.YtcipkdegcplmcaaDqS2
namespace Go.Proofs.Ytcipkdegcplmcaa
open Go.RowKit

def nearL (xs : List Int) : Prop := ∀ x ∈ xs, -10000 ≤ x ∧ x ≤ 10000
theorem nearL.ok {xs : List Int} (h : nearL xs) : okN xs := fun x hx => by have := h x hx; omega
theorem nearL.snoc {xs : List Int} (h : nearL xs) {x : Int} (hx : -10000 ≤ x ∧ x ≤ 10000) : nearL (xs ++ [x]) := fun y hy => by
  rcases List.mem_append.1 hy with hy | hy
  · exact h y hy
  · rw [List.mem_singleton.1 hy]; exact hx
theorem nearL.take {xs : List Int} (h : nearL xs) (k : Nat) : nearL (xs.take k) := fun y hy => h y (List.mem_of_mem_take hy)
/-- Drawn numbers. -/
def DrawL (r P m : Nat) (w : World) (e : Ending) (w' : World) : Prop :=
  ∃ v xs, e = .returned v ∧ xs.length ≤ m ∧ nearL xs ∧ OwnN w.heap.size w'.heap.size w' v xs ∧ Reader w' r P ∧ Keeps (RK r w) w w'

set_option maxHeartbeats 800000 in
theorem aNumber_any (r P : Nat) (w : World) (h : Reader w r P) (hP : P ≤ 100000000) :
    Calls Try.prog 85 #[.pointer (some ⟨r, 0, none⟩)] w (DrawN r (P + 1) w) := by
  go_enter Try.func85, Try.ntmps85
  go_wp2_with fail
  refine (one_lit r P [1, 2, 3, 4, 5, 1, -1, 0, 9] w h hP (by decide) (by decide) rfl rfl).mono ?_
  rintro e w1 ⟨x, hx, rfl, hr1, hk1⟩
  have hs := near_mem (by rfl) hx
  clear hx
  go_wp2
  go_ret
  exact ⟨x, hs, rfl, hr1, hk1⟩

set_option maxHeartbeats 800000 in
theorem anyNumber_any (r P : Nat) (w : World) (h : Reader w r P) (hP : P ≤ 10000000) :
    Calls Try.prog 71 #[.pointer (some ⟨r, 0, none⟩)] w (DrawN r (P + 2) w) := by
  go_enter Try.func71, Try.ntmps71
  go_wp2_with fail
  refine (pick_any r P 20 w h (by omega) (by omega) (by omega)).mono ?_
  rintro e w1 ⟨x, rfl, hx, hr1, hk1⟩
  by_cases h0 : x = 0
  · subst h0
    go_wp2_with fail
    refine (one_lit r (P + 1) [10000, -10000, 9999] w1 hr1 (by omega) (by decide) (by decide) rfl rfl).mono ?_
    rintro e w2 ⟨x, hx, rfl, hr2, hk2⟩
    have hs := near_mem (by rfl) hx
    clear hx
    go_wp2
    go_ret
    exact ⟨x, hs, rfl, hr2, RK.trans hk1 hk2⟩
  · have hz : ((x : Int) == 0) = false := by rw [beq_eq_false_iff_ne]; omega
    go_wp2_with fail
    refine (aNumber_any r (P + 1) w1 hr1 (by omega)).mono ?_
    rintro e w2 ⟨s, hs, rfl, hr2, hk2⟩
    go_wp2
    go_ret
    exact ⟨s, hs, rfl, hr2, RK.trans hk1 hk2⟩

theorem zeros11 : (madeCells (Value.int IntKind.i64 0).cells (11 * 1)).toList = cellsN (List.replicate 11 0) := by
  have h := toList_madeCells_one (.int .i64 0) 11
  have e : cellsN (List.replicate 11 0) = List.replicate 11 (.int .i64 0) := by simp [cellsN]
  rw [e, ← h]
  rfl

theorem RK.grown {r : Nat} {w w3 w5 : World} {v : Value} {B E S n : Nat} {xs : List Value} (h : Keeps (RK r w) w w3) (o : Go.Obj) (hown : w3.ownsRow B E S v n xs) (hB : w.heap.size ≤ B) (hg : (w3.alloc o).grownBy w5 v.ownBlock) : Keeps (RK r w) w w5 := by
  refine (RK.alloc h o).trans ⟨hg.os, hg.tape, hg.output, hg.size, fun j hj => hg.block j (by simp; have := hj.1; have := h.size; omega) (fun e => ?_)⟩
  have := (hown.lt j e.symm).1
  have := hj.1
  omega
theorem Reader.grown3 {r P : Nat} {w3 w5 : World} {v : Value} {B E S n : Nat} {xs : List Value} (h : Reader w3 r P) (o : Go.Obj) (hown : w3.ownsRow B E S v n xs) (hB : r < B) (hg : (w3.alloc o).grownBy w5 v.ownBlock) : Reader w5 r P :=
  (h.below ((Below.refl _ _).alloc (Nat.le_refl _) o)).grown_to hg (fun j e => by have := (hown.lt j e).1; omega)

set_option maxHeartbeats 1600000 in
set_option maxRecDepth 100000 in
theorem someInts_any (r P : Nat) (w : World) (h : Reader w r P) (hP : P ≤ 1000000) :
    Calls Try.prog 54 #[.pointer (some ⟨r, 0, none⟩)] w (DrawL r (P + 14) 11 w) := by
  have hrlt := h.lt
  have hb0 : Below w.heap.size w (w.alloc (.cells #[] 3)) := (Below.refl _ _).alloc (Nat.le_refl _) _
  have hlit := World.ownsRow_lit (base := w.heap.size) (e := 3) (size := 1) w #[] 0 (Nat.le_refl _) (by unfold maxLen; omega) rfl
  go_enter Try.func54, Try.ntmps54
  go_wp2_with fail
  refine (one_lit_at (w.heap.size + 1) r P [3, 4, 2, 5, 1, 0, 10] (w.alloc (.cells #[] 3)) (by simp) (h.below hb0) (by omega) (by decide) (by decide) rfl rfl).mono ?_
  rintro e w1 ⟨n, hn, rfl, hr1, hk1⟩
  have hn8 : 0 ≤ n ∧ n ≤ 10 := by simp at hn; omega
  obtain ⟨q0, rfl⟩ := Int.eq_ofNat_of_zero_le hn8.1
  have hk1' := RK.trans (RK.of_below hb0) hk1
  have hlit1 := own_keeps hlit hrlt hk1
  clear hn hlit hk1
  go_wp2
  go_loopw [3, 4] (fun x i wr => ∃ (xs : List Int) (q : Nat), i = .int .i64 q ∧ xs.length + q ≤ 10 ∧ nearL xs ∧ wr.ownsRow w.heap.size 3 1 x xs.length (cellsN xs) ∧ Reader wr r (P + 1 + (10 - q)) ∧ Keeps (RK r w) w wr) (fun _ i _ => (intOf i).toNat)
  case atStart => exact ⟨[], q0, rfl, by simp; omega, fun x hx => by simp at hx, hlit1, hr1.mono (by omega), hk1'⟩
  case round =>
    clear hlit1 hr1 hk1' h
    obtain ⟨xs, q, rfl, hq8, hnear, hown, hr, hk⟩ := hrel
    obtain ⟨xo, xcap, rfl, _, _⟩ := own_slice hown
    by_cases hq : 0 < q
    · go_wp2_with fail
      refine (aNumber_any r _ wr hr (by omega)).mono ?_
      rintro e w2 ⟨c, hc, rfl, hr2, hk2⟩
      have hown2 := own_keeps hown hrlt hk2
      have hkk2 := RK.trans hk hk2
      have hs2 := hkk2.size
      clear hr hk2 hk hown
      go_wp2_with (at_builtin; refine wpl_append_nums _ rfl _ _ rfl w.heap.size (.slice xo xs.length xcap) xs.length (cellsN xs) rfl (hown2.alloc _) (.slice (some ⟨w2.heap.size, 0, none⟩) 1 1) [c] rfl (Nums_one _ _ _ (by omega)) (by omega) (by simp) (by simp; omega) ?_; intro v' w5 hown5 hgrow5)
      have hkk5 := RK.grown hkk2 _ hown2 (Nat.le_refl _) hgrow5
      have hr5 := Reader.grown3 hr2 _ hown2 hrlt hgrow5
      have hown6 : w5.ownsRow w.heap.size 3 1 v' (xs ++ [c]).length (cellsN (xs ++ [c])) := by rw [List.length_append, cellsN_append]; exact hown5
      clear hown5 hgrow5 hown2 hkk2 hr2
      go_roundw
      case rel => exact ⟨_, q - 1, by go_num, by rw [List.length_append]; simp; omega, hnear.snoc hc, hown6, hr5.mono (by omega), hkk5⟩
      case measure => simp [intOf]; omega
    · obtain rfl : q = 0 := by omega
      go_wp2_with fail
      refine (pick_any r _ 30 wr hr (by omega) (by omega) (by omega)).mono ?_
      rintro e w3 ⟨c, rfl, hc, hr3, hk3⟩
      have hown3 := own_keeps hown hrlt hk3
      have hkk3 := RK.trans hk hk3
      have hs3 := hkk3.size
      clear hk hk3 hr hown
      by_cases h0 : c = 0
      · subst h0
        go_wp2_with fail
        refine (anyNumber_any r _ w3 hr3 (by omega)).mono ?_
        rintro e w2 ⟨c, hc, rfl, hr2, hk2⟩
        have hown2 := own_keeps hown3 hrlt hk2
        have hkk2 := RK.trans hkk3 hk2
        have hs2 := hkk2.size
        clear hr3 hk2 hkk3 hown3
        go_wp2_with (at_builtin; refine wpl_append_nums _ rfl _ _ rfl w.heap.size (.slice xo xs.length xcap) xs.length (cellsN xs) rfl (hown2.alloc _) (.slice (some ⟨w2.heap.size, 0, none⟩) 1 1) [c] rfl (Nums_one _ _ _ (by omega)) (by omega) (by simp) (by simp; omega) ?_; intro v' w5 hown5 hgrow5)
        have hkk5 := RK.grown hkk2 _ hown2 (Nat.le_refl _) hgrow5
        have hr5 := Reader.grown3 hr2 _ hown2 hrlt hgrow5
        have hn5 := hnear.snoc hc
        have hown6 : OwnN w.heap.size w5.heap.size w5 v' (xs ++ [c]) := OwnN.of (n := xs.length + 1) (by rw [cellsN_append]; exact hown5) hn5.ok
        clear hown5 hgrow5 hown2 hkk2 hr2
        go_wp2
        go_ret
        exact ⟨_, _, rfl, by rw [List.length_append]; simp; omega, hn5, hown6, hr5.mono (by omega), hkk5⟩
      · have hb0 : ((c : Int) == 0) = false := by rw [beq_eq_false_iff_ne]; omega
        by_cases h1 : c = 1
        · subst h1
          obtain ⟨i0, hi, hz0, hz1, hz2⟩ := info_parts Try.infoN
          have hbytes : i0.bytes * 11 ≤ 281474976710656 := by rw [hz2]; omega
          go_wp2_with (at_make; refine wpList_make_full _ rfl _ _ 23 rfl w3.heap.size 3 i0 _ 1 Try.underlying23 hi hz0 hz1 _ _ _ _ 11 rfl rfl rfl rfl hbytes (by unfold maxLen; omega) (Nat.le_refl _) ?_; intro w0 hown0 hgrow0)
          have hb3 : Below w3.heap.size w3 w0 := (Below.refl _ _).grown hgrow0 (Nat.le_refl _) (fun k hk => by cases hk)
          have hr5 := hr3.below hb3
          have hkk5 := RK.trans hkk3 (RK.of_below hb3)
          have hnz : nearL (List.replicate 11 0) := fun x hx => by rw [(List.mem_replicate.1 hx).2]; omega
          have hown6 : OwnN w.heap.size w0.heap.size w0 (.slice (some ⟨w3.heap.size, 0, none⟩) 11 11) (List.replicate 11 0) := (OwnN.of (n := 11) (xs := List.replicate 11 0) (zeros11 ▸ hown0) hnz.ok).wide hs3 (Nat.le_refl _)
          clear hown0 hgrow0 hown3
          go_wp2
          go_ret
          exact ⟨_, _, rfl, by simp, hnz, hown6, hr5.mono (by omega), hkk5⟩
        · have hb1 : ((c : Int) == 1) = false := by rw [beq_eq_false_iff_ne]; omega
          go_wp2
          go_ret
          exact ⟨_, xs, rfl, by omega, hnear, OwnN.of (n := xs.length) hown3 hnear.ok, hr3.mono (by omega), hkk3⟩
end Go.Proofs.Ytcipkdegcplmcaa
