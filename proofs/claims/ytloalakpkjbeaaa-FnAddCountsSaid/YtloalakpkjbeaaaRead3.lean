/-
  Items drawn from a reader.
-/
import Derived.Test.YtloalakpkjbeaaaRdK
import Derived.Test.YtloalakpkjbeaaaObjs
namespace Go.Proofs.Ytloalakpkjbeaaa
open Go.RowKit

/-- Drawn items: a row of the call's own. -/
def DrawI (r P m : Nat) (w : World) (e : Ending) (w' : World) : Prop :=
  ∃ v xs, e = .returned v ∧ xs.length ≤ m ∧ OwnI 39 w' w.heap.size v xs ∧ Reader w' r P ∧ Keeps (RK r w) w w'
theorem OwnI.keeps {E r : Nat} {w w' : World} {B : Nat} {v : Value} {xs : List Itm} (h : OwnI E w B v xs) (hr : r < B) (hk : Keeps (RK r w) w w') : OwnI E w' B v xs := ⟨own_keeps h.1 hr hk, h.2⟩
set_option maxHeartbeats 800000 in
theorem goodItems_any (r P : Nat) (w : World) (h : Reader w r P) (hP : P ≤ 10000000) :
    Calls Try.prog 82 #[.pointer (some ⟨r, 0, none⟩)] w (DrawI r (P + 17) 8 w) := by
  have hrlt := h.lt
  have hb0 : Below w.heap.size w (w.alloc (.cells #[] 39)) := (Below.refl _ _).alloc (Nat.le_refl _) _
  have hlit : OwnI 39 (w.alloc (.cells #[] 39)) w.heap.size (.slice (some ⟨w.heap.size, 0, none⟩) 0 0) [] :=
    ⟨World.ownsRow_lit (base := w.heap.size) (e := 39) (size := 2) w #[] 0 (Nat.le_refl _) (by unfold maxLen; omega) rfl, fun x hx => by simp at hx⟩
  obtain ⟨i0, hi0, hz0, hz1, hz2⟩ := info_parts Try.infoI
  go_enter Try.func82, Try.ntmps82
  go_wp2_with fail
  refine (one_lit_at (w.heap.size + 1) r P [3, 4, 2, 5, 1, 0, 8] (w.alloc (.cells #[] 39)) (by simp) (h.below hb0) (by omega) (by decide) (by decide) rfl rfl).mono ?_
  rintro e w1 ⟨n, hn, rfl, hr1, hk1⟩
  have hn8 : 0 ≤ n ∧ n ≤ 8 := by simp at hn; omega
  obtain ⟨q0, rfl⟩ := Int.eq_ofNat_of_zero_le hn8.1
  have hk1' := RK.trans (RK.of_below hb0) hk1
  have hlit1 := hlit.keeps hrlt hk1
  clear hn hlit hk1
  go_wp2
  go_loopw [3, 4] (fun x i wr => ∃ (xs : List Itm) (q : Nat), i = .int .i64 q ∧ xs.length + q ≤ 8 ∧ OwnI 39 wr w.heap.size x xs ∧ Reader wr r (P + 1 + 2 * (8 - q)) ∧ Keeps (RK r w) w wr) (fun _ i _ => (intOf i).toNat)
  case atStart => exact ⟨[], q0, rfl, by simp; omega, hlit1, hr1.mono (by omega), hk1'⟩
  case round =>
    clear hlit1 hr1 hk1' h
    obtain ⟨xs, q, rfl, hq8, hown, hr, hk⟩ := hrel
    by_cases hq : 0 < q
    · go_wp2_with fail
      refine (aKey_any r _ wr hr (by omega)).mono ?_
      rintro e w2 ⟨s, hs, rfl, hr2, hk2⟩
      have hown2 := hown.keeps hrlt hk2
      have hkk2 := RK.trans hk hk2
      clear hr hk2 hk hown
      go_wp2_with fail
      refine (aCount_any r _ w2 hr2 (by omega)).mono ?_
      rintro e w3 ⟨c, hc, rfl, hr3, hk3⟩
      have hown3 := hown2.keeps hrlt hk3
      have hkk3 := RK.trans hkk2 hk3
      clear hr2 hk3 hkk2 hown2
      have hsz3 : w.heap.size ≤ w3.heap.size := hkk3.size
      have hI := Lib.hid ((hown3.below ((Below.refl w3.heap.size w3).alloc (Nat.le_refl _) (.cells #[.string s, .int .i64 c] 39)) (Nat.le_refl _)).items)
      obtain ⟨xo, xcap, rfl, _, _⟩ := own_slice hown3.1
      go_wp2_with fail
      refine (place_any _ xs s _ hI.out).mono ?_
      rintro e w4 ⟨rfl, rfl⟩
      by_cases hp : placeI xs s 0 < 0
      · go_wp2_with (at_builtin; refine wpList_append_own _ rfl _ _ 23 rfl w.heap.size 39 i0 (.agg #[.string ⟨#[]⟩, .int .i64 0]) 2 24 Try.underlying23 hi0 hz0 hz1 hz2 rfl (by decide) (.slice xo xs.length xcap) xs.length (cellsI xs) rfl ((hown3.1.alloc _).alloc _) ⟨w3.heap.size + 1, 0, none⟩ 1 1 [.string s, .int .i64 c] rfl rfl (cells_two_at (by simp) _ _ _) (by intro u hu; simp at hu; rcases hu with rfl | rfl <;> rfl) (by unfold maxLen; omega) (by omega) (by simp; omega) ?_; intro v' w5 hown5 hgrow5 hnil5)
        have hrow5 : OwnI 39 w5 w.heap.size v' (xs ++ [(s, c)]) := ⟨by rw [List.length_append, cellsI_snoc]; exact hown5, fun x hx => by
          rcases List.mem_append.1 hx with hx | hx
          · exact hown3.2 x hx
          · rw [List.mem_singleton.1 hx]; exact ⟨hs, by show _ ≤ c; omega, by show c ≤ _; omega⟩⟩
        have hbb : Below w3.heap.size w3 ((w3.alloc (.cells #[.string s, .int .i64 c] 39)).alloc (.cells #[.string s, .int .i64 c] 39)) := ((Below.refl _ _).alloc (Nat.le_refl _) _).alloc (by simp) _
        have hkk5 : Keeps (RK r w) w w5 := by
          refine (RK.alloc (RK.alloc hkk3 _) _).trans ⟨hgrow5.os, hgrow5.tape, hgrow5.output, hgrow5.size, fun j hj => hgrow5.block j (by simp; have := hj.1; omega) (fun e => ?_)⟩
          have := (hown3.1.lt j e.symm).1
          have := hj.1
          omega
        have hr5 : Reader w5 r (P + 1 + 2 * (8 - q) + 1 + 1) := (hr3.below hbb).grown_to hgrow5 (fun j e => by have := (hown3.1.lt j e).1; omega)
        clear hown5 hgrow5 hnil5 hown3 hkk3 hr3 hI hbb
        go_roundw
        case rel => exact ⟨_, q - 1, by go_num, by rw [List.length_append]; simp; omega, hrow5, hr5.mono (by omega), hkk5⟩
        case measure => simp [intOf]; omega
      · go_wp2
        go_roundw
        case rel => exact ⟨xs, q - 1, by go_num, by omega, ⟨(hown3.1.alloc _), hown3.2⟩, (hr3.below ((Below.refl _ _).alloc (Nat.le_refl _) _)).mono (by omega), RK.alloc hkk3 _⟩
        case measure => simp [intOf]; omega
    · obtain rfl : q = 0 := by omega
      go_wp2
      go_ret
      exact ⟨_, xs, rfl, by omega, hown, hr.mono (by omega), hk⟩
end Go.Proofs.Ytloalakpkjbeaaa
