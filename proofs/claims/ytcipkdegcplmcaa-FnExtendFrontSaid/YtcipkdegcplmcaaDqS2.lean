/-
  The model's small functions over numbers, second part: the first ones, turned.
-/
import Derived.Test.YtcipkdegcplmcaaRowP
namespace Go.Proofs.Ytcipkdegcplmcaa
open Go.RowKit Go.Deep

set_option maxHeartbeats 800000 in
set_option maxRecDepth 100000 in
theorem fitFront_any (v : Value) (xs : List Int) (m : Int) (w : World) (h : Nums w v xs) (hn : xs.length ≤ 1000000) :
    Calls Try.prog 68 #[v, .int .i64 m] w fun e w' => ∃ v', e = .returned (.agg #[v', .int .i64 m]) ∧ OwnR w' w.heap.size v' (fitF xs m) ∧ Below w.heap.size w w' := by
  have HX : Hid (Nums (w.alloc (.cells #[.slice none 0 0, .int .i64 0] 25)) v xs) := h.mono ((Below.refl _ _).alloc (Nat.le_refl _) _) (Nat.le_refl _)
  obtain ⟨ao, cap, rfl, hlc, hcm⟩ := h.slice
  clear h
  go_enter Try.func68, Try.ntmps68
  by_cases hm : 0 ≤ m ∧ m < xs.length
  · obtain ⟨n, rfl⟩ : ∃ n : Nat, m = n := ⟨m.toNat, by omega⟩
    have HF : Hid (fitF xs n = xs.take n) := by show _ = _; unfold fitF; rw [if_pos hm, Int.toNat_natCast]
    have HD : Hid (Nums (w.alloc (.cells #[.slice none 0 0, .int .i64 0] 25)) (.slice ao n cap) (fitF xs n)) := by rw [HF.out]; exact HX.out.takeA (by omega)
    have HL : Hid ((fitF xs n).length = n) := by show _ = _; rw [HF.out, List.length_take]; omega
    go_wp2_with fail
    refine (copyInts_any _ (fitF xs n) _ HD.out (by rw [HL.out]; omega)).mono ?_
    rintro e w1 ⟨v', rfl, ho, hb⟩
    obtain ⟨xo, xcap, rfl, _, _⟩ := ho.nums.slice
    have HO := Lib.hid ho
    simp at hb
    have HB := Lib.hid hb
    have G1 := (res_two (a := .slice xo (fitF xs n).length xcap) (b := .int .i64 n) hb).1
    have q0 := two_cell0 G1
    have q1 := two_cell1 G1
    have f0 := two_free G1 0
    have f1 := two_free G1 1
    clear ho hb G1
    go_wp2
    exact bodyPost_ret (v := .agg #[.slice xo (fitF xs n).length xcap, .int .i64 n]) (by simp [results, Try.results68, go_sem, q0, q1]) rfl ⟨_, rfl, ((HO.out.keeps (K := fun k => w.heap.size + 1 ≤ k) (((Keeps.refl _ _).setCell (by simp) _).setCell (by simp) _) (by simp)).base (by simp)), (res_two HB.out).2⟩
  · have HF : Hid (fitF xs m = xs) := by show _ = _; unfold fitF; rw [if_neg hm]
    have HD : Hid (Nums (w.alloc (.cells #[.slice none 0 0, .int .i64 0] 25)) (.slice ao xs.length cap) (fitF xs m)) := by rw [HF.out]; exact HX.out
    have hmb : m < 0 ∨ (xs.length : Int) ≤ m := by omega
    clear hm
    rcases hmb with hm | hm
    all_goals
      go_wp2_with fail
      refine (copyInts_any _ (fitF xs m) _ HD.out (by rw [HF.out]; exact hn)).mono ?_
      rintro e w1 ⟨v', rfl, ho, hb⟩
      obtain ⟨xo, xcap, rfl, _, _⟩ := ho.nums.slice
      have HO := Lib.hid ho
      simp at hb
      have HB := Lib.hid hb
      have G1 := (res_two (a := .slice xo (fitF xs m).length xcap) (b := .int .i64 m) hb).1
      have q0 := two_cell0 G1
      have q1 := two_cell1 G1
      have f0 := two_free G1 0
      have f1 := two_free G1 1
      clear ho hb G1
      go_wp2
      exact bodyPost_ret (v := .agg #[.slice xo (fitF xs m).length xcap, .int .i64 m]) (by simp [results, Try.results68, go_sem, q0, q1]) rfl ⟨_, rfl, ((HO.out.keeps (K := fun k => w.heap.size + 1 ≤ k) (((Keeps.refl _ _).setCell (by simp) _).setCell (by simp) _) (by simp)).base (by simp)), (res_two HB.out).2⟩

theorem Nums_one (w : World) (x : Int) (E : TypeId) (hx : -9223372036854775808 ≤ x ∧ x ≤ 9223372036854775807) : Nums (w.alloc (.cells #[.int .i64 x] E)) (.slice (some ⟨w.heap.size, 0, none⟩) 1 1) [x] := by
  refine ⟨_, 1, rfl, Nat.le_refl _, by omega, fun y hy => ?_, fun k hk => ?_⟩
  · rw [List.mem_singleton.1 hy]; exact hx
  · obtain rfl : k = 0 := by simpa using hk
    exact ⟨w.heap.size, 0, rfl, by simp, by simp⟩

set_option maxHeartbeats 800000 in
set_option maxRecDepth 100000 in
theorem turned_any (v : Value) (xs : List Int) (w : World) (h : Nums w v xs) (hl : xs.length ≤ 1000) :
    Calls Try.prog 69 #[v] w (FreshR xs.reverse w) := by
  obtain ⟨ao, cap, rfl, hlc, hcm, hok, hcell⟩ := h
  have hown0 := World.ownsRow_lit (base := w.heap.size) (e := 3) (size := 1) w #[] 0 (Nat.le_refl _) (by unfold maxLen; omega) rfl
  go_enter Try.func69, Try.ntmps69
  go_wp2
  go_loopw [3, 4] (fun x i wr => ∃ k : Nat, k ≤ xs.length ∧ i = .int .i64 ((xs.length : Int) - 1 - k) ∧ wr.ownsRow w.heap.size 3 1 x k (cellsN ((xs.reverse).take k)) ∧ Below w.heap.size w wr ∧ w.heap.size < wr.heap.size) (fun _ i _ => (intOf i + 1).toNat)
  case atStart => exact ⟨0, Nat.zero_le _, by go_num, hown0, (Below.refl _ _).alloc (Nat.le_refl _) _, by simp⟩
  case round =>
    obtain ⟨k, hk, rfl, hrow, hbl, hsz⟩ := hrel
    by_cases hlt : k < xs.length
    · obtain ⟨j, hj⟩ : ∃ j : Nat, j = xs.length - 1 - k := ⟨_, rfl⟩
      have hjl : j < xs.length := by omega
      obtain ⟨b, o, rfl, hb, h1⟩ := hcell j hjl
      have c1 := (hbl.cell (p := ⟨b, _, none⟩) hb).trans h1
      have ej : (xs.length : Int) - 1 - (k : Int) = (j : Int) := by omega
      rw [ej]
      have hrv : (xs.reverse).take (k + 1) = (xs.reverse).take k ++ [xs[j]] := by
        rw [List.take_succ_eq_append_getElem (by simpa using hlt), List.getElem_reverse]
        simp only [hj]
      have e1 := Lib.hid hrv
      have HJ := Lib.hid hj
      have HEJ := Lib.hid ej
      clear h1 hrv hj ej
      obtain ⟨xo, xcap, rfl, _, _⟩ := own_slice hrow
      have hs' := hok _ (List.getElem_mem hjl)
      go_wp2_with (at_builtin; refine wpl_append_nums _ rfl _ _ rfl w.heap.size (.slice xo k xcap) k (cellsN ((xs.reverse).take k)) rfl (hrow.alloc _) (.slice (some ⟨wr.heap.size, 0, none⟩) 1 1) [xs[j]] rfl (Nums_one _ _ _ hs') (by omega) (by simp) (by simp; omega) ?_; intro v' w2 hown2 hgrow2)
      have hs2 := hgrow2.size
      simp at hs2
      have hrow3 : w2.ownsRow w.heap.size 3 1 v' (k + 1) (cellsN ((xs.reverse).take (k + 1))) := by
        rw [e1.out, cellsN_append]; exact hown2
      have hb3 := (hbl.alloc (Nat.le_of_lt hsz) _).grown hgrow2 (by simp; omega) (fun j hj => (hrow.lt j hj).1)
      clear hown2 hrow c1 hgrow2
      go_roundw
      case rel => exact ⟨k + 1, by omega, by have := HEJ.out; go_num, hrow3, hb3, by omega⟩
      case measure => simp [intOf]
    · obtain rfl : k = xs.length := by omega
      rw [List.take_of_length_le (by simp)] at hrow
      have hokr : okN xs.reverse := fun x hx => hok x (List.mem_reverse.1 hx)
      go_wp2
      go_ret
      refine ⟨_, rfl, ⟨?_, hokr⟩, hbl⟩
      rw [List.length_reverse]
      exact hrow
end Go.Proofs.Ytcipkdegcplmcaa
