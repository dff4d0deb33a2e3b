/-
  Functions over a deque: what they all begin with; a deque that is checked.
-/
import Derived.Test.YtcipkdegcplmcaaDqI
namespace Go.Proofs.Ytcipkdegcplmcaa
open Go.RowKit

/-- The argument's box and the result's, made first, and what is known while nothing is written there. -/
structure DFrame (W0 W : World) (v : Value) (m : Int) : Prop where
  arg : W.heap[W0.heap.size]? = some (.cells #[v, .int .i64 m] 25 (0, 0))
  res : W.heap[W0.heap.size + 1]? = some (.cells #[.slice none 0 0, .int .i64 0] 25 (0, 0))
  below : Below W0.heap.size W0 W
theorem DFrame.new (w : World) (v : Value) (m : Int) : DFrame w ((w.alloc (.cells #[v, .int .i64 m] 25)).alloc (.cells #[.slice none 0 0, .int .i64 0] 25)) v m :=
  ⟨heap_old (heap_new w _) _, heap_at _ _ (by simp), ((Below.refl _ _).alloc (Nat.le_refl _) _).alloc (by simp) _⟩
section
variable {W0 W : World} {v : Value} {m : Int}
theorem DFrame.size (D : DFrame W0 W v m) : W0.heap.size + 2 ≤ W.heap.size := by
  have := (Array.getElem?_eq_some_iff.1 D.res).1
  omega
theorem DFrame.past (D : DFrame W0 W v m) {B : Nat} {W' : World} (hb : Below B W W') (hB : W0.heap.size + 2 ≤ B) : DFrame W0 W' v m :=
  ⟨(hb.block _ (by omega)).trans D.arg, (hb.block _ (by omega)).trans D.res, D.below.trans (hb.mono (by omega))⟩
theorem DFrame.step (D : DFrame W0 W v m) {W' : World} (hb : Below W.heap.size W W') : DFrame W0 W' v m := D.past hb D.size
theorem DFrame.c0 (D : DFrame W0 W v m) : W.cell? ⟨W0.heap.size, 0, none⟩ = some v := two_cell0 D.arg
theorem DFrame.c1 (D : DFrame W0 W v m) : W.cell? ⟨W0.heap.size, 1, none⟩ = some (.int .i64 m) := two_cell1 D.arg
theorem DFrame.r0 (D : DFrame W0 W v m) : W.cell? ⟨W0.heap.size + 1, 0, none⟩ = some (.slice none 0 0) := two_cell0 D.res
theorem DFrame.r1 (D : DFrame W0 W v m) : W.cell? ⟨W0.heap.size + 1, 1, none⟩ = some (.int .i64 0) := two_cell1 D.res
theorem DFrame.free (D : DFrame W0 W v m) (j : Nat) : W.frozen? ⟨W0.heap.size + 1, j, none⟩ = false := two_free D.res j
theorem DFrame.nums (D : DFrame W0 W v m) {u : Value} {xs : List Int} (h : Nums W0 u xs) : Nums W u xs := h.mono D.below (Nat.le_refl _)
theorem DFrame.done (D : DFrame W0 W v m) (a b : Value) : Below W0.heap.size W0 ((W.setCell ⟨W0.heap.size + 1, 0, none⟩ a).setCell ⟨W0.heap.size + 1, 1, none⟩ b) := (D.below.setCell (by simp) _).setCell (by simp) _
/-- What lies behind the boxes stays where the result is written. -/
theorem DFrame.own (_D : DFrame W0 W v m) {lo : Nat} {u : Value} {xs : List Int} (h : OwnN lo W.heap.size W u xs) (hlo : W0.heap.size + 2 ≤ lo) (a b : Value) :
    OwnN W0.heap.size ((W.setCell ⟨W0.heap.size + 1, 0, none⟩ a).setCell ⟨W0.heap.size + 1, 1, none⟩ b).heap.size ((W.setCell ⟨W0.heap.size + 1, 0, none⟩ a).setCell ⟨W0.heap.size + 1, 1, none⟩ b) u xs :=
  (h.keeps (((Keeps.refl _ _).setCell (by simp [In]; omega) _).setCell (by simp [In]; omega) _)).wide (by omega) (by simp)
end
def okD (v : Value) (m : Int) (b : Bool) : Value := .tuple #[.agg #[v, .int .i64 m], .bool b]
def chkN (xs : List Int) (m : Int) : List Int := if validD xs m = true then xs else []
def chkM (xs : List Int) (m : Int) : Int := if validD xs m = true then m else 0
theorem chkN_le (xs : List Int) (m : Int) : (chkN xs m).length ≤ 10000000 := by
  unfold chkN
  split
  · rename_i h
    have := validD_len h
    omega
  · simp

set_option maxHeartbeats 800000 in
set_option maxRecDepth 100000 in
theorem schkD_any {lo hi : Nat} (v : Value) (xs : List Int) (m : Int) (w : World) (h : OwnN lo hi w v xs) (hhi : hi ≤ w.heap.size) :
    Calls Try.prog 63 #[.agg #[v, .int .i64 m]] w fun e w' => ∃ v', e = .returned (.tuple #[.agg #[v', .int .i64 (chkM xs m)], .bool (validD xs m)]) ∧ OwnN lo w'.heap.size w' v' (chkN xs m) ∧ Below w.heap.size w w' := by
  have HO := Lib.hid h
  have HX := Lib.hid h.nums
  obtain ⟨ao, cap, rfl, _, _⟩ := h.nums.slice
  clear h
  go_enter Try.func63, Try.ntmps63
  have D := DFrame.new w (.slice ao xs.length cap) m
  have c0 := D.c0
  have c1 := D.c1
  cases hv : validD xs m
  all_goals
    have HV := Lib.hid hv
    clear hv
    go_wp2_with fail
    refine (svD_v _ (D.nums HX.out) HV.out).mono ?_
    rintro e w1 ⟨rfl, hb⟩
    have D1 := D.step hb
    clear hb c0 c1
    have c0 := D1.c0
    have c1 := D1.c1
    have r0 := D1.r0
    have r1 := D1.r1
    have f0 := D1.free 0
    have f1 := D1.free 1
    go_wp2
  · exact bodyPost_ret (v := okD (.slice none 0 0) 0 false) (by simp [okD, results, Try.results63, go_sem, r0, r1]) rfl ⟨_, by unfold chkM; rw [HV.out]; rfl, by unfold chkN; rw [HV.out]; exact OwnN.none (by omega), D1.done _ _⟩
  · exact bodyPost_ret (v := okD (.slice ao xs.length cap) m true) (by simp [okD, results, Try.results63, go_sem, r0, r1]) rfl ⟨_, by unfold chkM; rw [HV.out]; rfl, by
      unfold chkN
      rw [HV.out]
      have hd := D1.done (.slice ao xs.length cap) (.int .i64 m)
      exact (HO.out.keeps (Keeps.of_below hd (fun j hj => Nat.lt_of_lt_of_le hj.2 hhi))).wide (Nat.le_refl _) (Nat.le_trans hhi hd.size), D1.done _ _⟩

set_option maxHeartbeats 800000 in
set_option maxRecDepth 100000 in
theorem chkD_any {lo hi : Nat} (v : Value) (xs : List Int) (m : Int) (w : World) (h : OwnN lo hi w v xs) (hhi : hi ≤ w.heap.size) :
    Calls Try.prog 59 #[.agg #[v, .int .i64 m]] w fun e w' => ∃ v', e = .returned (.tuple #[.agg #[v', .int .i64 (chkM xs m)], .bool (validD xs m)]) ∧ OwnN lo w'.heap.size w' v' (chkN xs m) ∧ Below w.heap.size w w' := by
  have HO := Lib.hid h
  have HX := Lib.hid h.nums
  obtain ⟨ao, cap, rfl, _, _⟩ := h.nums.slice
  clear h
  go_enter Try.func59, Try.ntmps59
  have D := DFrame.new w (.slice ao xs.length cap) m
  have c0 := D.c0
  have c1 := D.c1
  cases hv : validD xs m
  all_goals
    have HV := Lib.hid hv
    clear hv
    go_wp2_with fail
    refine (VD_v _ (D.nums HX.out) HV.out).mono ?_
    rintro e w1 ⟨rfl, hb⟩
    have D1 := D.step hb
    clear hb c0 c1
    have c0 := D1.c0
    have c1 := D1.c1
    have r0 := D1.r0
    have r1 := D1.r1
    have f0 := D1.free 0
    have f1 := D1.free 1
    go_wp2
  · exact bodyPost_ret (v := okD (.slice none 0 0) 0 false) (by simp [okD, results, Try.results59, go_sem, r0, r1]) rfl ⟨_, by unfold chkM; rw [HV.out]; rfl, by unfold chkN; rw [HV.out]; exact OwnN.none (by omega), D1.done _ _⟩
  · exact bodyPost_ret (v := okD (.slice ao xs.length cap) m true) (by simp [okD, results, Try.results59, go_sem, r0, r1]) rfl ⟨_, by unfold chkM; rw [HV.out]; rfl, by
      unfold chkN
      rw [HV.out]
      have hd := D1.done (.slice ao xs.length cap) (.int .i64 m)
      exact (HO.out.keeps (Keeps.of_below hd (fun j hj => Nat.lt_of_lt_of_le hj.2 hhi))).wide (Nat.le_refl _) (Nat.le_trans hhi hd.size), D1.done _ _⟩
end Go.Proofs.Ytcipkdegcplmcaa
