/-
  Numbers and deques among what a statement carries; what an operation on them returns.
-/
import Derived.Test.YtigiliakcmpekaaNum
namespace Go.Proofs.Ytigiliakcmpekaa
open Go.RowKit

def RetN (v : Value) (w : World) (e : Ending) (w' : World) : Prop := e = .returned v ∧ Below w.heap.size w w'
def numT (lo hi : Nat) (v : Value) (xs : List Int) : Thing := ⟨lo, hi, fun w => OwnN lo hi w v xs, fun _ _ hk h => h.keeps hk⟩
theorem Things.nums {W w : World} {L : List Thing} (H : Things W w L) (i : Nat) {lo hi : Nat} {v : Value} {xs : List Int} (h : L[i]? = some (numT lo hi v xs)) : Nums w v xs :=
  OwnN.nums (show OwnN lo hi w v xs from (H.has i _ h).2.2)
theorem Things.argN {W w : World} {L : List Thing} (H : Things W w L) {v : Value} {xs : List Int} (h : Nums W v xs) : Nums w v xs := h.mono H.below (Nat.le_refl _)
theorem Things.newN {W w w' : World} {L : List Thing} {v : Value} {xs : List Int} (H : Things W w L) (ho : OwnN w.heap.size w'.heap.size w' v xs) (hb : Below w.heap.size w w') : Things W w' (numT w.heap.size w'.heap.size v xs :: L) :=
  H.new (Nat.le_refl _) (Nat.le_refl _) ho hb

theorem szN_T {W w : World} {L : List Thing} (H : Things W w L) {v : Value} {xs : List Int} {left : Int} (h : Nums W v xs) (h0 : 0 ≤ left) (hu : left ≤ 1048576) :
    Calls Try.prog 125 #[v, .int .i64 left] w fun e w' => ∃ r : Int, e = .returned (.int .i64 r) ∧ r ≤ 1048576 ∧ (¬ r < 0 → xs.length ≤ 1048576) ∧ Things W w' L := by
  refine (szIntS_any v xs left w (H.argN h) h0 hu).mono ?_
  rintro e w' ⟨r, rfl, h1, h2, hb⟩
  exact ⟨r, rfl, by omega, fun hr => by have := h2 (by omega); omega, H.quiet hb⟩
theorem toN_T {W w : World} {L : List Thing} (H : Things W w L) {v : Value} {xs : List Int} (h : Nums W v xs) (hn : xs.length ≤ 1048576) :
    Calls Try.prog 49 #[v] w fun e w' => ∃ v', e = .returned v' ∧ Things W w' (numT w.heap.size w'.heap.size v' xs :: L) := by
  refine (toIntS_any v xs w (H.argN h) hn).mono ?_
  rintro e w' ⟨v', rfl, ho, hb⟩
  exact ⟨v', rfl, H.newN ho hb⟩
theorem eqN_T {W w : World} {L : List Thing} (H : Things W w L) {v u : Value} {xs : List Int} (h : Nums w v xs) (h' : Nums w u xs) :
    Calls Try.prog 51 #[v, u] w fun e w' => e = .returned (.bool true) ∧ Things W w' L := by
  refine (eqIntS_any v u xs xs w h h').mono ?_
  rintro e w' ⟨rfl, hb⟩
  exact ⟨by rw [decide_eq_true rfl], H.quiet hb⟩
def MarkedN (W : World) (L : List Thing) (i : Nat) (t : Nat → Thing) (k q : Nat) (e : Ending) (w' : World) : Prop :=
  ∃ m : Nat, e = .returned (.int .i64 (m : Int)) ∧ ¬ ((m : Int) < 0) ∧ Hid (m = k + q) ∧ Things W w' (L.set i (t k))
theorem markN_T {W w : World} {L : List Thing} (H : Things W w L) (i k : Nat) {lo hi : Nat} {v : Value} {xs : List Int} (h : L[i]? = some (numT lo hi v xs)) (hk : 0 < k) (hk2 : k + xs.length ≤ 100000000) :
    Calls Try.prog 52 #[v, .int .i64 k] w (MarkedN W L i (fun k => numT lo hi v (marksN k xs.length)) k xs.length) := by
  have hz : OwnN lo hi w v xs := (H.has i _ h).2.2
  refine (markN_own hz hk hk2).mono ?_
  rintro e w' ⟨rfl, hz', hkp⟩
  exact ⟨_, rfl, by omega, rfl, H.set i h rfl rfl hz' hkp⟩
theorem heldN_T {W w : World} {L : List Thing} (H : Things W w L) (i : Nat) {lo hi k n m : Nat} {v : Value} (h : L[i]? = some (numT lo hi v (marksN k n))) (hk : 0 < k) (hk2 : k + n ≤ 100000000) (hm : Hid (m = k + n)) :
    Calls Try.prog 163 #[v, .int .i64 k] w fun e w' => e = .returned (.int .i64 (m : Int)) ∧ Things W w' L := by
  refine (heldIntS_any v n k w (H.nums i h) hk hk2).mono ?_
  rintro e w' ⟨rfl, hb⟩
  rw [hm.out]
  exact ⟨rfl, H.quiet hb⟩

theorem Things.boxedAt {W w : World} {L : List Thing} (H : Things W w L) (n : Nat) (hn : n = w.heap.size) (T : Nat) (cs : List Value) : Things W (w.alloc (.cells cs.toArray T)) (boxT n T cs :: L) := by rw [hn]; exact H.boxed T cs
/-! ### deques -/
theorem two_below {w w' : World} {t T B : Nat} {a b : Value} (h : w.heap[t]? = some (.cells #[a, b] T (0, 0))) (hb : Below B w w') (hB : t < B) : w'.heap[t]? = some (.cells #[a, b] T (0, 0)) := (hb.block t hB).trans h
theorem heap_new (w : World) (o : Go.Obj) : (w.alloc o).heap[w.heap.size]? = some o := by
  show (w.heap.push o)[w.heap.size]? = some o
  simp
theorem heap_at (w : World) (o : Go.Obj) {n : Nat} (h : n = w.heap.size) : (w.alloc o).heap[n]? = some o := by rw [h]; exact heap_new w o
theorem heap_old {w : World} {t : Nat} {c : Go.Obj} (h : w.heap[t]? = some c) (o : Go.Obj) : (w.alloc o).heap[t]? = some c := by
  rw [Below.heap_alloc _ _ _ (lt_of_block h), h]

theorem szD_T {W w : World} {L : List Thing} (H : Things W w L) {v : Value} {xs : List Int} {m left : Int} (h : Nums W v xs) (h0 : 0 ≤ left) (hu : left ≤ 1048576) :
    Calls Try.prog 42 #[.agg #[v, .int .i64 m], .int .i64 left] w fun e w' => ∃ r : Int, e = .returned (.int .i64 r) ∧ r ≤ 1048576 ∧ (¬ r < 0 → xs.length ≤ 1048576) ∧ Things W w' L := by
  have h' := H.argN h
  go_enter Try.func42, Try.ntmps42
  have HB0 : Hid (Below w.heap.size w (w.alloc (.cells #[v, .int .i64 m] 44))) := (Below.refl _ _).alloc (Nat.le_refl _) _
  go_wp2_with fail
  refine (szIntS_any v xs left _ (h'.mono HB0.out (Nat.le_refl _)) h0 hu).mono ?_
  rintro e w1 ⟨r, rfl, h1, h2, hb⟩
  have H2 := H.quiet (HB0.out.trans (hb.mono (by simp)))
  have HL := Lib.hid h2
  clear h2
  by_cases hr : r < 0
  · go_wp2
    go_ret
    exact ⟨-1, rfl, by omega, fun h => by omega, H2⟩
  · go_wp2
    go_ret
    exact ⟨r, rfl, by omega, fun h => by have := HL.out (by omega); omega, H2⟩

set_option maxHeartbeats 800000 in
set_option maxRecDepth 100000 in
theorem toD_T {W w : World} {L : List Thing} (H : Things W w L) {v : Value} {xs : List Int} {m : Int} (h : Nums W v xs) (hn : xs.length ≤ 1048576) :
    Calls Try.prog 44 #[.agg #[v, .int .i64 m]] w fun e w' => ∃ v', e = .returned (.agg #[v', .int .i64 m]) ∧ Things W w' (numT w.heap.size w'.heap.size v' xs :: L) := by
  have h' := H.argN h
  go_enter Try.func44, Try.ntmps44
  go_wp2_with fail
  have HB0 : Hid (Below w.heap.size w (((w.alloc (.cells #[v, .int .i64 m] 44)).alloc (.cells #[.slice none 0 0, .int .i64 0] 47)).alloc (.cells #[.slice none 0 0, .int .i64 0] 47))) := (((Below.refl _ _).alloc (Nat.le_refl _) _).alloc (by simp) _).alloc (by simp <;> omega) _
  have G0 := heap_old (heap_old (heap_new w (.cells #[v, .int .i64 m] 44)) (.cells #[.slice none 0 0, .int .i64 0] 47)) (.cells #[.slice none 0 0, .int .i64 0] 47)
  have G1 := heap_old (heap_at (n := w.heap.size + 1) (w.alloc (.cells #[v, .int .i64 m] 44)) (.cells #[.slice none 0 0, .int .i64 0] 47) (by simp)) (.cells #[.slice none 0 0, .int .i64 0] 47)
  have G2 := heap_at (n := w.heap.size + 1 + 1) ((w.alloc (.cells #[v, .int .i64 m] 44)).alloc (.cells #[.slice none 0 0, .int .i64 0] 47)) (.cells #[.slice none 0 0, .int .i64 0] 47) (by simp)
  refine (toIntS_any v xs _ (h'.mono HB0.out (Nat.le_refl _)) hn).mono ?_
  rintro e w1 ⟨v', rfl, ho, hb⟩
  obtain ⟨xo, xcap, rfl, _, _⟩ := ho.nums.slice
  have hs := hb.size
  have g0 := two_below G0 hb (by simp <;> omega)
  have g1 := two_below G1 hb (by simp <;> omega)
  have g2 := two_below G2 hb (by simp <;> omega)
  clear G0 G1 G2
  have a1 := two_cell1 g0
  have c0 := two_cell0 g1
  have c1 := two_cell1 g1
  have d0 := two_cell0 g2
  have d1 := two_cell1 g2
  have f0 := two_free g1
  have e0 := two_free g2
  simp at ho hb hs
  have HO := Lib.hid ho
  have HBB := Lib.hid hb
  clear g0 g1 g2 hb ho
  go_wp2
  exact bodyPost_ret (v := .agg #[.slice xo xs.length xcap, .int .i64 m]) (by simp [results, Try.results44, go_sem, c0, c1]) rfl ⟨_, rfl, by
    have h2 := HO.out.keeps (w' := (((w1.setCell ⟨w.heap.size + 1 + 1, 0, none⟩ (.slice xo xs.length xcap)).setCell ⟨w.heap.size + 1 + 1, 1, none⟩ (.int .i64 m)).setCell ⟨w.heap.size + 1, 0, none⟩ (.slice xo xs.length xcap)).setCell ⟨w.heap.size + 1, 1, none⟩ (.int .i64 m))
      (((((Keeps.refl _ _).setCell (by simp [In]; omega) _).setCell (by simp [In]; omega) _).setCell (by simp [In]; omega) _).setCell (by simp [In]; omega) _)
    refine H.newN ?_ ?_
    · exact h2.wide (by omega) (by simp)
    · exact (((((HB0.out.trans (HBB.out.mono (by omega))).setCell (by simp <;> omega) _).setCell (by simp <;> omega) _).setCell (by simp) _).setCell (by simp) _)⟩

set_option maxHeartbeats 800000 in
set_option maxRecDepth 100000 in
theorem eqD_T {W w : World} {L : List Thing} (H : Things W w L) {v u : Value} {xs : List Int} {m : Int} (h : Nums w v xs) (h' : Nums w u xs) :
    Calls Try.prog 46 #[.agg #[v, .int .i64 m], .agg #[u, .int .i64 m]] w fun e w' => e = .returned (.bool true) ∧ Things W w' L := by
  go_enter Try.func46, Try.ntmps46
  have HB0 : Hid (Below w.heap.size w ((w.alloc (.cells #[v, .int .i64 m] 47)).alloc (.cells #[u, .int .i64 m] 47))) := ((Below.refl _ _).alloc (Nat.le_refl _) _).alloc (by simp) _
  have G0 := heap_old (heap_new w (.cells #[v, .int .i64 m] 47)) (.cells #[u, .int .i64 m] 47)
  have G1 := heap_at (n := w.heap.size + 1) (w.alloc (.cells #[v, .int .i64 m] 47)) (.cells #[u, .int .i64 m] 47) (by simp)
  go_wp2_with fail
  refine (eqIntS_any v u xs xs _ (h.mono HB0.out (Nat.le_refl _)) (h'.mono HB0.out (Nat.le_refl _))).mono ?_
  rintro e w1 ⟨rfl, hb⟩
  rw [decide_eq_true rfl]
  have g0 := two_cell1 (two_below G0 hb (by simp <;> omega))
  have g1 := two_cell1 (two_below G1 hb (by simp))
  have H2 := H.quiet (HB0.out.trans (hb.mono (by simp <;> omega)))
  clear G0 G1
  go_wp2
  go_ret
  exact ⟨rfl, H2⟩

set_option maxRecDepth 100000 in
theorem markD_T {W w : World} {L : List Thing} (H : Things W w L) (i k : Nat) {lo hi : Nat} {v : Value} {xs : List Int} {m : Int} (h : L[i]? = some (numT lo hi v xs)) (hk : 0 < k) (hk2 : k + xs.length ≤ 100000000) :
    Calls Try.prog 47 #[.agg #[v, .int .i64 m], .int .i64 k] w (MarkedN W L i (fun k => numT lo hi v (marksN k xs.length)) k xs.length) := by
  have H1 := H.quiet ((Below.refl _ _).alloc (Nat.le_refl _) (.cells #[v, .int .i64 m] 47))
  have hz : OwnN lo hi (w.alloc (.cells #[v, .int .i64 m] 47)) v xs := (H1.has i _ h).2.2
  go_enter Try.func47, Try.ntmps47
  go_wp2_with fail
  refine (markN_own hz hk hk2).mono ?_
  rintro e w1 ⟨rfl, ho, hkp⟩
  have H2 := H1.set i h (t' := numT lo hi v (marksN k xs.length)) rfl rfl ho hkp
  go_wp2
  go_ret
  exact ⟨_, rfl, by omega, rfl, H2⟩

set_option maxRecDepth 100000 in
theorem heldD_T {W w : World} {L : List Thing} (H : Things W w L) (i : Nat) {lo hi k n m : Nat} {q : Int} {v : Value} (h : L[i]? = some (numT lo hi v (marksN k n))) (hk : 0 < k) (hk2 : k + n ≤ 100000000) (hm : Hid (m = k + n)) :
    Calls Try.prog 90 #[.agg #[v, .int .i64 q], .int .i64 k] w fun e w' => e = .returned (.int .i64 (m : Int)) ∧ Things W w' L := by
  have H1 := H.quiet ((Below.refl _ _).alloc (Nat.le_refl _) (.cells #[v, .int .i64 q] 47))
  go_enter Try.func90, Try.ntmps90
  go_wp2_with fail
  refine (heldIntS_any v n k _ (H1.nums i h) hk hk2).mono ?_
  rintro e w1 ⟨rfl, hb⟩
  have H2 := H1.quiet hb
  go_wp2
  go_ret
  exact ⟨ret_int (by have := hm.out; omega), H2⟩

/-! ### what an operation returns -/
def NewN (f : Value → Value) (xs : List Int) (w : World) (e : Ending) (w' : World) : Prop :=
  ∃ v, e = .returned (f v) ∧ OwnN w.heap.size w'.heap.size w' v xs ∧ Below w.heap.size w w'
end Go.Proofs.Ytigiliakcmpekaa
