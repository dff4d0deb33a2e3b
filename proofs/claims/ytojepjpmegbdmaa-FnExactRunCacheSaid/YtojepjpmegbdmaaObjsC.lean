/-
  The statements' own helpers over caches.
-/
import Derived.Test.YtojepjpmegbdmaaBox
namespace Go.Proofs.Ytojepjpmegbdmaa
open Go.RowKit

set_option maxHeartbeats 800000 in
set_option maxRecDepth 100000 in
theorem toC_obj {W w : World} {L : List Obj} (H : Objs W w L) {v : Value} {xs : List Itm} {m h s : Int} (hI : Items W v xs) (hn : xs.length ≤ 1048576) :
    Calls Try.prog 74 #[.agg #[v, .int .i64 m, .int .i64 h, .int .i64 s]] w fun e w' => ∃ v', e = .returned (.agg #[v', .int .i64 m, .int .i64 h, .int .i64 s]) ∧ Objs W w' (itemsO v' xs :: L) := by
  have hI' := H.arg hI
  go_enter Try.func74, Try.ntmps74
  go_wp2_with fail
  have HB0 : Hid (Below w.heap.size w (((w.alloc (.cells #[v, .int .i64 m, .int .i64 h, .int .i64 s] 64)).alloc (.cells #[.slice none 0 0, .int .i64 0, .int .i64 0, .int .i64 0] 67)).alloc (.cells #[.slice none 0 0, .int .i64 0, .int .i64 0, .int .i64 0] 67))) := (((Below.refl _ _).alloc (Nat.le_refl _) _).alloc (by simp) _).alloc (by simp <;> omega) _
  refine (toItemS_any v xs _ (hI'.mono HB0.out (Nat.le_refl _)) hn).mono ?_
  rintro e w1 ⟨v', rfl, ho, hb⟩
  obtain ⟨xo, xcap, rfl, _, _⟩ := own_slice ho.1
  have hs := hb.size
  simp at ho hb hs
  have F0 := (Four.new w 64 v (.int .i64 m) (.int .i64 h) (.int .i64 s)).below (B := w.heap.size + 1) (((Below.refl _ _).alloc (by simp) (.cells #[.slice none 0 0, .int .i64 0, .int .i64 0, .int .i64 0] 67)).alloc (by simp <;> omega) (.cells #[.slice none 0 0, .int .i64 0, .int .i64 0, .int .i64 0] 67)) (by omega)
  have F1 := (Four.new (w.alloc (.cells #[v, .int .i64 m, .int .i64 h, .int .i64 s] 64)) 67 (.slice none 0 0) (.int .i64 0) (.int .i64 0) (.int .i64 0)).below (B := w.heap.size + 2) ((Below.refl _ _).alloc (by simp) (.cells #[.slice none 0 0, .int .i64 0, .int .i64 0, .int .i64 0] 67)) (by simp)
  have F2 := Four.new ((w.alloc (.cells #[v, .int .i64 m, .int .i64 h, .int .i64 s] 64)).alloc (.cells #[.slice none 0 0, .int .i64 0, .int .i64 0, .int .i64 0] 67)) 67 (.slice none 0 0) (.int .i64 0) (.int .i64 0) (.int .i64 0)
  simp at F1 F2
  have G0 := F0.below hb (by omega)
  have G1 := F1.below hb (by omega)
  have G2 := F2.below hb (by omega)
  obtain ⟨a0, a1, a2, a3⟩ := G0.cells
  obtain ⟨c0, c1, c2, c3⟩ := G1.cells
  obtain ⟨d0, d1, d2, d3⟩ := G2.cells
  obtain ⟨f0, f1, f2, f3⟩ := G1.free
  obtain ⟨g0, g1, g2, g3⟩ := G2.free
  have HO := Lib.hid ho
  have HBB := Lib.hid hb
  clear F0 F1 F2 G0 G1 G2 hb ho
  go_wp2
  exact bodyPost_ret (v := .agg #[.slice xo xs.length xcap, .int .i64 m, .int .i64 h, .int .i64 s]) (by simp [results, Try.results74, go_sem, c0, c1, c2, c3]) rfl ⟨_, rfl, by
    refine H.newI ((HO.out.past ?_).base (by omega)) (?_)
    · iterate 8 refine Keeps.past ?_ (by simp <;> omega) _
      exact Keeps.refl _ _
    · iterate 8 refine Below.setCell ?_ (by simp <;> omega) _
      exact HB0.out.trans (HBB.out.mono (by omega))⟩

def SzC (W : World) (L : List Obj) (xs : List Itm) (e : Ending) (w' : World) : Prop := ∃ r : Int, e = .returned (.int .i64 r) ∧ r ≤ 1048576 ∧ (¬ r < 0 → xs.length ≤ 1048576 ∧ ∀ x ∈ xs, x.1.size ≤ 1048576) ∧ Objs W w' L
theorem szC_obj {W w : World} {L : List Obj} (H : Objs W w L) {v : Value} {xs : List Itm} {left m h s : Int} (hI : Items W v xs) (h0 : 0 ≤ left) (hu : left ≤ 1048576) :
    Calls Try.prog 72 #[.agg #[v, .int .i64 m, .int .i64 h, .int .i64 s], .int .i64 left] w (SzC W L xs) := by
  have H1 := H.quiet ((Below.refl _ _).alloc (Nat.le_refl _) (.cells #[v, .int .i64 m, .int .i64 h, .int .i64 s] 64))
  go_enter Try.func72, Try.ntmps72
  go_wp2_with fail
  refine (sz_obj H1 hI h0 hu).mono ?_
  rintro e w1 ⟨r, rfl, hu', hl, H2⟩
  have HL := Lib.hid hl
  clear hl
  by_cases hr : r < 0
  · go_wp2
    go_ret
    exact ⟨-1, rfl, by omega, fun h => absurd (show (-1 : Int) < 0 by omega) h, H2⟩
  · go_wp2
    go_ret
    exact ⟨r, rfl, hu', fun h => HL.out (by omega), H2⟩

set_option maxHeartbeats 800000 in
set_option maxRecDepth 100000 in
/-- The second one's row may be a part of a row of its own. -/
theorem eqC_obj {W w : World} {L : List Obj} (H : Objs W w L) (i j : Nat) {v u U : Value} {xs ys : List Itm} {m h s : Int} (hi : L[i]? = some (itemsO v xs)) (hj : L[j]? = some (itemsO U ys)) (hu : Hid (∀ w, Items w U ys → Items w u xs)) :
    Calls Try.prog 76 #[.agg #[v, .int .i64 m, .int .i64 h, .int .i64 s], .agg #[u, .int .i64 m, .int .i64 h, .int .i64 s]] w fun e w' => e = .returned (.bool true) ∧ Objs W w' L := by
  have H1 := (H.boxed 67 [v, .int .i64 m, .int .i64 h, .int .i64 s]).boxed 67 [u, .int .i64 m, .int .i64 h, .int .i64 s]
  have h1 := Lib.hid (H1.items (i + 2) hi)
  have h2 := Lib.hid (hu.out _ (H1.items (j + 2) hj))
  obtain ⟨b0, b1, b2, b3⟩ := H1.box4 0 rfl
  obtain ⟨a0, a1, a2, a3⟩ := H1.box4 1 rfl
  go_enter Try.func76, Try.ntmps76
  go_wp2_with fail
  refine (eqItemS_any v u xs xs _ h1.out h2.out).mono ?_
  rintro e w' ⟨rfl, hb⟩
  have H2 := H1.quiet hb
  rw [decide_eq_true rfl]
  clear b0 b1 b2 b3 a0 a1 a2 a3 h1 h2
  obtain ⟨b0, b1, b2, b3⟩ := H2.box4 0 rfl
  obtain ⟨a0, a1, a2, a3⟩ := H2.box4 1 rfl
  simp at b0 b1 b2 b3 a0 a1 a2 a3
  go_wp2
  go_ret
  exact ⟨rfl, H.quiet ((((Below.refl _ _).alloc (Nat.le_refl _) _).alloc (by simp) _).trans (hb.mono (by simp <;> omega)))⟩

set_option maxRecDepth 100000 in
theorem markC_obj {W w : World} {L : List Obj} (H : Objs W w L) (i k : Nat) {v : Value} {xs : List Itm} {m h s : Int} (hi : L[i]? = some (itemsO v xs)) (hk : 0 < k) (hk2 : k + 2 * xs.length ≤ 100000000) :
    Calls Try.prog 77 #[.agg #[v, .int .i64 m, .int .i64 h, .int .i64 s], .int .i64 k] w (MarkedO W L i v k xs.length) := by
  have H1 := H.quiet ((Below.refl _ _).alloc (Nat.le_refl _) (.cells #[v, .int .i64 m, .int .i64 h, .int .i64 s] 67))
  go_enter Try.func77, Try.ntmps77
  go_wp2_with fail
  refine (mark_obj H1 i k hi hk hk2).mono ?_
  rintro e w1 ⟨q, rfl, hq, hm, H2⟩
  go_wp2
  go_ret
  exact ⟨q, rfl, by omega, hm, H2⟩

set_option maxRecDepth 100000 in
theorem heldC_obj {W w : World} {L : List Obj} (H : Objs W w L) (i : Nat) {k n q : Nat} {v : Value} {m h s : Int} (hi : L[i]? = some (itemsO v (marksI k n))) (hk : 0 < k) (hk2 : k + 2 * n ≤ 100000000) (hm : Hid (q = k + 2 * n)) :
    Calls Try.prog 78 #[.agg #[v, .int .i64 m, .int .i64 h, .int .i64 s], .int .i64 k] w fun e w' => e = .returned (.int .i64 (q : Int)) ∧ Objs W w' L := by
  have H1 := H.quiet ((Below.refl _ _).alloc (Nat.le_refl _) (.cells #[v, .int .i64 m, .int .i64 h, .int .i64 s] 67))
  go_enter Try.func78, Try.ntmps78
  go_wp2_with fail
  refine (held_obj H1 i hi hk hk2 hm).mono ?_
  rintro e w1 ⟨rfl, H2⟩
  go_wp2
  go_ret
  exact ⟨rfl, H2⟩
end Go.Proofs.Ytojepjpmegbdmaa
