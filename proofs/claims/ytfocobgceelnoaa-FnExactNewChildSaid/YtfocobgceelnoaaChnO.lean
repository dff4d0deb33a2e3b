/-
  The statements' own helpers over chains.
-/
import Derived.Test.YtfocobgceelnoaaChn
import Derived.Test.YtfocobgceelnoaaBox
namespace Go.Proofs.Ytfocobgceelnoaa
open Go.RowKit

/-- A block of one cell. -/
def One (w : World) (b T : Nat) (u : Value) : Prop := w.heap[b]? = some (.cells #[u] T (0, 0))
theorem One.cell {w : World} {b T : Nat} {u : Value} (h : One w b T u) : w.cell? ⟨b, 0, none⟩ = some u := by
  unfold One at h
  simp [World.cell?, h]
theorem One.free {w : World} {b T : Nat} {u : Value} (h : One w b T u) : w.frozen? ⟨b, 0, none⟩ = false := by
  unfold One at h
  simp [World.frozen?, h]
theorem One.lt {w : World} {b T : Nat} {u : Value} (h : One w b T u) : b < w.heap.size := by
  unfold One at h
  exact (Array.getElem?_eq_some_iff.1 h).1
theorem One.below {w w' : World} {b T B : Nat} {u : Value} (h : One w b T u) (hb : Below B w w') (hB : b < B) : One w' b T u := by
  unfold One at h ⊢
  rw [hb.block b hB, h]
theorem One.keeps {K : Nat → Prop} {w w' : World} {b T : Nat} {u : Value} (h : One w b T u) (hk : Keeps K w w') (hB : K b) : One w' b T u := by
  unfold One at h ⊢
  rw [hk.block b hB, h]
theorem One.set {w : World} {b T : Nat} {u : Value} (h : One w b T u) (v : Value) : One (w.setCell ⟨b, 0, none⟩ v) b T v := by
  unfold One at h ⊢
  rw [heap_setCell_same w b 0 _ _ _ h]
  rfl
theorem One.new (w : World) (T : Nat) (u : Value) : One (w.alloc (.cells #[u] T)) w.heap.size T u := by
  unfold One
  rw [heap_alloc_new]
theorem Keeps.boxset {lo hi : Nat} {w w' : World} (h : Keeps (In lo hi) w w') {a : Addr} (ha : a.block < lo) (u : Value) : Keeps (In lo hi) w (w'.setCell a u) := h.setCell (fun hin => by have := hin.1; omega) u

set_option maxHeartbeats 800000 in
set_option maxRecDepth 100000 in
theorem toM_T {W w : World} {L : List Thing} (H : Things W w L) {v : Value} {ls : List (List Itm)} (hI : Maps W v ls) (hn : ls.length ≤ 1048576) (hm : tot ls ≤ 1048576) :
    Calls Try.prog 16 #[.agg #[v]] w fun e w' => ∃ v', e = .returned (.agg #[v']) ∧ Things W w' (ownMT w.heap.size w'.heap.size v' ls :: L) := by
  have hI' := H.argM hI
  go_enter Try.func16, Try.ntmps16
  go_wp2_with fail
  have HB0 : Hid (Below w.heap.size w (((w.alloc (.cells #[v] 24)).alloc (.cells #[.slice none 0 0] 30)).alloc (.cells #[.slice none 0 0] 30))) := (((Below.refl _ _).alloc (Nat.le_refl _) _).alloc (by simp) _).alloc (by simp <;> omega) _
  refine (toItemSS_any v ls _ (hI'.mono HB0.out (Nat.le_refl _)) hn hm).mono ?_
  rintro e w1 ⟨v', rfl, ho, hb⟩
  obtain ⟨xo, xcap, rfl, _, _⟩ := ho.slice
  have hs := hb.size
  simp at ho hb hs
  have F1 := (One.new (w.alloc (.cells #[v] 24)) 30 (.slice none 0 0)).below (B := w.heap.size + 2) ((Below.refl _ _).alloc (by simp) (.cells #[.slice none 0 0] 30)) (by simp)
  have F2 := One.new ((w.alloc (.cells #[v] 24)).alloc (.cells #[.slice none 0 0] 30)) 30 (.slice none 0 0)
  simp at F1 F2
  have G1 := F1.below hb (by omega)
  have G2 := F2.below hb (by omega)
  have c0 := G1.cell
  have d0 := G2.cell
  have f0 := G1.free
  have g0 := G2.free
  have HO := Lib.hid ho
  have HBB := Lib.hid hb
  clear F1 F2 G1 G2 hb ho
  go_wp2
  exact bodyPost_ret (v := .agg #[.slice xo ls.length xcap]) (by simp [results, Try.results16, go_sem, c0]) rfl ⟨_, rfl, by
    have h2 := HO.out.keeps (w' := (w1.setCell ⟨w.heap.size + 1 + 1, 0, none⟩ (.slice xo ls.length xcap)).setCell ⟨w.heap.size + 1, 0, none⟩ (.slice xo ls.length xcap)) (((Keeps.refl _ _).boxset (by simp) _).boxset (by simp) _)
    refine H.newM ?_ ?_
    · exact h2.wide (by omega) (by simp)
    · exact ((HB0.out.trans (HBB.out.mono (by omega))).setCell (by simp <;> omega) _).setCell (by simp) _⟩

theorem szM_T {W w : World} {L : List Thing} (H : Things W w L) {v : Value} {ls : List (List Itm)} {left : Int} (hI : Maps W v ls) (h0 : 0 ≤ left) (hu : left ≤ 1048576) :
    Calls Try.prog 13 #[.agg #[v], .int .i64 left] w fun e w' => ∃ r : Int, e = .returned (.int .i64 r) ∧ r ≤ 1048576 ∧ (¬ r < 0 → ls.length ≤ 1048576 ∧ tot ls ≤ 1048576) ∧ Things W w' L := by
  have hI' := H.argM hI
  go_enter Try.func13, Try.ntmps13
  have HB0 : Hid (Below w.heap.size w (w.alloc (.cells #[v] 24))) := (Below.refl _ _).alloc (Nat.le_refl _) _
  go_wp2_with fail
  refine (szItemSS_any v ls left _ (hI'.mono HB0.out (Nat.le_refl _)) h0 hu).mono ?_
  rintro e w1 ⟨r, rfl, h1, h2, h3, hb⟩
  have H2 := H.quiet (HB0.out.trans (hb.mono (by simp)))
  have HL := Lib.hid h3
  clear h3
  by_cases hr : r < 0
  · go_wp2
    go_ret
    exact ⟨-1, rfl, by omega, fun h => by omega, H2⟩
  · go_wp2
    go_ret
    exact ⟨r, rfl, by omega, fun h => by have := HL.out (by omega); omega, H2⟩

set_option maxHeartbeats 800000 in
set_option maxRecDepth 100000 in
theorem eqM_T {W w : World} {L : List Thing} (H : Things W w L) {v u : Value} {ls : List (List Itm)} (h : Maps w v ls) (h' : Maps w u ls) :
    Calls Try.prog 19 #[.agg #[v], .agg #[u]] w fun e w' => e = .returned (.bool true) ∧ Things W w' L := by
  go_enter Try.func19, Try.ntmps19
  have HB0 : Hid (Below w.heap.size w ((w.alloc (.cells #[v] 30)).alloc (.cells #[u] 30))) := ((Below.refl _ _).alloc (Nat.le_refl _) _).alloc (by simp) _
  have c0 := ((One.new w 30 v).below (B := w.heap.size + 1) ((Below.refl _ _).alloc (by simp) (.cells #[u] 30)) (by omega)).cell
  have c1 := (One.new (w.alloc (.cells #[v] 30)) 30 u).cell
  simp at c1
  go_wp2_with fail
  refine (eqItemSS_any v u ls ls _ (h.mono HB0.out (Nat.le_refl _)) (h'.mono HB0.out (Nat.le_refl _))).mono ?_
  rintro e w1 ⟨rfl, hb⟩
  rw [decide_eq_true rfl]
  have H2 := H.quiet (HB0.out.trans (hb.mono (by simp <;> omega)))
  go_wp2
  go_ret
  exact ⟨rfl, H2⟩

theorem own_markM {lo hi : Nat} {w : World} {v : Value} {ls : List (List Itm)} (h : OwnM lo hi w v ls) (k : Nat) (hk : 0 < k) (hk2 : k + 2 * tot ls ≤ 100000000) :
    Calls Try.prog 64 #[v, .int .i64 k] w fun e w' => e = .returned (.int .i64 ((k + 2 * tot ls : Nat) : Int)) ∧ OwnM lo hi w' v (marksM k (lens ls)) ∧ Keeps (fun j => j < w.heap.size ∧ ¬ In lo hi j) w w' := by
  obtain ⟨us, h1, h2⟩ := h
  rcases h1 with ⟨h1, h3⟩ | ⟨rfl, ao, c, rfl, hc⟩
  · refine (markItemSS_any lo hi v us ls k w (by rw [← h2.len]; exact h1) h2 hk hk2).mono ?_
    rintro e w' ⟨rfl, hz, ho, hkp⟩
    exact ⟨rfl, ⟨us, .inl ⟨ho _ _ h1, h3⟩, hz⟩, hkp⟩
  · have hls : ls = [] := List.eq_nil_of_length_eq_zero (by rw [← h2.len]; rfl)
    subst hls
    go_enter Try.func64, Try.ntmps64
    go_wp2
    refine wp_loop_rounds 1 ?_
    rw [rounds_succ]
    go_wp2
    go_ret
    exact ⟨rfl, ⟨[], .inr ⟨rfl, ao, c, rfl, hc⟩, RowsZ.nil _ _ _⟩, Keeps.refl _ _⟩

set_option maxRecDepth 100000 in
theorem markM_T {W w : World} {L : List Thing} (H : Things W w L) (i k : Nat) {lo hi : Nat} {v : Value} {ls : List (List Itm)} (h : L[i]? = some (ownMT lo hi v ls)) (hk : 0 < k) (hk2 : k + 2 * tot ls ≤ 100000000) :
    Calls Try.prog 21 #[.agg #[v], .int .i64 k] w (MarkedT' W L i (fun k => ownMT lo hi v (marksM k (lens ls))) k (2 * tot ls)) := by
  have H1 := H.quiet ((Below.refl _ _).alloc (Nat.le_refl _) (.cells #[v] 30))
  have hz := (H1.has i _ h).2.2
  have hz1 : OwnM lo hi (w.alloc (.cells #[v] 30)) v ls := hz
  clear hz
  go_enter Try.func21, Try.ntmps21
  go_wp2_with fail
  refine (own_markM hz1 k hk hk2).mono ?_
  rintro e w1 ⟨rfl, ho, hkp⟩
  have H2 := H1.set i h (t' := ownMT lo hi v (marksM k (lens ls))) rfl rfl ho hkp
  go_wp2
  go_ret
  exact ⟨_, rfl, by omega, rfl, H2⟩

set_option maxRecDepth 100000 in
theorem heldM_T {W w : World} {L : List Thing} (H : Things W w L) (i : Nat) {lo hi k m : Nat} {ls : List (List Itm)} {v : Value} (h : L[i]? = some (ownMT lo hi v (marksM k (lens ls)))) (hk : 0 < k) (hk2 : k + 2 * tot ls ≤ 100000000) (hm : Hid (m = k + 2 * tot ls)) :
    Calls Try.prog 23 #[.agg #[v], .int .i64 k] w fun e w' => e = .returned (.int .i64 (m : Int)) ∧ Things W w' L := by
  have H1 := H.quiet ((Below.refl _ _).alloc (Nat.le_refl _) (.cells #[v] 30))
  go_enter Try.func23, Try.ntmps23
  go_wp2_with fail
  refine (heldItemSS_any v (lens ls) k _ (H1.mapsO i h) hk (by rw [sum_lens]; exact hk2)).mono ?_
  rintro e w1 ⟨rfl, hb⟩
  rw [sum_lens]
  have H2 := H1.quiet hb
  go_wp2
  go_ret
  exact ⟨ret_int (by have := hm.out; omega), H2⟩

/-! ### what an operation returns -/
def NewM (f : Value → Value) (ls : List (List Itm)) (w : World) (e : Ending) (w' : World) : Prop :=
  ∃ v, e = .returned (f v) ∧ OwnM w.heap.size w'.heap.size w' v ls ∧ Below w.heap.size w w'
def NewMR (f : Value → Value) (ls : List (List Itm)) (w : World) (e : Ending) (w' : World) : Prop :=
  ∃ v, e = .returned (f v) ∧ MapsK (In w.heap.size w'.heap.size) w' v ls ∧ Below w.heap.size w w'
theorem NewM.weak {f : Value → Value} {ls : List (List Itm)} {w w' : World} {e : Ending} (h : NewM f ls w e w') : NewMR f ls w e w' := by
  obtain ⟨v, rfl, ho, hb⟩ := h
  exact ⟨v, rfl, ho.mapsK, hb⟩
end Go.Proofs.Ytfocobgceelnoaa
