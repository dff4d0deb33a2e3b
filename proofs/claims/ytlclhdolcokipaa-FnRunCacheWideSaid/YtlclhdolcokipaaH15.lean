/-
  RdC, LwC, LwC2.
-/
import Derived.Deep.RegionHeld3
import Derived.Deep.RegionLaw
import Derived.Test.YtlclhdolcokipaaH7
import Derived.Test.YtlclhdolcokipaaH11
import Derived.Test.YtlclhdolcokipaaH14
import Derived.Test.YtlclhdolcokipaaH16
/-
  Caches drawn from a reader.
-/
namespace Go.Proofs.Ytlclhdolcokipaa
open Go.RowKit
open Go.ChangeShapes Go.WideShapes Go.ChangeAt Go.Deep

theorem Four.far {w : World} {b T : Nat} {u0 u1 u2 u3 : Value} (h : Four w b T u0 u1 u2 u3) {a : Addr} (ha : a.block ≠ b) (v : Value) : Four (w.setCell a v) b T u0 u1 u2 u3 :=
  h.keeps (K := fun j => j ≠ a.block) ((Keeps.refl _ _).setCell (fun h => h rfl) v) ha.symm
theorem Four.put {w : World} {b T : Nat} {u0 u1 u2 u3 : Value} (h : Four w b T u0 u1 u2 u3) (j : Nat) (v : Value) : (w.setCell ⟨b, j, none⟩ v).heap[b]? = some (.cells (#[u0, u1, u2, u3].setIfInBounds j v) T (0, 0)) := heap_setCell_same w b j _ _ v h
theorem Four.putV {w : World} {b T : Nat} {u0 u1 u2 u3 : Value} (h : Four w b T u0 u1 u2 u3) (v : Value) : Four (w.setCell ⟨b, 0, none⟩ v) b T v u1 u2 u3 := h.put 0 v
theorem Four.putM {w : World} {b T : Nat} {u0 u1 u2 u3 : Value} (h : Four w b T u0 u1 u2 u3) (v : Value) : Four (w.setCell ⟨b, 1, none⟩ v) b T u0 v u2 u3 := h.put 1 v
theorem Four.putG {w : World} {b T : Nat} {u0 u1 u2 u3 : Value} (h : Four w b T u0 u1 u2 u3) (v : Value) : Four (w.setCell ⟨b, 2, none⟩ v) b T u0 u1 v u3 := h.put 2 v
theorem Four.putS {w : World} {b T : Nat} {u0 u1 u2 u3 : Value} (h : Four w b T u0 u1 u2 u3) (v : Value) : Four (w.setCell ⟨b, 3, none⟩ v) b T u0 u1 u2 v := h.put 3 v
/-- What is known while a cache is drawn: its box d, the result's box (the first block made), the reader. -/
structure CQ (w : World) (r P d : Nat) (v : Value) (xs : List Itm) (m g s : Int) (W : World) : Prop where
  res : Four W w.heap.size 25 (.slice none 0 0) (.int .i64 0) (.int .i64 0) (.int .i64 0)
  box : Four W d 25 v (.int .i64 m) (.int .i64 g) (.int .i64 s)
  lt : w.heap.size < d
  its : Items W v xs
  ink : InK (fun k => w.heap.size < k ∧ k < W.heap.size ∧ k ≠ d) v
  rd : Reader W r P
  keep : Keeps (RK r w) w W
  rlt : r < w.heap.size
section
variable {w W : World} {r P d : Nat} {v : Value} {xs : List Itm} {m g s : Int}
theorem CQ.draw (D : CQ w r P d v xs m g s W) {W' : World} {P' : Nat} (hr : Reader W' r P') (hk : Keeps (RK r W) W W') : CQ w r P' d v xs m g s W' := by
  have := D.box.lt
  have := D.lt
  have := D.rlt
  have hs := hk.size
  exact ⟨D.res.keeps hk ⟨by omega, by omega⟩, D.box.keeps hk ⟨by omega, by omega⟩, D.lt, D.its.keeps hk (D.ink.mono fun k hk => ⟨hk.2.1, by omega⟩), D.ink.mono fun k hk => ⟨hk.1, by omega, hk.2.2⟩, hr, RK.trans D.keep hk, D.rlt⟩
theorem CQ.below (D : CQ w r P d v xs m g s W) {W' : World} (hb : Below W.heap.size W W') : CQ w r P d v xs m g s W' := D.draw (D.rd.below hb) (RK.of_below hb)
theorem CQ.mono (D : CQ w r P d v xs m g s W) {P' : Nat} (h : P ≤ P') : CQ w r P' d v xs m g s W := ⟨D.res, D.box, D.lt, D.its, D.ink, D.rd.mono h, D.keep, D.rlt⟩
theorem CQ.facts (D : CQ w r P d v xs m g s W) (j : Nat) (u : Value) : w.heap.size ≠ d ∧ d ≠ w.heap.size ∧ Items (W.setCell ⟨d, j, none⟩ u) v xs ∧ InK (fun k => w.heap.size < k ∧ k < (W.setCell ⟨d, j, none⟩ u).heap.size ∧ k ≠ d) v ∧ Reader (W.setCell ⟨d, j, none⟩ u) r P ∧ Keeps (RK r w) w (W.setCell ⟨d, j, none⟩ u) := by
  have := D.lt
  have := D.rlt
  exact ⟨by omega, by omega, D.its.keeps (K := fun k => k ≠ d) ((Keeps.refl _ _).setCell (fun h => h rfl) _) (D.ink.mono fun k hk => hk.2.2), D.ink.mono fun k hk => ⟨hk.1, by simpa using hk.2.1, hk.2.2⟩, D.rd.set (by show r < d; omega) _, RK.set D.keep (by show _ ≤ d; omega) _⟩
theorem CQ.setM (D : CQ w r P d v xs m g s W) (q : Int) : CQ w r P d v xs q g s (W.setCell ⟨d, 1, none⟩ (.int .i64 q)) :=
  have F := D.facts 1 (.int .i64 q)
  ⟨D.res.far F.2.1 _, D.box.putM _, D.lt, F.2.2.1, F.2.2.2.1, F.2.2.2.2.1, F.2.2.2.2.2, D.rlt⟩
theorem CQ.setG (D : CQ w r P d v xs m g s W) (q : Int) : CQ w r P d v xs m q s (W.setCell ⟨d, 2, none⟩ (.int .i64 q)) :=
  have F := D.facts 2 (.int .i64 q)
  ⟨D.res.far F.2.1 _, D.box.putG _, D.lt, F.2.2.1, F.2.2.2.1, F.2.2.2.2.1, F.2.2.2.2.2, D.rlt⟩
theorem CQ.setS (D : CQ w r P d v xs m g s W) (q : Int) : CQ w r P d v xs m g q (W.setCell ⟨d, 3, none⟩ (.int .i64 q)) :=
  have F := D.facts 3 (.int .i64 q)
  ⟨D.res.far F.2.1 _, D.box.putS _, D.lt, F.2.2.1, F.2.2.2.1, F.2.2.2.2.1, F.2.2.2.2.2, D.rlt⟩
theorem CQ.setV (D : CQ w r P d v xs m g s W) {u : Value} {ys : List Itm} (h : Items W u ys) (hk : InK (fun k => w.heap.size < k ∧ k < W.heap.size ∧ k ≠ d) u) : CQ w r P d u ys m g s (W.setCell ⟨d, 0, none⟩ u) :=
  have F := D.facts 0 u
  ⟨D.res.far F.2.1 _, D.box.putV _, D.lt, h.keeps (K := fun k => k ≠ d) ((Keeps.refl _ _).setCell (fun h => h rfl) _) (hk.mono fun k hk => hk.2.2), hk.mono fun k hk => ⟨hk.1, by simpa using hk.2.1, hk.2.2⟩, F.2.2.2.2.1, F.2.2.2.2.2, D.rlt⟩
theorem OwnI.inK {E : Nat} {w : World} {B : Nat} {v : Value} {xs : List Itm} (h : OwnI E w B v xs) : InK (fun k => B ≤ k ∧ k < w.heap.size) v := by
  intro a n c e hn
  subst e
  rcases h.1.2 with ⟨e, _⟩ | ⟨g, cap, cur, e, hb, hg, _⟩
  · simp only [Value.slice.injEq] at e
    omega
  · simp only [Value.slice.injEq, Option.some.injEq] at e
    rw [e.1]
    exact ⟨hb, lt_of_block hg⟩
theorem InK.cut {K : Nat → Prop} {ao : Option Addr} {n c k c' : Nat} (h : InK K (.slice ao n c)) (hn : 0 < k → 0 < n) : InK K (.slice ao k c') := fun a n' c'' e hp => by
  simp only [Value.slice.injEq] at e
  obtain ⟨rfl, rfl, rfl⟩ := e
  exact h a n c rfl (hn hp)
end
theorem Items.shape0 {w : World} {v : Value} {xs : List Itm} (h : Items w v xs) : ∃ ao cap, v = .slice ao xs.length cap ∧ xs.length ≤ cap ∧ cap ≤ 9223372036854775807 := by
  obtain ⟨ao, cap, e, h1, h2, _⟩ := h
  exact ⟨ao, cap, e, h1, h2⟩
/-- A drawn cache. -/
def DrawC (r P : Nat) (w : World) (e : Ending) (w' : World) : Prop :=
  ∃ v xs m g s, e = .returned (.agg #[v, .int .i64 m, .int .i64 g, .int .i64 s]) ∧ (xs.length ≤ 9 ∧ (0 ≤ m ∧ m ≤ 9) ∧ (-1 ≤ g ∧ g ≤ 10000) ∧ -1 ≤ s ∧ s ≤ 10000) ∧ Items w' v xs ∧ InK (In w.heap.size w'.heap.size) v ∧ Reader w' r P ∧ Keeps (RK r w) w w'
/-- The result's cells written. -/
def set4c (w : World) (b : Nat) (a0 a1 a2 a3 : Value) : World := (((w.setCell ⟨b, 0, none⟩ a0).setCell ⟨b, 1, none⟩ a1).setCell ⟨b, 2, none⟩ a2).setCell ⟨b, 3, none⟩ a3
theorem CQ.fin {w W : World} {r P d : Nat} {v : Value} {xs : List Itm} {m g s : Int} (D : CQ w r P d v xs m g s W) (a0 a1 a2 a3 : Value) :
    Items (set4c W w.heap.size a0 a1 a2 a3) v xs ∧ InK (In w.heap.size (set4c W w.heap.size a0 a1 a2 a3).heap.size) v ∧ Reader (set4c W w.heap.size a0 a1 a2 a3) r P ∧ Keeps (RK r w) w (set4c W w.heap.size a0 a1 a2 a3) := by
  have hk : Keeps (fun k => k ≠ w.heap.size) W (set4c W w.heap.size a0 a1 a2 a3) := ((((Keeps.refl _ _).setCell (fun h => h rfl) _).setCell (fun h => h rfl) _).setCell (fun h => h rfl) _).setCell (fun h => h rfl) _
  exact ⟨D.its.keeps hk (D.ink.mono fun k h => by have := h.1; omega), D.ink.mono fun k h => ⟨by have := h.1; omega, by simpa [set4c] using h.2.1⟩, (((D.rd.set D.rlt _).set D.rlt _).set D.rlt _).set D.rlt _, RK.set (RK.set (RK.set (RK.set D.keep (Nat.le_refl _) _) (Nat.le_refl _) _) (Nat.le_refl _) _) (Nat.le_refl _) _⟩

set_option linter.unusedSimpArgs false in
set_option maxHeartbeats 3200000 in
set_option maxRecDepth 100000 in
theorem goodCache_any (r P : Nat) (w : World) (h : Reader w r P) (hP : P ≤ 1000000) :
    Calls Try.prog 107 #[.pointer (some ⟨r, 0, none⟩)] w (DrawC r (P + 20) w) := by
  have hrlt := h.lt
  have hb0 : Below w.heap.size w (w.alloc (.cells #[.slice none 0 0, .int .i64 0, .int .i64 0, .int .i64 0] 25)) := (Below.refl _ _).alloc (Nat.le_refl _) _
  have X0 := Lib.hid (Four.new w 25 (.slice none 0 0) (.int .i64 0) (.int .i64 0) (.int .i64 0))
  go_enter Try.func107, Try.ntmps107
  go_wp2_with fail
  refine (one_lit_at (w.heap.size + 1) r P [3, 2, 4, 1, 8] (w.alloc (.cells #[.slice none 0 0, .int .i64 0, .int .i64 0, .int .i64 0] 25)) (by simp) (h.below hb0) (by omega) (by decide) (by decide) rfl rfl).mono ?_
  rintro e w1 ⟨m, hm, rfl, hr1, hk1⟩
  have hm2 : 1 ≤ m ∧ m ≤ 8 := by simp at hm; omega
  obtain ⟨n, rfl⟩ := Int.eq_ofNat_of_zero_le (show 0 ≤ m by omega)
  clear hm
  go_wp2_with fail
  refine (pick_any r _ 5 w1 hr1 (by omega) (by omega) (by omega)).mono ?_
  rintro e w2 ⟨g, rfl, hg, hr2, hk2⟩
  go_wp2_with fail
  refine (pick_any r _ 5 w2 hr2 (by omega) (by omega) (by omega)).mono ?_
  rintro e w3 ⟨s, rfl, hs, hr3, hk3⟩
  have hk13 := RK.trans (RK.trans hk1 hk2) hk3
  have hs3 := hk13.size
  simp at hs3
  have hbx : Below w3.heap.size w3 (w3.alloc (.cells #[.slice none 0 0, .int .i64 n, .int .i64 g, .int .i64 s] 25)) := (Below.refl _ _).alloc (Nat.le_refl _) _
  have D1 : CQ w r (P + 1 + 1 + 1) w3.heap.size (.slice none 0 0) [] n g s (w3.alloc (.cells #[.slice none 0 0, .int .i64 n, .int .i64 g, .int .i64 s] 25)) :=
    ⟨(X0.out.keeps hk13 ⟨by simp, by omega⟩).below hbx (by omega), Four.new _ _ _ _ _ _, by omega, Items_none (by omega), InK.nil _, hr3.below hbx, RK.trans (RK.trans (RK.of_below hb0) hk13) (RK.of_below hbx), hrlt⟩
  have hne : ¬ w.heap.size = w3.heap.size := by omega
  have hne' : ¬ w3.heap.size = w.heap.size := by omega
  clear hk1 hk2 hk3 hk13 hr1 hr2 hr3 hbx hb0 X0 h
  go_wp2_with fail
  refine (goodItems_any r _ _ D1.rd (by omega)).mono ?_
  rintro e w4 ⟨v, xs, rfl, hl, hown, hr4, hk4⟩
  have D2 := D1.draw hr4 hk4
  have hik : InK (fun k => w.heap.size < k ∧ k < w4.heap.size ∧ k ≠ w3.heap.size) v := hown.inK.mono fun k hk => by
    have h1 := hk.1
    have h2 := hk.2
    simp at h1
    exact ⟨by omega, h2, by omega⟩
  have D3 := D2.setV hown.items hik
  obtain ⟨xo, xcap, rfl, hxc, _⟩ := own_slice hown.1
  have hxi := hown.items
  clear D1 hr4 hk4
  obtain ⟨c0, c1, c2, c3⟩ := D2.box.cells
  obtain ⟨f0, f1, f2, f3⟩ := D2.box.free
  by_cases hlt : n < xs.length
  · have hltI : (n : Int) < (xs.length : Int) := by omega
    have hn0 : (0 : Int) ≤ (n : Int) := by omega
    have hnc : (n : Int) ≤ (xcap : Int) := by omega
    have hlt' : (xs.take n).length = n := by rw [List.length_take]; omega
    have D4 := D3.setV (D3.its.take (k := n) (by omega)) (InK.cut D3.ink (fun _ => by omega))
    clear D3 D2
    have s0 := D4.res.cells
    have t0 := D4.res.free
    have u0 := D4.box.cells
    have HF := Lib.hid (D4.fin (.slice xo n xcap) (.int .i64 n) (.int .i64 g) (.int .i64 s))
    clear D4
    obtain ⟨s0, s1, s2, s3⟩ := s0
    obtain ⟨t0, t1, t2, t3⟩ := t0
    obtain ⟨u0, u1, u2, u3⟩ := u0
    go_wp2
    exact bodyPost_ret (v := .agg #[.slice xo n xcap, .int .i64 n, .int .i64 g, .int .i64 s]) (by simp [results, Try.results107, go_sem, s0, s1, s2, s3, hne, hne']) rfl ⟨_, _, _, _, _, rfl, ⟨by rw [hlt']; omega, by omega, by omega, by omega, by omega⟩, HF.out.1, HF.out.2.1, HF.out.2.2.1.mono (by omega), HF.out.2.2.2⟩
  · have hltI : ¬ (n : Int) < (xs.length : Int) := by omega
    clear D2
    have s0 := D3.res.cells
    have t0 := D3.res.free
    have u0 := D3.box.cells
    have HF := Lib.hid (D3.fin (.slice xo xs.length xcap) (.int .i64 n) (.int .i64 g) (.int .i64 s))
    clear D3
    obtain ⟨s0, s1, s2, s3⟩ := s0
    obtain ⟨t0, t1, t2, t3⟩ := t0
    obtain ⟨u0, u1, u2, u3⟩ := u0
    go_wp2
    exact bodyPost_ret (v := .agg #[.slice xo xs.length xcap, .int .i64 n, .int .i64 g, .int .i64 s]) (by simp [results, Try.results107, go_sem, s0, s1, s2, s3, hne, hne']) rfl ⟨_, _, _, _, _, rfl, ⟨by omega, by omega, by omega, by omega, by omega⟩, HF.out.1, HF.out.2.1, HF.out.2.2.1.mono (by omega), HF.out.2.2.2⟩

set_option linter.unusedSimpArgs false in
set_option maxHeartbeats 3200000 in
set_option maxRecDepth 100000 in
theorem someCache_any (r P : Nat) (w : World) (h : Reader w r P) (hP : P ≤ 900000) :
    Calls Try.prog 57 #[.pointer (some ⟨r, 0, none⟩)] w (DrawC r (P + 42) w) := by
  have hrlt := h.lt
  have hb0 : Below w.heap.size w (w.alloc (.cells #[.slice none 0 0, .int .i64 0, .int .i64 0, .int .i64 0] 25)) := (Below.refl _ _).alloc (Nat.le_refl _) _
  have X0 := Lib.hid (Four.new w 25 (.slice none 0 0) (.int .i64 0) (.int .i64 0) (.int .i64 0))
  go_enter Try.func57, Try.ntmps57
  go_wp2_with fail
  refine (goodCache_any r P (w.alloc (.cells #[.slice none 0 0, .int .i64 0, .int .i64 0, .int .i64 0] 25)) (h.below hb0) (by omega)).mono ?_
  rintro e w1 ⟨v, xs, m, g, s, rfl, hbd, hit, hik, hr1, hk1⟩
  have hs1 := hk1.size
  simp at hs1
  obtain ⟨xo, xcap, rfl, hxc, _⟩ := Items.shape0 hit
  have hbx : Below w1.heap.size w1 (w1.alloc (.cells #[.slice xo xs.length xcap, .int .i64 m, .int .i64 g, .int .i64 s] 25)) := (Below.refl _ _).alloc (Nat.le_refl _) _
  have D1 : CQ w r (P + 20) w1.heap.size (.slice xo xs.length xcap) xs m g s (w1.alloc (.cells #[.slice xo xs.length xcap, .int .i64 m, .int .i64 g, .int .i64 s] 25)) :=
    ⟨(X0.out.keeps hk1 ⟨by simp, by omega⟩).below hbx (by omega), Four.new _ _ _ _ _ _, by omega, hit.mono hbx (Nat.le_refl _), hik.mono fun k hk => by
      have h1 := hk.1
      have h2 := hk.2
      simp at h1
      exact ⟨by omega, by simp; omega, by omega⟩, hr1.below hbx, RK.trans (RK.trans (RK.of_below hb0) hk1) (RK.of_below hbx), hrlt⟩
  have hne : ¬ w.heap.size = w1.heap.size := by omega
  have hne' : ¬ w1.heap.size = w.heap.size := by omega
  clear hk1 hr1 hbx hb0 X0 h hit hik
  go_wp2_with fail
  refine (pick_any r _ 24 _ D1.rd (by omega) (by omega) (by omega)).mono ?_
  rintro e w2 ⟨k, rfl, hk, hr2, hk2⟩
  have D2 := D1.draw hr2 hk2
  clear D1 hr2 hk2
  obtain ⟨c0, c1, c2, c3⟩ := D2.box.cells
  obtain ⟨f0, f1, f2, f3⟩ := D2.box.free
  by_cases h0 : k = 0
  · subst h0
    go_wp2_with fail
    refine (one_lit r _ [0, 9, 1] w2 D2.rd (by omega) (by decide) (by decide) rfl rfl).mono ?_
    rintro e w3 ⟨q, hq, rfl, hr3, hk3⟩
    have hq2 : 0 ≤ q ∧ q ≤ 9 := by simp at hq; omega
    have D3 := D2.draw hr3 hk3
    have D4 := D3.setM q
    clear hq D2 hr3 hk3 c0 c1 c2 c3 f0 f1 f2 f3
    obtain ⟨c0, c1, c2, c3⟩ := D3.box.cells
    obtain ⟨f0, f1, f2, f3⟩ := D3.box.free
    clear D3
    have s0 := D4.res.cells
    have t0 := D4.res.free
    have u0 := D4.box.cells
    have HF := Lib.hid (D4.fin (.slice xo xs.length xcap) (.int .i64 q) (.int .i64 g) (.int .i64 s))
    clear D4
    obtain ⟨s0, s1, s2, s3⟩ := s0
    obtain ⟨t0, t1, t2, t3⟩ := t0
    obtain ⟨u0, u1, u2, u3⟩ := u0
    go_wp2
    exact bodyPost_ret (v := .agg #[.slice xo xs.length xcap, .int .i64 q, .int .i64 g, .int .i64 s]) (by simp [results, Try.results57, go_sem, s0, s1, s2, s3, hne, hne']) rfl ⟨_, _, _, _, _, rfl, ⟨by omega, by omega, by omega, by omega, by omega⟩, HF.out.1, HF.out.2.1, HF.out.2.2.1.mono (by omega), HF.out.2.2.2⟩
  have hb0 : ((k : Int) == 0) = false := by rw [beq_eq_false_iff_ne]; omega
  by_cases h1 : k = 1
  · subst h1
    go_wp2_with fail
    refine (one_lit r _ [-1, 10000, 9999] w2 D2.rd (by omega) (by decide) (by decide) rfl rfl).mono ?_
    rintro e w3 ⟨q, hq, rfl, hr3, hk3⟩
    have hq2 : -1 ≤ q ∧ q ≤ 10000 := by simp at hq; omega
    have D3 := D2.draw hr3 hk3
    have D4 := D3.setG q
    clear hq D2 hr3 hk3 c0 c1 c2 c3 f0 f1 f2 f3
    obtain ⟨c0, c1, c2, c3⟩ := D3.box.cells
    obtain ⟨f0, f1, f2, f3⟩ := D3.box.free
    clear D3
    have s0 := D4.res.cells
    have t0 := D4.res.free
    have u0 := D4.box.cells
    have HF := Lib.hid (D4.fin (.slice xo xs.length xcap) (.int .i64 m) (.int .i64 q) (.int .i64 s))
    clear D4
    obtain ⟨s0, s1, s2, s3⟩ := s0
    obtain ⟨t0, t1, t2, t3⟩ := t0
    obtain ⟨u0, u1, u2, u3⟩ := u0
    go_wp2
    exact bodyPost_ret (v := .agg #[.slice xo xs.length xcap, .int .i64 m, .int .i64 q, .int .i64 s]) (by simp [results, Try.results57, go_sem, s0, s1, s2, s3, hne, hne']) rfl ⟨_, _, _, _, _, rfl, ⟨by omega, by omega, by omega, by omega, by omega⟩, HF.out.1, HF.out.2.1, HF.out.2.2.1.mono (by omega), HF.out.2.2.2⟩
  have hb1 : ((k : Int) == 1) = false := by rw [beq_eq_false_iff_ne]; omega
  by_cases h2 : k = 2
  · subst h2
    go_wp2_with fail
    refine (someItems_any r _ w2 D2.rd (by omega)).mono ?_
    rintro e w3 ⟨v3, ys, rfl, hl3, hown, hr3, hk3⟩
    have hlt2 := D2.box.lt
    have D3 := D2.draw hr3 hk3
    have hik : InK (fun k => w.heap.size < k ∧ k < w3.heap.size ∧ k ≠ w1.heap.size) v3 := hown.inK.mono fun k hk => by
      have h1 := hk.1
      have h2 := hk.2
      exact ⟨by omega, h2, by omega⟩
    have D4 := D3.setV hown.items hik
    obtain ⟨yo, ycap, rfl, hyc, _⟩ := own_slice hown.1
    clear D2 hr3 hk3 c0 c1 c2 c3 f0 f1 f2 f3
    obtain ⟨c0, c1, c2, c3⟩ := D3.box.cells
    obtain ⟨f0, f1, f2, f3⟩ := D3.box.free
    clear D3
    have s0 := D4.res.cells
    have t0 := D4.res.free
    have u0 := D4.box.cells
    have HF := Lib.hid (D4.fin (.slice yo ys.length ycap) (.int .i64 m) (.int .i64 g) (.int .i64 s))
    clear D4
    obtain ⟨s0, s1, s2, s3⟩ := s0
    obtain ⟨t0, t1, t2, t3⟩ := t0
    obtain ⟨u0, u1, u2, u3⟩ := u0
    go_wp2
    exact bodyPost_ret (v := .agg #[.slice yo ys.length ycap, .int .i64 m, .int .i64 g, .int .i64 s]) (by simp [results, Try.results57, go_sem, s0, s1, s2, s3, hne, hne']) rfl ⟨_, _, _, _, _, rfl, ⟨by omega, by omega, by omega, by omega, by omega⟩, HF.out.1, HF.out.2.1, HF.out.2.2.1.mono (by omega), HF.out.2.2.2⟩
  have hb2 : ((k : Int) == 2) = false := by rw [beq_eq_false_iff_ne]; omega
  by_cases h3 : k = 3
  · subst h3
    go_wp2_with fail
    refine (one_lit r _ [-1, 9999] w2 D2.rd (by omega) (by decide) (by decide) rfl rfl).mono ?_
    rintro e w3 ⟨q, hq, rfl, hr3, hk3⟩
    have hq2 : -1 ≤ q ∧ q ≤ 10000 := by simp at hq; omega
    have D3 := D2.draw hr3 hk3
    have D4 := D3.setS q
    clear hq D2 hr3 hk3 c0 c1 c2 c3 f0 f1 f2 f3
    obtain ⟨c0, c1, c2, c3⟩ := D3.box.cells
    obtain ⟨f0, f1, f2, f3⟩ := D3.box.free
    clear D3
    have s0 := D4.res.cells
    have t0 := D4.res.free
    have u0 := D4.box.cells
    have HF := Lib.hid (D4.fin (.slice xo xs.length xcap) (.int .i64 m) (.int .i64 g) (.int .i64 q))
    clear D4
    obtain ⟨s0, s1, s2, s3⟩ := s0
    obtain ⟨t0, t1, t2, t3⟩ := t0
    obtain ⟨u0, u1, u2, u3⟩ := u0
    go_wp2
    exact bodyPost_ret (v := .agg #[.slice xo xs.length xcap, .int .i64 m, .int .i64 g, .int .i64 q]) (by simp [results, Try.results57, go_sem, s0, s1, s2, s3, hne, hne']) rfl ⟨_, _, _, _, _, rfl, ⟨by omega, by omega, by omega, by omega, by omega⟩, HF.out.1, HF.out.2.1, HF.out.2.2.1.mono (by omega), HF.out.2.2.2⟩
  have hb3 : ((k : Int) == 3) = false := by rw [beq_eq_false_iff_ne]; omega
  clear c0 c1 c2 c3 f0 f1 f2 f3
  have s0 := D2.res.cells
  have t0 := D2.res.free
  have u0 := D2.box.cells
  have HF := Lib.hid (D2.fin (.slice xo xs.length xcap) (.int .i64 m) (.int .i64 g) (.int .i64 s))
  clear D2
  obtain ⟨s0, s1, s2, s3⟩ := s0
  obtain ⟨t0, t1, t2, t3⟩ := t0
  obtain ⟨u0, u1, u2, u3⟩ := u0
  go_wp2
  exact bodyPost_ret (v := .agg #[.slice xo xs.length xcap, .int .i64 m, .int .i64 g, .int .i64 s]) (by simp [results, Try.results57, go_sem, s0, s1, s2, s3, hne, hne']) rfl ⟨_, _, _, _, _, rfl, ⟨by omega, by omega, by omega, by omega, by omega⟩, HF.out.1, HF.out.2.1, HF.out.2.2.1.mono (by omega), HF.out.2.2.2⟩
end Go.Proofs.Ytlclhdolcokipaa
/-
  A cache and a key drawn; what drawn laws over caches draw; how caches compare.
-/
namespace Go.Proofs.Ytlclhdolcokipaa
open Go.RowKit
open Go.ChangeShapes Go.WideShapes Go.ChangeAt Go.Deep

/-- What a drawn cache may be. -/
def bdC (xs : List Itm) (m g s : Int) : Prop := xs.length ≤ 9 ∧ (0 ≤ m ∧ m ≤ 9) ∧ (-1 ≤ g ∧ g ≤ 10000) ∧ -1 ≤ s ∧ s ≤ 10000
/-- A cache and a text drawn. -/
def DrawCS (r P : Nat) (w : World) (e : Ending) (w' : World) : Prop :=
  ∃ v xs m g s t, e = .returned (.tuple #[.agg #[v, .int .i64 m, .int .i64 g, .int .i64 s], .string t]) ∧ bdC xs m g s ∧ t.size ≤ 9223372036854775807 ∧ Items w' v xs ∧ InK (In w.heap.size w'.heap.size) v ∧ Reader w' r P ∧ Keeps (RK r w) w w'

set_option linter.unusedSimpArgs false in
set_option maxHeartbeats 3200000 in
set_option maxRecDepth 100000 in
theorem cacheKey_any (r P : Nat) (w : World) (h : Reader w r P) (hP : P ≤ 800000) :
    Calls Try.prog 63 #[.pointer (some ⟨r, 0, none⟩)] w (DrawCS r (P + 48) w) := by
  have hrlt := h.lt
  have hb0 : Below w.heap.size w (w.alloc (.cells #[.slice none 0 0, .int .i64 0, .int .i64 0, .int .i64 0] 25)) := (Below.refl _ _).alloc (Nat.le_refl _) _
  have X0 := Lib.hid (Four.new w 25 (.slice none 0 0) (.int .i64 0) (.int .i64 0) (.int .i64 0))
  go_enter Try.func63, Try.ntmps63
  go_wp2_with fail
  refine (someCache_any r P (w.alloc (.cells #[.slice none 0 0, .int .i64 0, .int .i64 0, .int .i64 0] 25)) (h.below hb0) (by omega)).mono ?_
  rintro e w1 ⟨v, xs, m, g, s, rfl, hbd, hit, hik, hr1, hk1⟩
  have hs1 := hk1.size
  simp at hs1
  obtain ⟨xo, xcap, rfl, hxc, _⟩ := Items.shape0 hit
  have hbx : Below w1.heap.size w1 (w1.alloc (.cells #[.slice xo xs.length xcap, .int .i64 m, .int .i64 g, .int .i64 s] 25)) := (Below.refl _ _).alloc (Nat.le_refl _) _
  have D1 : CQ w r (P + 42) w1.heap.size (.slice xo xs.length xcap) xs m g s (w1.alloc (.cells #[.slice xo xs.length xcap, .int .i64 m, .int .i64 g, .int .i64 s] 25)) :=
    ⟨(X0.out.keeps hk1 ⟨by simp, by omega⟩).below hbx (by omega), Four.new _ _ _ _ _ _, by omega, hit.mono hbx (Nat.le_refl _), hik.mono fun k hk => by
      have h1 := hk.1
      have h2 := hk.2
      simp at h1
      exact ⟨by omega, by simp; omega, by omega⟩, hr1.below hbx, RK.trans (RK.trans (RK.of_below hb0) hk1) (RK.of_below hbx), hrlt⟩
  clear hk1 hr1 hbx hb0 X0 h hit hik
  obtain ⟨c0, c1, c2, c3⟩ := D1.box.cells
  by_cases hz : 0 < xs.length
  · have hcmp : (0 : Int) < (xs.length : Int) := by omega
    go_wp2_with fail
    refine (pick_any r _ 3 _ D1.rd (by omega) (by omega) (by omega)).mono ?_
    rintro e w2 ⟨k, rfl, hk, hr2, hk2⟩
    have D2 := D1.draw hr2 hk2
    clear D1 hr2 hk2 c0 c1 c2 c3
    obtain ⟨c0, c1, c2, c3⟩ := D2.box.cells
    by_cases hk0 : (0 : Int) < (k : Int)
    · have HD := Lib.hid (D2.below (Below.refl _ _).drew)
      obtain ⟨b, o, hxe, -, -, -⟩ := Items.cellAt D2.its hz
      subst hxe
      have hbw0 : w.heap.size < b := (D2.ink _ _ _ rfl hz).1
      have hbw : ¬ w.heap.size = b := by omega
      have hbw' : ¬ b = w.heap.size := by omega
      clear D2 hbw0
      go_wp2_with fail
      go_region_law (first
        | (go_simp; go_at_call 108; refine (pick_any r _ (xs.length : Int) _ HD.out.rd (by omega) (by omega) (by omega)).mono ?_; rintro e w4 ⟨j, rfl, hj, hr4, hk4⟩; have E4 := HD.out.draw hr4 hk4; obtain ⟨d0, d1, d2, d3⟩ := E4.box.cells; have hj0 : (0 : Int) ≤ (j : Int) := (by omega); have hj1 : (j : Int) < (xs.length : Int) := (by omega); have hj2 : j < xs.length := (by omega); obtain ⟨b4, o4, e4, hb4, y0, y1⟩ := Items.cellAt E4.its hj2; simp only [Option.some.injEq, Addr.mk.injEq, and_true] at e4; obtain ⟨rfl, rfl⟩ := e4; have hs := (E4.its.ok _ (List.getElem_mem hj2)).1; obtain ⟨s0, s1, s2, s3⟩ := E4.res.cells; obtain ⟨t0, t1, t2, t3⟩ := E4.res.free; clear hr4 hk4))
      all_goals
        clear HD d0 d1 d2 d3 y0 y1
        have HF := Lib.hid (E4.fin (.slice (some ⟨b, o, none⟩) xs.length xcap) (.int .i64 m) (.int .i64 g) (.int .i64 s))
        clear E4
        go_wp2
        exact bodyPost_ret (v := .tuple #[.agg #[.slice (some ⟨b, o, none⟩) xs.length xcap, .int .i64 m, .int .i64 g, .int .i64 s], .string xs[j].1]) (by simp [results, Try.results63, go_sem, s0, s1, s2, s3]) rfl ⟨_, xs, m, g, s, xs[j].1, rfl, hbd, hs, HF.out.1, HF.out.2.1, HF.out.2.2.1.mono (by omega), HF.out.2.2.2⟩
    · have HD := Lib.hid (D2.below (Below.refl _ _).drew)
      clear D2
      go_wp2_with fail
      go_region_law (first
        | (go_simp; go_at_call 111; refine (anyKey_any r _ _ HD.out.rd (by omega)).mono ?_; rintro e w4 ⟨t, hs, rfl, hr4, hk4⟩; have E4 := HD.out.draw hr4 hk4; obtain ⟨d0, d1, d2, d3⟩ := E4.box.cells; obtain ⟨s0, s1, s2, s3⟩ := E4.res.cells; obtain ⟨t0, t1, t2, t3⟩ := E4.res.free; clear hr4 hk4))
      all_goals
        clear HD d0 d1 d2 d3
        have HF := Lib.hid (E4.fin (.slice xo xs.length xcap) (.int .i64 m) (.int .i64 g) (.int .i64 s))
        clear E4
        go_wp2
        exact bodyPost_ret (v := .tuple #[.agg #[.slice xo xs.length xcap, .int .i64 m, .int .i64 g, .int .i64 s], .string t]) (by simp [results, Try.results63, go_sem, s0, s1, s2, s3]) rfl ⟨_, xs, m, g, s, t, rfl, hbd, hs, HF.out.1, HF.out.2.1, HF.out.2.2.1.mono (by omega), HF.out.2.2.2⟩
  · have hcmp : ¬ (0 : Int) < (xs.length : Int) := by omega
    have HD := Lib.hid (D1.below (Below.refl _ _).drew)
    clear D1
    go_wp2_with fail
    go_region_law (first
      | (go_simp; go_at_call 111; refine (anyKey_any r _ _ HD.out.rd (by omega)).mono ?_; rintro e w4 ⟨t, hs, rfl, hr4, hk4⟩; have E4 := HD.out.draw hr4 hk4; obtain ⟨d0, d1, d2, d3⟩ := E4.box.cells; obtain ⟨s0, s1, s2, s3⟩ := E4.res.cells; obtain ⟨t0, t1, t2, t3⟩ := E4.res.free; clear hr4 hk4))
    all_goals
      clear HD d0 d1 d2 d3
      have HF := Lib.hid (E4.fin (.slice xo xs.length xcap) (.int .i64 m) (.int .i64 g) (.int .i64 s))
      clear E4
      go_wp2
      exact bodyPost_ret (v := .tuple #[.agg #[.slice xo xs.length xcap, .int .i64 m, .int .i64 g, .int .i64 s], .string t]) (by simp [results, Try.results63, go_sem, s0, s1, s2, s3]) rfl ⟨_, xs, m, g, s, t, rfl, hbd, hs, HF.out.1, HF.out.2.1, HF.out.2.2.1.mono (by omega), HF.out.2.2.2⟩

set_option linter.unusedSimpArgs false in
set_option maxHeartbeats 1600000 in
set_option maxRecDepth 100000 in
theorem DrawValidCache_any (v : Value) (bs : List Int) (w : World) (h : Bytes w v bs) :
    Calls Try.prog 14 #[v] w fun e w' => ∃ v' xs m g s, e = .returned (.agg #[v', .int .i64 m, .int .i64 g, .int .i64 s]) ∧ bdC xs m g s ∧ Items w' v' xs ∧ InK (In w.heap.size w'.heap.size) v' ∧ Below w.heap.size w w' := by
  have hb0 : Below w.heap.size w (w.alloc (.cells #[.slice none 0 0, .int .i64 0, .int .i64 0, .int .i64 0] 25)) := (Below.refl _ _).alloc (Nat.le_refl _) _
  have X0 := Lib.hid (Four.new w 25 (.slice none 0 0) (.int .i64 0) (.int .i64 0) (.int .i64 0))
  go_enter Try.func14, Try.ntmps14
  go_wp2_with fail
  refine (newReader_any v bs _ (h.kept (K := (· < w.heap.size)) (Keeps.of_below hb0 (fun _ h => h)) (fun h0 _ hg => h.lt h0 hg))).mono ?_
  rintro e w1 ⟨r, rfl, hr, hR1, hb1⟩
  have hs1 := hb1.size
  have X1 := Lib.hid (X0.out.below hb1 (by simp))
  simp at hs1 hr
  have hB1 : Below w.heap.size w w1 := hb0.trans (hb1.mono (by simp))
  clear hb1 hb0 X0 h
  go_wp2_with fail
  refine (someCache_any r 0 w1 hR1 (by omega)).mono ?_
  rintro e w2 ⟨v2, xs, m, g, s, rfl, hbd, hit, hik, hR2, hk2⟩
  have hs2 := hk2.size
  have hlt := hR1.lt
  obtain ⟨xo, xcap, rfl, _, _⟩ := Items.shape0 hit
  have X2 := X1.out.keeps hk2 ⟨by omega, by omega⟩
  have HB := Lib.hid (draw_below hB1 (by omega) hk2)
  have hkp : Keeps (fun k => k ≠ w.heap.size) w2 (set4c w2 w.heap.size (.slice xo xs.length xcap) (.int .i64 m) (.int .i64 g) (.int .i64 s)) := ((((Keeps.refl _ _).setCell (fun h => h rfl) _).setCell (fun h => h rfl) _).setCell (fun h => h rfl) _).setCell (fun h => h rfl) _
  have HI := Lib.hid (hit.keeps hkp (hik.mono fun k hk => by have := hk.1; omega))
  have HK : Hid (InK (In w.heap.size (set4c w2 w.heap.size (.slice xo xs.length xcap) (.int .i64 m) (.int .i64 g) (.int .i64 s)).heap.size) (.slice xo xs.length xcap)) := hik.mono fun k hk => ⟨by have := hk.1; omega, by have := hk.2; simp [set4c]; omega⟩
  have HBB : Hid (Below w.heap.size w (set4c w2 w.heap.size (.slice xo xs.length xcap) (.int .i64 m) (.int .i64 g) (.int .i64 s))) := (((HB.out.setCell (Nat.le_refl _) _).setCell (Nat.le_refl _) _).setCell (Nat.le_refl _) _).setCell (Nat.le_refl _) _
  obtain ⟨s0, s1, s2, s3⟩ := X2.cells
  obtain ⟨t0, t1, t2, t3⟩ := X2.free
  clear hit hik hk2 X2 X1 hR1 hkp HB
  go_wp2
  exact bodyPost_ret (v := .agg #[.slice xo xs.length xcap, .int .i64 m, .int .i64 g, .int .i64 s]) (by simp [results, Try.results14, go_sem, s0, s1, s2, s3]) rfl ⟨_, xs, m, g, s, rfl, hbd, HI.out, HK.out, HBB.out⟩

set_option linter.unusedSimpArgs false in
set_option maxHeartbeats 1600000 in
set_option maxRecDepth 100000 in
theorem DrawLookUp_any (v : Value) (bs : List Int) (w : World) (h : Bytes w v bs) :
    Calls Try.prog 17 #[v] w fun e w' => ∃ v' xs m g s t, e = .returned (.tuple #[.agg #[v', .int .i64 m, .int .i64 g, .int .i64 s], .string t]) ∧ bdC xs m g s ∧ t.size ≤ 9223372036854775807 ∧ Items w' v' xs ∧ InK (In w.heap.size w'.heap.size) v' ∧ Below w.heap.size w w' := by
  have hb0 : Below w.heap.size w (w.alloc (.cells #[.slice none 0 0, .int .i64 0, .int .i64 0, .int .i64 0] 25)) := (Below.refl _ _).alloc (Nat.le_refl _) _
  have X0 := Lib.hid (Four.new w 25 (.slice none 0 0) (.int .i64 0) (.int .i64 0) (.int .i64 0))
  go_enter Try.func17, Try.ntmps17
  go_wp2_with fail
  refine (newReader_any v bs _ (h.kept (K := (· < w.heap.size)) (Keeps.of_below hb0 (fun _ h => h)) (fun h0 _ hg => h.lt h0 hg))).mono ?_
  rintro e w1 ⟨r, rfl, hr, hR1, hb1⟩
  have hs1 := hb1.size
  have X1 := Lib.hid (X0.out.below hb1 (by simp))
  simp at hs1 hr
  have hB1 : Below w.heap.size w w1 := hb0.trans (hb1.mono (by simp))
  clear hb1 hb0 X0 h
  go_wp2_with fail
  refine (cacheKey_any r 0 w1 hR1 (by omega)).mono ?_
  rintro e w2 ⟨v2, xs, m, g, s, t, rfl, hbd, hts, hit, hik, hR2, hk2⟩
  have hs2 := hk2.size
  have hlt := hR1.lt
  obtain ⟨xo, xcap, rfl, _, _⟩ := Items.shape0 hit
  have X2 := X1.out.keeps hk2 ⟨by omega, by omega⟩
  have HB := Lib.hid (draw_below hB1 (by omega) hk2)
  have hkp : Keeps (fun k => k ≠ w.heap.size) w2 (set4c w2 w.heap.size (.slice xo xs.length xcap) (.int .i64 m) (.int .i64 g) (.int .i64 s)) := ((((Keeps.refl _ _).setCell (fun h => h rfl) _).setCell (fun h => h rfl) _).setCell (fun h => h rfl) _).setCell (fun h => h rfl) _
  have HI := Lib.hid (hit.keeps hkp (hik.mono fun k hk => by have := hk.1; omega))
  have HK : Hid (InK (In w.heap.size (set4c w2 w.heap.size (.slice xo xs.length xcap) (.int .i64 m) (.int .i64 g) (.int .i64 s)).heap.size) (.slice xo xs.length xcap)) := hik.mono fun k hk => ⟨by have := hk.1; omega, by have := hk.2; simp [set4c]; omega⟩
  have HBB : Hid (Below w.heap.size w (set4c w2 w.heap.size (.slice xo xs.length xcap) (.int .i64 m) (.int .i64 g) (.int .i64 s))) := (((HB.out.setCell (Nat.le_refl _) _).setCell (Nat.le_refl _) _).setCell (Nat.le_refl _) _).setCell (Nat.le_refl _) _
  obtain ⟨s0, s1, s2, s3⟩ := X2.cells
  obtain ⟨t0, t1, t2, t3⟩ := X2.free
  clear hit hik hk2 X2 X1 hR1 hkp HB
  go_wp2
  exact bodyPost_ret (v := .tuple #[.agg #[.slice xo xs.length xcap, .int .i64 m, .int .i64 g, .int .i64 s], .string t]) (by simp [results, Try.results17, go_sem, s0, s1, s2, s3]) rfl ⟨_, xs, m, g, s, t, rfl, hbd, hts, HI.out, HK.out, HBB.out⟩

set_option linter.unusedSimpArgs false in
set_option maxHeartbeats 1600000 in
set_option maxRecDepth 100000 in
theorem DrawResizeCache_any (v : Value) (bs : List Int) (w : World) (h : Bytes w v bs) :
    Calls Try.prog 28 #[v] w fun e w' => ∃ v' xs m g s q, e = .returned (.tuple #[.agg #[v', .int .i64 m, .int .i64 g, .int .i64 s], .int .i64 q]) ∧ bdC xs m g s ∧ (0 ≤ q ∧ q ≤ 9) ∧ Items w' v' xs ∧ InK (In w.heap.size w'.heap.size) v' ∧ Below w.heap.size w w' := by
  have hb0 : Below w.heap.size w (w.alloc (.cells #[.slice none 0 0, .int .i64 0, .int .i64 0, .int .i64 0] 25)) := (Below.refl _ _).alloc (Nat.le_refl _) _
  have X0 := Lib.hid (Four.new w 25 (.slice none 0 0) (.int .i64 0) (.int .i64 0) (.int .i64 0))
  go_enter Try.func28, Try.ntmps28
  go_wp2_with fail
  refine (newReader_any v bs _ (h.kept (K := (· < w.heap.size)) (Keeps.of_below hb0 (fun _ h => h)) (fun h0 _ hg => h.lt h0 hg))).mono ?_
  rintro e w1 ⟨r, rfl, hr, hR1, hb1⟩
  have hs1 := hb1.size
  have X1 := Lib.hid (X0.out.below hb1 (by simp))
  simp at hs1 hr
  have hB1 : Below w.heap.size w w1 := hb0.trans (hb1.mono (by simp))
  clear hb1 hb0 X0 h
  go_wp2_with fail
  refine (someCache_any r 0 w1 hR1 (by omega)).mono ?_
  rintro e w3 ⟨v2, xs, m, g, s, rfl, hbd, hit3, hik3, hR3, hk3⟩
  have hs3 := hk3.size
  have hlt3 := hR1.lt
  go_wp2_with fail
  refine (one_lit r _ [1, 2, 3, 8, 0, 9] w3 hR3 (by omega) (by decide) (by decide) rfl rfl).mono ?_
  rintro e w2 ⟨q, hq, rfl, hR2, hk2'⟩
  have hq2 : 0 ≤ q ∧ q ≤ 9 := by simp at hq; omega
  have hs4 := hk2'.size
  have hit := hit3.keeps hk2' (hik3.mono fun k hk => ⟨hk.2, by have := hk.1; omega⟩)
  have hik : InK (In w1.heap.size w2.heap.size) v2 := hik3.mono fun k hk => ⟨hk.1, by have := hk.2; omega⟩
  have hk2 := RK.trans hk3 hk2'
  clear hit3 hik3 hk3 hk2' hq hR3
  have hs2 := hk2.size
  have hlt := hR1.lt
  obtain ⟨xo, xcap, rfl, _, _⟩ := Items.shape0 hit
  have X2 := X1.out.keeps hk2 ⟨by omega, by omega⟩
  have HB := Lib.hid (draw_below hB1 (by omega) hk2)
  have hkp : Keeps (fun k => k ≠ w.heap.size) w2 (set4c w2 w.heap.size (.slice xo xs.length xcap) (.int .i64 m) (.int .i64 g) (.int .i64 s)) := ((((Keeps.refl _ _).setCell (fun h => h rfl) _).setCell (fun h => h rfl) _).setCell (fun h => h rfl) _).setCell (fun h => h rfl) _
  have HI := Lib.hid (hit.keeps hkp (hik.mono fun k hk => by have := hk.1; omega))
  have HK : Hid (InK (In w.heap.size (set4c w2 w.heap.size (.slice xo xs.length xcap) (.int .i64 m) (.int .i64 g) (.int .i64 s)).heap.size) (.slice xo xs.length xcap)) := hik.mono fun k hk => ⟨by have := hk.1; omega, by have := hk.2; simp [set4c]; omega⟩
  have HBB : Hid (Below w.heap.size w (set4c w2 w.heap.size (.slice xo xs.length xcap) (.int .i64 m) (.int .i64 g) (.int .i64 s))) := (((HB.out.setCell (Nat.le_refl _) _).setCell (Nat.le_refl _) _).setCell (Nat.le_refl _) _).setCell (Nat.le_refl _) _
  obtain ⟨s0, s1, s2, s3⟩ := X2.cells
  obtain ⟨t0, t1, t2, t3⟩ := X2.free
  clear hit hik hk2 X2 X1 hR1 hkp HB
  go_wp2
  exact bodyPost_ret (v := .tuple #[.agg #[.slice xo xs.length xcap, .int .i64 m, .int .i64 g, .int .i64 s], .int .i64 q]) (by simp [results, Try.results28, go_sem, s0, s1, s2, s3]) rfl ⟨_, xs, m, g, s, q, rfl, hbd, hq2, HI.out, HK.out, HBB.out⟩

set_option linter.unusedSimpArgs false in
set_option maxHeartbeats 1600000 in
set_option maxRecDepth 100000 in
theorem DrawStoreItem_any (v : Value) (bs : List Int) (w : World) (h : Bytes w v bs) :
    Calls Try.prog 24 #[v] w fun e w' => ∃ v' xs m g s t q, e = .returned (.tuple #[.agg #[v', .int .i64 m, .int .i64 g, .int .i64 s], .string t, .int .i64 q]) ∧ bdC xs m g s ∧ (t.size ≤ 9223372036854775807 ∧ -7 ≤ q ∧ q ≤ 10000) ∧ Items w' v' xs ∧ InK (In w.heap.size w'.heap.size) v' ∧ Below w.heap.size w w' := by
  have hb0 : Below w.heap.size w (w.alloc (.cells #[.slice none 0 0, .int .i64 0, .int .i64 0, .int .i64 0] 25)) := (Below.refl _ _).alloc (Nat.le_refl _) _
  have X0 := Lib.hid (Four.new w 25 (.slice none 0 0) (.int .i64 0) (.int .i64 0) (.int .i64 0))
  go_enter Try.func24, Try.ntmps24
  go_wp2_with fail
  refine (newReader_any v bs _ (h.kept (K := (· < w.heap.size)) (Keeps.of_below hb0 (fun _ h => h)) (fun h0 _ hg => h.lt h0 hg))).mono ?_
  rintro e w1 ⟨r, rfl, hr, hR1, hb1⟩
  have hs1 := hb1.size
  have X1 := Lib.hid (X0.out.below hb1 (by simp))
  simp at hs1 hr
  have hB1 : Below w.heap.size w w1 := hb0.trans (hb1.mono (by simp))
  clear hb1 hb0 X0 h
  go_wp2_with fail
  refine (cacheKey_any r 0 w1 hR1 (by omega)).mono ?_
  rintro e w3 ⟨v2, xs, m, g, s, t, rfl, hbd, hts, hit3, hik3, hR3, hk3⟩
  have hs3 := hk3.size
  have hlt3 := hR1.lt
  obtain ⟨xo, xcap, rfl, _, _⟩ := Items.shape0 hit3
  have hbd' : Below w3.heap.size w3 (w3.alloc (.cells #[.slice xo xs.length xcap, .int .i64 m, .int .i64 g, .int .i64 s] 25)).drew := ((Below.refl _ _).alloc (Nat.le_refl _) _).drew
  have BX := Four.new w3 25 (.slice xo xs.length xcap) (.int .i64 m) (.int .i64 g) (.int .i64 s)
  have hbe : Below (w3.heap.size + 1) (w3.alloc (.cells #[.slice xo xs.length xcap, .int .i64 m, .int .i64 g, .int .i64 s] 25)) (w3.alloc (.cells #[.slice xo xs.length xcap, .int .i64 m, .int .i64 g, .int .i64 s] 25)).drew := (Below.refl _ _).drew
  have BXd := Lib.hid (BX.below hbe (by omega))
  have XXd := Lib.hid ((X1.out.keeps hk3 ⟨by omega, by omega⟩).below hbd' (by omega))
  have R2d := Lib.hid (hR3.below hbd')
  have HId := Lib.hid (hit3.mono hbd' (Nat.le_refl _))
  have HKd := Lib.hid (RK.trans hk3 (RK.of_below hbd'))
  obtain ⟨c0, c1, c2, c3⟩ := BX.cells
  clear hit3 hk3 hR3 hbe hbd' BX X1
  go_wp2_with fail
  go_region_law (first
    | (go_simp; go_at_call 73; refine (one_lit_at (w3.heap.size + 1) r _ [7, 0, -7, 10000] _ (by simp) R2d.out (by omega) (by decide) (by decide) rfl rfl).mono ?_; rintro e w2 ⟨q, hq, rfl, hR2, hk2'⟩; have hq2 : -7 ≤ q ∧ q ≤ 10000 := (by simp at hq; omega); obtain ⟨d0, d1, d2, d3⟩ := (BXd.out.keeps hk2' ⟨by simp, by omega⟩).cells; have X2 := XXd.out.keeps hk2' ⟨by simp; omega, by omega⟩; obtain ⟨s0, s1, s2, s3⟩ := X2.cells; obtain ⟨t0, t1, t2, t3⟩ := X2.free; clear hq))
  all_goals
    have hs4 := hk2'.size
    simp at hs4
    have hit := HId.out.keeps hk2' (hik3.mono fun k hk => ⟨by have := hk.2; simp; omega, by have := hk.1; omega⟩)
    have hik : InK (In w1.heap.size w2.heap.size) (.slice xo xs.length xcap) := hik3.mono fun k hk => ⟨hk.1, by have := hk.2; omega⟩
    have hk2 := RK.trans HKd.out hk2'
    have HB := Lib.hid (draw_below hB1 (by omega) hk2)
    have hkp : Keeps (fun k => k ≠ w.heap.size) w2 (set4c w2 w.heap.size (.slice xo xs.length xcap) (.int .i64 m) (.int .i64 g) (.int .i64 s)) := ((((Keeps.refl _ _).setCell (fun h => h rfl) _).setCell (fun h => h rfl) _).setCell (fun h => h rfl) _).setCell (fun h => h rfl) _
    have HI := Lib.hid (hit.keeps hkp (hik.mono fun k hk => by have := hk.1; omega))
    have HK : Hid (InK (In w.heap.size (set4c w2 w.heap.size (.slice xo xs.length xcap) (.int .i64 m) (.int .i64 g) (.int .i64 s)).heap.size) (.slice xo xs.length xcap)) := hik.mono fun k hk => ⟨by have := hk.1; omega, by have := hk.2; simp [set4c]; omega⟩
    have HBB : Hid (Below w.heap.size w (set4c w2 w.heap.size (.slice xo xs.length xcap) (.int .i64 m) (.int .i64 g) (.int .i64 s))) := (((HB.out.setCell (Nat.le_refl _) _).setCell (Nat.le_refl _) _).setCell (Nat.le_refl _) _).setCell (Nat.le_refl _) _
    clear hit hik hk2 hk2' X2 hR1 hR2 hkp HB d0 d1 d2 d3 c0 c1 c2 c3 HKd HId R2d XXd BXd hik3
    go_wp2
    exact bodyPost_ret (v := .tuple #[.agg #[.slice xo xs.length xcap, .int .i64 m, .int .i64 g, .int .i64 s], .string t, .int .i64 q]) (by simp [results, Try.results24, go_sem, s0, s1, s2, s3]) rfl ⟨_, xs, m, g, s, t, q, rfl, hbd, ⟨hts, hq2.1, hq2.2⟩, HI.out, HK.out, HBB.out⟩

set_option maxHeartbeats 800000 in
set_option maxRecDepth 100000 in
theorem equalK_T {W w : World} {L : List Thing} (H : Things W w L) {v u : Value} {xs : List Itm} {m g s : Int} (h : Items w v xs) (h' : Items w u xs) :
    Calls Try.prog 20 #[.agg #[v, .int .i64 m, .int .i64 g, .int .i64 s], .agg #[u, .int .i64 m, .int .i64 g, .int .i64 s]] w fun e w' => e = .returned (.bool true) ∧ Things W w' L := by
  have hv := Lib.hid h
  have hu := Lib.hid h'
  obtain ⟨vo, vc, rfl, _, _⟩ := Items.shape0 h
  obtain ⟨uo, uc, rfl, _, _⟩ := Items.shape0 h'
  clear h h'
  go_enter Try.func20, Try.ntmps20
  have HB0 : Hid (Below w.heap.size w ((w.alloc (.cells #[.slice vo xs.length vc, .int .i64 m, .int .i64 g, .int .i64 s] 25)).alloc (.cells #[.slice uo xs.length uc, .int .i64 m, .int .i64 g, .int .i64 s] 25))) := ((Below.refl _ _).alloc (Nat.le_refl _) _).alloc (by simp) _
  have F0 := (Four.new w 25 (.slice vo xs.length vc) (.int .i64 m) (.int .i64 g) (.int .i64 s)).below (B := w.heap.size + 1) ((Below.refl _ _).alloc (by simp) (.cells #[.slice uo xs.length uc, .int .i64 m, .int .i64 g, .int .i64 s] 25)) (by omega)
  have F1 := Four.new (w.alloc (.cells #[.slice vo xs.length vc, .int .i64 m, .int .i64 g, .int .i64 s] 25)) 25 (.slice uo xs.length uc) (.int .i64 m) (.int .i64 g) (.int .i64 s)
  simp at F1
  obtain ⟨c0, c1, c2, c3⟩ := F0.cells
  obtain ⟨d0, d1, d2, d3⟩ := F1.cells
  go_wp2_with fail
  refine (equalItems_any _ _ xs xs _ (hv.out.mono HB0.out (Nat.le_refl _)) (hu.out.mono HB0.out (Nat.le_refl _))).mono ?_
  rintro e w1 ⟨rfl, hb⟩
  rw [decide_eq_true rfl]
  have H2 := H.quiet (HB0.out.trans (hb.mono (by simp <;> omega)))
  have G0 := F0.below hb (by simp <;> omega)
  have G1 := F1.below hb (by simp)
  clear c0 c1 c2 c3 d0 d1 d2 d3 F0 F1
  obtain ⟨c0, c1, c2, c3⟩ := G0.cells
  obtain ⟨d0, d1, d2, d3⟩ := G1.cells
  go_wp2
  go_ret
  exact ⟨rfl, H2⟩
end Go.Proofs.Ytlclhdolcokipaa
/-
  A cache and texts drawn.
-/
namespace Go.Proofs.Ytlclhdolcokipaa
open Go.RowKit
open Go.ChangeShapes Go.WideShapes Go.ChangeAt Go.Deep

set_option linter.unusedSimpArgs false in
set_option maxHeartbeats 1600000 in
set_option maxRecDepth 100000 in
theorem DrawRunCache_any (v : Value) (bs : List Int) (w : World) (h : Bytes w v bs) :
    Calls Try.prog 31 #[v] w fun e w' => ∃ v' xs m g s u ks, e = .returned (.tuple #[.agg #[v', .int .i64 m, .int .i64 g, .int .i64 s], u]) ∧ bdC xs m g s ∧ ks.length ≤ 41 ∧ Items w' v' xs ∧ Texts w' u ks ∧ Below w.heap.size w w' := by
  have hb0 : Below w.heap.size w (w.alloc (.cells #[.slice none 0 0, .int .i64 0, .int .i64 0, .int .i64 0] 25)) := (Below.refl _ _).alloc (Nat.le_refl _) _
  have X0 := Lib.hid (Four.new w 25 (.slice none 0 0) (.int .i64 0) (.int .i64 0) (.int .i64 0))
  go_enter Try.func31, Try.ntmps31
  go_wp2_with fail
  refine (newReader_any v bs _ (h.kept (K := (· < w.heap.size)) (Keeps.of_below hb0 (fun _ h => h)) (fun h0 _ hg => h.lt h0 hg))).mono ?_
  rintro e w1 ⟨r, rfl, hr, hR1, hb1⟩
  have hs1 := hb1.size
  have X1 := Lib.hid (X0.out.below hb1 (by simp))
  simp at hs1 hr
  have hB1 : Below w.heap.size w w1 := hb0.trans (hb1.mono (by simp))
  clear hb1 hb0 X0 h
  go_wp2_with fail
  refine (someCache_any r 0 w1 hR1 (by omega)).mono ?_
  rintro e w3 ⟨v2, xs, m, g, s, rfl, hbd, hit3, hik3, hR3, hk3⟩
  have hs3 := hk3.size
  have hlt3 := hR1.lt
  go_wp2_with fail
  refine (someTexts_any r _ w3 hR3 (by omega)).mono ?_
  rintro e w2 ⟨u, ks, rfl, hkl, hown, hk2'⟩
  obtain ⟨uo, uc, rfl, _, _⟩ := own_slice hown.1
  have hs4 := hk2'.size
  have hit := hit3.keeps hk2' (hik3.mono fun k hk => ⟨hk.2, by have := hk.1; omega⟩)
  have hik : InK (In w1.heap.size w2.heap.size) v2 := hik3.mono fun k hk => ⟨hk.1, by have := hk.2; omega⟩
  have hk2 := RK.trans hk3 hk2'
  clear hit3 hik3 hk3 hk2' hR3
  have hs2 := hk2.size
  have hlt := hR1.lt
  obtain ⟨xo, xcap, rfl, _, _⟩ := Items.shape0 hit
  have X2 := X1.out.keeps hk2 ⟨by omega, by omega⟩
  have HB := Lib.hid (draw_below hB1 (by omega) hk2)
  have hkp : Keeps (fun k => k ≠ w.heap.size) w2 (set4c w2 w.heap.size (.slice xo xs.length xcap) (.int .i64 m) (.int .i64 g) (.int .i64 s)) := ((((Keeps.refl _ _).setCell (fun h => h rfl) _).setCell (fun h => h rfl) _).setCell (fun h => h rfl) _).setCell (fun h => h rfl) _
  have HT : Hid (Texts (set4c w2 w.heap.size (.slice xo xs.length xcap) (.int .i64 m) (.int .i64 g) (.int .i64 s)) (.slice uo ks.length uc) ks) := OwnT.texts ⟨hkp.own hown.1 (fun gg hg => by have := (own_range hown.1 hg).1; omega), hown.2⟩
  have HI := Lib.hid (hit.keeps hkp (hik.mono fun k hk => by have := hk.1; omega))
  have HK : Hid (InK (In w.heap.size (set4c w2 w.heap.size (.slice xo xs.length xcap) (.int .i64 m) (.int .i64 g) (.int .i64 s)).heap.size) (.slice xo xs.length xcap)) := hik.mono fun k hk => ⟨by have := hk.1; omega, by have := hk.2; simp [set4c]; omega⟩
  have HBB : Hid (Below w.heap.size w (set4c w2 w.heap.size (.slice xo xs.length xcap) (.int .i64 m) (.int .i64 g) (.int .i64 s))) := (((HB.out.setCell (Nat.le_refl _) _).setCell (Nat.le_refl _) _).setCell (Nat.le_refl _) _).setCell (Nat.le_refl _) _
  obtain ⟨s0, s1, s2, s3⟩ := X2.cells
  obtain ⟨t0, t1, t2, t3⟩ := X2.free
  clear hit hik hk2 X2 X1 hR1 hkp HB
  go_wp2
  exact bodyPost_ret (v := .tuple #[.agg #[.slice xo xs.length xcap, .int .i64 m, .int .i64 g, .int .i64 s], .slice uo ks.length uc]) (by simp [results, Try.results31, go_sem, s0, s1, s2, s3]) rfl ⟨_, xs, m, g, s, _, ks, rfl, hbd, hkl, HI.out, HT.out, HBB.out⟩
end Go.Proofs.Ytlclhdolcokipaa
