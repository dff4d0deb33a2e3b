/-
  Numbers in slices: what a slice of numbers holds, whose it is, and the statements' own helpers over numbers.
-/
import Derived.Test.YtcipkdegcplmcaaThing
import Derived.Test.YtcipkdegcplmcaaSpec
import Derived.Deep.RegionHeld3
import Derived.Deep.Slices
namespace Go.Proofs.Ytcipkdegcplmcaa
open Go.RowKit

theorem Try.infoN : (Try.prog.info? 3).map (fun i => (i.zero, i.size, i.bytes)) = some (some (.int .i64 0), 1, 8) := by kernel_rfl
def okN (xs : List Int) : Prop := ∀ x ∈ xs, -9223372036854775808 ≤ x ∧ x ≤ 9223372036854775807
def cellsN (xs : List Int) : List Value := xs.map (Value.int .i64)
/-- The slice v reads as the numbers xs. -/
def Nums (w : World) (v : Value) (xs : List Int) : Prop :=
  ∃ ao cap, v = .slice ao xs.length cap ∧ xs.length ≤ cap ∧ cap ≤ 9223372036854775807 ∧ okN xs ∧
    ∀ k (_ : k < xs.length), ∃ b o, ao = some ⟨b, o, none⟩ ∧ b < w.heap.size ∧ w.cell? ⟨b, o + k, none⟩ = some (.int .i64 xs[k])

theorem Nums.mono {w w' : World} {v : Value} {xs : List Int} (h : Nums w v xs) {B : Nat} (hb : Below B w w') (hB : w.heap.size ≤ B) : Nums w' v xs := by
  obtain ⟨ao, cap, hv, hl, hc, hok, hk⟩ := h
  refine ⟨ao, cap, hv, hl, hc, hok, fun k hlt => ?_⟩
  obtain ⟨b, o, ha, hs, h1⟩ := hk k hlt
  exact ⟨b, o, ha, Nat.lt_of_lt_of_le hs hb.size, (hb.cell (p := ⟨b, _, none⟩) (Nat.lt_of_lt_of_le hs hB)).trans h1⟩
theorem Nums.ok {w : World} {v : Value} {xs : List Int} (h : Nums w v xs) : okN xs := by obtain ⟨_, _, _, _, _, h, _⟩ := h; exact h
theorem Nums.slice {w : World} {v : Value} {xs : List Int} (h : Nums w v xs) : ∃ p c, v = .slice p xs.length c ∧ xs.length ≤ c ∧ c ≤ 9223372036854775807 := by
  obtain ⟨ao, cap, hv, hl, hc, _, _⟩ := h
  exact ⟨ao, cap, hv, hl, hc⟩
theorem okN_nil : okN [] := fun x hx => by simp at hx
theorem Nums_none {w : World} {ao : Option Addr} {c : Nat} (hc : c ≤ 9223372036854775807) : Nums w (.slice ao 0 c) [] := ⟨ao, c, rfl, Nat.zero_le _, hc, okN_nil, fun k hk => by simp at hk⟩
theorem Nums.nil (w : World) : Nums w (.slice none 0 0) [] := Nums_none (by omega)
theorem Nums.inK {w : World} {v : Value} {xs : List Int} (h : Nums w v xs) : InK (· < w.heap.size) v := by
  obtain ⟨ao, cap, rfl, hl, hc, hok, hcell⟩ := h
  intro a n c e hn
  simp only [Value.slice.injEq] at e
  obtain ⟨rfl, rfl, rfl⟩ := e
  obtain ⟨b, o, ha, hs, _⟩ := hcell 0 hn
  simp only [Option.some.injEq] at ha
  subst ha
  exact hs
theorem Nums.keeps {K : Nat → Prop} {w w' : World} {v : Value} {xs : List Int} (h : Nums w v xs) (hk : Keeps K w w') (hv : InK K v) : Nums w' v xs := by
  obtain ⟨ao, cap, rfl, hl, hc, hok, hcell⟩ := h
  refine ⟨ao, cap, rfl, hl, hc, hok, fun k hlt => ?_⟩
  obtain ⟨b, o, rfl, hs, h1⟩ := hcell k hlt
  have hb : K b := hv _ _ _ rfl (by omega)
  exact ⟨b, o, rfl, Nat.lt_of_lt_of_le hs hk.size, (hk.cell (a := ⟨b, _, none⟩) hb).trans h1⟩
theorem cellsN_length (xs : List Int) : (cellsN xs).length = xs.length := by simp [cellsN]
theorem cellsN_append (a b : List Int) : cellsN (a ++ b) = cellsN a ++ cellsN b := by simp [cellsN]
theorem cellsN_get {xs : List Int} {k : Nat} (h : k < xs.length) : (cellsN xs)[k]? = some (.int .i64 xs[k]) := by simp [cellsN, h]
theorem cellsN_one (xs : List Int) : ∀ u ∈ cellsN xs, u.oneCell' = true := by
  intro u hu
  obtain ⟨x, _, rfl⟩ := List.mem_map.1 hu
  rfl
/-- The cells of a slice of numbers, one by one. -/
theorem Nums.news {w : World} {b o n cap : Nat} {sp : Option Nat} {xs : List Int} (h : Nums w (.slice (some ⟨b, o, sp⟩) n cap) xs) : ∀ j u, (cellsN xs)[j]? = some u → w.cell? ((⟨b, o, sp⟩ : Addr).add j) = some u := by
  intro j u hu
  obtain ⟨ao, cap', e, hl, hc, hok, hcell⟩ := h
  simp only [Value.slice.injEq] at e
  obtain ⟨rfl, rfl, rfl⟩ := e
  have hj : j < xs.length := by rw [← cellsN_length]; exact (List.getElem?_eq_some_iff.1 hu).1
  obtain ⟨b', o', e, _, h1⟩ := hcell j hj
  simp only [Option.some.injEq, Addr.mk.injEq] at e
  obtain ⟨rfl, rfl, rfl⟩ := e
  rw [cellsN_get hj] at hu
  rw [Addr.add_lit, h1, hu]

/-! ### a part of a slice -/
theorem okN_drop {xs : List Int} (h : okN xs) (k : Nat) : okN (xs.drop k) := fun x hx => h x (List.mem_of_mem_drop hx)
theorem okN_take {xs : List Int} (h : okN xs) (k : Nat) : okN (xs.take k) := fun x hx => h x (List.mem_of_mem_take hx)
theorem okN_append {a b : List Int} (h : okN a) (h' : okN b) : okN (a ++ b) := fun x hx => (List.mem_append.1 hx).elim (h x) (h' x)
/-- xs[i:j], wherever it begins if it has nothing. -/
theorem Nums.part {w : World} {ao A : Option Addr} {n c c' i j m : Nat} {xs : List Int} (h : Nums w (.slice ao n c) xs) (hij : i ≤ j) (hj : j ≤ xs.length) (hm : m = j - i) (hc : m ≤ c') (hcm : c' ≤ 9223372036854775807)
    (hA : i < j → ∀ b o, ao = some ⟨b, o, none⟩ → A = some ⟨b, o + i, none⟩) : Nums w (.slice A m c') ((xs.take j).drop i) := by
  obtain ⟨ao', cap, e, hl, hcc, hok, hcell⟩ := h
  simp only [Value.slice.injEq] at e
  obtain ⟨rfl, rfl, rfl⟩ := e
  have hlen : ((xs.take j).drop i).length = m := by simp; omega
  refine ⟨A, c', by rw [hlen], by omega, hcm, okN_drop (okN_take hok j) i, fun k hk => ?_⟩
  rw [hlen] at hk
  obtain ⟨b, o, ha, hs, h1⟩ := hcell (i + k) (by omega)
  refine ⟨b, o + i, hA (by omega) b o ha, hs, ?_⟩
  rw [Nat.add_assoc, h1]
  simp

/-! ### numbers that lie in a block, from a place on -/
def RowN (w : World) (g o T : Nat) (xs : List Int) : Prop := ∃ cs : Array Value, w.heap[g]? = some (.cells cs T (0, 0)) ∧ ∀ k (_ : k < xs.length), cs[o + k]? = some (.int .i64 xs[k])
theorem RowN.lt {w : World} {g o T : Nat} {xs : List Int} (h : RowN w g o T xs) : g < w.heap.size := by
  obtain ⟨cs, h, _⟩ := h
  exact (Array.getElem?_eq_some_iff.1 h).1
theorem RowN.cell {w : World} {g o T : Nat} {xs : List Int} (h : RowN w g o T xs) {k : Nat} (hk : k < xs.length) : w.cell? ⟨g, o + k, none⟩ = some (.int .i64 xs[k]) := by
  obtain ⟨cs, h, h2⟩ := h
  simp [World.cell?, h, h2 k hk]
theorem RowN.free {w : World} {g o T : Nat} {xs : List Int} (h : RowN w g o T xs) (j : Nat) : w.frozen? ⟨g, j, none⟩ = false := by
  obtain ⟨cs, h, h2⟩ := h
  simp [World.frozen?, h]
theorem RowN.block {w w' : World} {g o T : Nat} {xs : List Int} (h : RowN w g o T xs) (e : w'.heap[g]? = w.heap[g]?) : RowN w' g o T xs := by
  obtain ⟨cs, h, h2⟩ := h
  exact ⟨cs, e.trans h, h2⟩
theorem RowN.below {w w' : World} {g o T B : Nat} {xs : List Int} (h : RowN w g o T xs) (hb : Below B w w') (hB : g < B) : RowN w' g o T xs := h.block (hb.block g hB)
theorem setCell_heap_self {w : World} {g k T : Nat} {cs : Array Value} {v : Value} (h : w.heap[g]? = some (.cells cs T (0, 0))) : (w.setCell ⟨g, k, none⟩ v).heap[g]? = some (.cells (cs.setIfInBounds k v) T (0, 0)) := by
  have hlt := (Array.getElem?_eq_some_iff.1 h).1
  have h' : w.heap[g] = .cells cs T (0, 0) := by simpa [Array.getElem?_eq_getElem hlt] using h
  show (w.heap.modify g _)[g]? = _
  rw [Array.getElem?_eq_getElem (by simpa using hlt), Array.getElem_modify_self, h']
  rfl
theorem RowN.set {w : World} {g o T : Nat} {xs : List Int} (h : RowN w g o T xs) {k : Nat} (_hk : k < xs.length) (q : Int) : RowN (w.setCell ⟨g, o + k, none⟩ (.int .i64 q)) g o T (xs.set k q) := by
  obtain ⟨cs, h, h2⟩ := h
  refine ⟨_, setCell_heap_self h, fun j hj => ?_⟩
  rw [List.length_set] at hj
  have hlt : o + j < cs.size := (Array.getElem?_eq_some_iff.1 (h2 j hj)).1
  rw [Array.getElem?_setIfInBounds]
  by_cases e : k = j
  · subst e
    simp [hlt]
  · rw [if_neg (by omega), h2 j hj, List.getElem_set_ne (by omega)]

/-- A slice of numbers in a block of its own, between two bounds. -/
def OwnN (lo hi : Nat) (w : World) (v : Value) (xs : List Int) : Prop :=
  (xs = [] ∧ ∃ ao c, v = .slice ao 0 c ∧ c ≤ 9223372036854775807) ∨
  (∃ g o c T, v = .slice (some ⟨g, o, none⟩) xs.length c ∧ xs.length ≤ c ∧ c ≤ 9223372036854775807 ∧ okN xs ∧ lo ≤ g ∧ g < hi ∧ RowN w g o T xs)
theorem OwnN.nums {lo hi : Nat} {w : World} {v : Value} {xs : List Int} (h : OwnN lo hi w v xs) : Nums w v xs := by
  rcases h with ⟨rfl, ao, c, rfl, hc⟩ | ⟨g, o, c, T, rfl, hl, hc, hok, _, _, hr⟩
  · exact Nums_none hc
  · exact ⟨_, c, rfl, hl, hc, hok, fun k hk => ⟨g, o, rfl, hr.lt, hr.cell hk⟩⟩
theorem OwnN.keeps {lo hi : Nat} {w w' : World} {v : Value} {xs : List Int} (h : OwnN lo hi w v xs) (hk : Keeps (In lo hi) w w') : OwnN lo hi w' v xs := by
  rcases h with h | ⟨g, o, c, T, rfl, hl, hc, hok, h1, h2, hr⟩
  · exact .inl h
  · exact .inr ⟨g, o, c, T, rfl, hl, hc, hok, h1, h2, hr.block (hk.block g ⟨h1, h2⟩)⟩
theorem OwnN.below {lo hi B : Nat} {w w' : World} {v : Value} {xs : List Int} (h : OwnN lo hi w v xs) (hb : Below B w w') (hB : hi ≤ B) : OwnN lo hi w' v xs :=
  h.keeps (Keeps.of_below hb fun _ hk => Nat.lt_of_lt_of_le hk.2 hB)
theorem OwnN.wide {lo hi lo' hi' : Nat} {w : World} {v : Value} {xs : List Int} (h : OwnN lo hi w v xs) (hlo : lo' ≤ lo) (hhi : hi ≤ hi') : OwnN lo' hi' w v xs := by
  rcases h with h | ⟨g, o, c, T, rfl, hl, hc, hok, h1, h2, hr⟩
  · exact .inl h
  · exact .inr ⟨g, o, c, T, rfl, hl, hc, hok, by omega, by omega, hr⟩
theorem OwnN.none {lo hi : Nat} {w : World} {ao : Option Addr} {c : Nat} (hc : c ≤ 9223372036854775807) : OwnN lo hi w (.slice ao 0 c) [] := .inl ⟨rfl, ao, c, rfl, hc⟩
theorem own_rowN {w : World} {B E n c g : Nat} {xs : List Int} (h : w.ownsRow B E 1 (.slice (some ⟨g, 0, none⟩) n c) n (cellsN xs)) : RowN w g 0 E xs := by
  have hlen : xs.length = n := by have := h.1; rw [cellsN_length] at this; omega
  rcases h.2 with ⟨h', _⟩ | ⟨g', cap', cur, h', hb, hg, hnc, hcm, hcs, htake⟩
  · simp at h'
  · simp only [Value.slice.injEq, Option.some.injEq, Addr.mk.injEq, and_true] at h'
    obtain ⟨rfl, _, rfl⟩ := h'
    refine ⟨cur, hg, fun k hk => ?_⟩
    have := cellsN_get hk
    rw [← htake, List.getElem?_take, if_pos (by omega)] at this
    rw [Nat.zero_add, ← this]
    simp
theorem OwnN.of {w : World} {B n : Nat} {v : Value} {xs : List Int} (h : w.ownsRow B 3 1 v n (cellsN xs)) (hok : okN xs) : OwnN B w.heap.size w v xs := by
  have hlen : xs.length = n := by have := h.1; rw [cellsN_length] at this; omega
  subst hlen
  have h0 := h
  rcases h.2 with ⟨rfl, h1⟩ | ⟨g, cap, cur, rfl, hb, hg, hnc, hcm, hcs, htake⟩
  · obtain rfl : xs = [] := List.eq_nil_of_length_eq_zero h1
    exact OwnN.none (by omega)
  · exact .inr ⟨g, 0, cap, 3, rfl, hnc, by unfold maxLen at hcm; exact hcm, hok, hb, (Array.getElem?_eq_some_iff.1 hg).1, own_rowN h0⟩

/-! ### how much they hold; a copy; equality -/
theorem copyN_step {w : World} {B E g n : Nat} {xs : List Int} {k : Nat} {zs : List Value} (hlt : k < xs.length) (hn : n = xs.length) (hz : zs.length = n - k)
    (hown : w.ownsRow B E 1 (.slice (some ⟨g, 0, none⟩) n n) n (cellsN (xs.take k) ++ zs)) :
    ∃ zs', zs'.length = n - (k + 1) ∧ (w.setCell ⟨g, k, none⟩ (.int .i64 xs[k])).ownsRow B E 1 (.slice (some ⟨g, 0, none⟩) n n) n (cellsN (xs.take (k + 1)) ++ zs') := by
  have h1 := (hown.stored k (.int .i64 xs[k])).1
  have hlen : (cellsN (xs.take k)).length = k := by rw [cellsN_length]; simp; omega
  match zs, hz with
  | [], hz => simp at hz; omega
  | z0 :: r, hz =>
    refine ⟨r, by simp at hz; omega, ?_⟩
    have e : (cellsN (xs.take k) ++ z0 :: r).set k (.int .i64 xs[k]) = cellsN (xs.take (k + 1)) ++ r := by
      rw [List.set_append_right _ _ (by omega), hlen, Nat.sub_self, List.take_succ_eq_append_getElem hlt]
      simp only [cellsN, List.map_append, List.append_assoc]
      rfl
    rw [e] at h1
    exact h1

/-- New numbers. -/
def FreshN (xs : List Int) (w : World) (e : Ending) (w' : World) : Prop :=
  ∃ v, e = .returned v ∧ OwnN w.heap.size w'.heap.size w' v xs ∧ Below w.heap.size w w'

theorem belowN {B : Nat} {a w : World} (h : Below B a w) (n : Nat) : Below B a (w.drewN n) := ⟨h.os, h.tape, h.output, h.size, h.block⟩
def eqFromN (k : Nat) (xs ys : List Int) : Bool := decide (xs.drop k = ys.drop k)
theorem eqFromN_step {k : Nat} {xs ys : List Int} (h1 : k < xs.length) (h2 : k < ys.length) : eqFromN k xs ys = (decide (xs[k] = ys[k]) && eqFromN (k + 1) xs ys) := by
  unfold eqFromN
  rw [List.drop_eq_getElem_cons h1, List.drop_eq_getElem_cons h2, Bool.eq_iff_iff, Bool.and_eq_true, decide_eq_true_eq, decide_eq_true_eq, decide_eq_true_eq, List.cons.injEq]

/-! ### marks -/
def marksN (k : Nat) : Nat → List Int
  | 0 => []
  | n + 1 => marksN k n ++ [((k + n : Nat) : Int)]
theorem marksN_length (k n : Nat) : (marksN k n).length = n := by
  induction n with
  | zero => rfl
  | succ n ih => simp [marksN, ih]
theorem marksN_get (k : Nat) : ∀ (n i : Nat) (h : i < (marksN k n).length), (marksN k n)[i] = ((k + i : Nat) : Int) := by
  intro n
  induction n with
  | zero => intro i h; simp [marksN] at h
  | succ n ih =>
    intro i h
    rw [marksN_length] at h
    by_cases hi : i < n
    · have := ih i (by rw [marksN_length]; exact hi)
      simp only [marksN]
      rw [List.getElem_append_left (by rw [marksN_length]; exact hi)]
      exact this
    · obtain rfl : i = n := by omega
      simp only [marksN]
      rw [List.getElem_append_right (by rw [marksN_length]; exact Nat.le_refl _)]
      simp [marksN_length]
theorem marksN_ok (k n : Nat) (h : k + n ≤ 100000000) : okN (marksN k n) := by
  intro x hx
  obtain ⟨i, hi, rfl⟩ := List.mem_iff_getElem.1 hx
  rw [marksN_get]
  rw [marksN_length] at hi
  omega
theorem marksN_set {k i : Nat} {xs : List Int} (hlt : i < xs.length) : (marksN k i ++ xs.drop i).set i ((k + i : Nat) : Int) = marksN k (i + 1) ++ xs.drop (i + 1) := by
  rw [List.drop_eq_getElem_cons hlt, List.set_append_right _ _ (by rw [marksN_length]; exact Nat.le_refl _), marksN_length, Nat.sub_self, List.set_cons_zero]
  simp [marksN]

end Go.Proofs.Ytcipkdegcplmcaa
