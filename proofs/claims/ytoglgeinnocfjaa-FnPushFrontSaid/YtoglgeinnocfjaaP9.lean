/-
  Num, NumT, Dq, DqR, DqI, DqC, IxP.
-/
import Derived.Deep.RegionHeld3
import Derived.Deep.Slices
import Derived.Test.YtoglgeinnocfjaaP5
import Derived.Test.YtoglgeinnocfjaaP7
/-
  Numbers in slices: what a slice of numbers holds, whose it is, and the statements' own helpers over numbers.
-/
namespace Go.Proofs.Ytoglgeinnocfjaa
open Go.RowKit

theorem Try.infoN : (Try.prog.info? 3).map (fun i => (i.zero, i.size, i.bytes)) = some (some (.int .i64 0), 1, 8) := by kernel_rfl
def okN (xs : List Int) : Prop := ∀ x ∈ xs, -9223372036854775808 ≤ x ∧ x ≤ 9223372036854775807
def cellsN (xs : List Int) : List Value := xs.map (Value.int .i64)
/-- The slice v reads as the numbers xs. -/
def Nums (w : World) (v : Value) (xs : List Int) : Prop :=
  ∃ ao cap, v = .slice ao xs.length cap ∧ xs.length ≤ cap ∧ cap ≤ 9223372036854775807 ∧ okN xs ∧
    ∀ k (_ : k < xs.length), ∃ b o, ao = some ⟨b, o, none⟩ ∧ b < w.heap.size ∧ w.cell? ⟨b, o + k, none⟩ = some (.int .i64 xs[k])

theorem Nums.mono {w w' : World} {v : Value} {xs : List Int} (h : Nums w v xs) {B : Nat} (hb : Below B w w') (hB : w.heap.size ≤ B) : Nums w' v xs := by
  obtain ⟨ao, cap, hv, hl, hc, hok, hk⟩ := h
  refine ⟨ao, cap, hv, hl, hc, hok, fun k hlt => ?_⟩
  obtain ⟨b, o, ha, hs, h1⟩ := hk k hlt
  exact ⟨b, o, ha, Nat.lt_of_lt_of_le hs hb.size, (hb.cell (p := ⟨b, _, none⟩) (Nat.lt_of_lt_of_le hs hB)).trans h1⟩
theorem Nums.ok {w : World} {v : Value} {xs : List Int} (h : Nums w v xs) : okN xs := by obtain ⟨_, _, _, _, _, h, _⟩ := h; exact h
theorem Nums.slice {w : World} {v : Value} {xs : List Int} (h : Nums w v xs) : ∃ p c, v = .slice p xs.length c ∧ xs.length ≤ c ∧ c ≤ 9223372036854775807 := by
  obtain ⟨ao, cap, hv, hl, hc, _, _⟩ := h
  exact ⟨ao, cap, hv, hl, hc⟩
theorem okN_nil : okN [] := fun x hx => by simp at hx
theorem Nums_none {w : World} {ao : Option Addr} {c : Nat} (hc : c ≤ 9223372036854775807) : Nums w (.slice ao 0 c) [] := ⟨ao, c, rfl, Nat.zero_le _, hc, okN_nil, fun k hk => by simp at hk⟩
theorem Nums.nil (w : World) : Nums w (.slice none 0 0) [] := Nums_none (by omega)
theorem Nums.inK {w : World} {v : Value} {xs : List Int} (h : Nums w v xs) : InK (· < w.heap.size) v := by
  obtain ⟨ao, cap, rfl, hl, hc, hok, hcell⟩ := h
  intro a n c e hn
  simp only [Value.slice.injEq] at e
  obtain ⟨rfl, rfl, rfl⟩ := e
  obtain ⟨b, o, ha, hs, _⟩ := hcell 0 hn
  simp only [Option.some.injEq] at ha
  subst ha
  exact hs
theorem Nums.keeps {K : Nat → Prop} {w w' : World} {v : Value} {xs : List Int} (h : Nums w v xs) (hk : Keeps K w w') (hv : InK K v) : Nums w' v xs := by
  obtain ⟨ao, cap, rfl, hl, hc, hok, hcell⟩ := h
  refine ⟨ao, cap, rfl, hl, hc, hok, fun k hlt => ?_⟩
  obtain ⟨b, o, rfl, hs, h1⟩ := hcell k hlt
  have hb : K b := hv _ _ _ rfl (by omega)
  exact ⟨b, o, rfl, Nat.lt_of_lt_of_le hs hk.size, (hk.cell (a := ⟨b, _, none⟩) hb).trans h1⟩
theorem cellsN_length (xs : List Int) : (cellsN xs).length = xs.length := by simp [cellsN]
theorem cellsN_append (a b : List Int) : cellsN (a ++ b) = cellsN a ++ cellsN b := by simp [cellsN]
theorem cellsN_get {xs : List Int} {k : Nat} (h : k < xs.length) : (cellsN xs)[k]? = some (.int .i64 xs[k]) := by simp [cellsN, h]
theorem cellsN_one (xs : List Int) : ∀ u ∈ cellsN xs, u.oneCell' = true := by
  intro u hu
  obtain ⟨x, _, rfl⟩ := List.mem_map.1 hu
  rfl
/-- The cells of a slice of numbers, one by one. -/
theorem Nums.news {w : World} {b o n cap : Nat} {sp : Option Nat} {xs : List Int} (h : Nums w (.slice (some ⟨b, o, sp⟩) n cap) xs) : ∀ j u, (cellsN xs)[j]? = some u → w.cell? ((⟨b, o, sp⟩ : Addr).add j) = some u := by
  intro j u hu
  obtain ⟨ao, cap', e, hl, hc, hok, hcell⟩ := h
  simp only [Value.slice.injEq] at e
  obtain ⟨rfl, rfl, rfl⟩ := e
  have hj : j < xs.length := by rw [← cellsN_length]; exact (List.getElem?_eq_some_iff.1 hu).1
  obtain ⟨b', o', e, _, h1⟩ := hcell j hj
  simp only [Option.some.injEq, Addr.mk.injEq] at e
  obtain ⟨rfl, rfl, rfl⟩ := e
  rw [cellsN_get hj] at hu
  rw [Addr.add_lit, h1, hu]

/-! ### a part of a slice -/
theorem okN_drop {xs : List Int} (h : okN xs) (k : Nat) : okN (xs.drop k) := fun x hx => h x (List.mem_of_mem_drop hx)
theorem okN_take {xs : List Int} (h : okN xs) (k : Nat) : okN (xs.take k) := fun x hx => h x (List.mem_of_mem_take hx)
theorem okN_append {a b : List Int} (h : okN a) (h' : okN b) : okN (a ++ b) := fun x hx => (List.mem_append.1 hx).elim (h x) (h' x)
/-- xs[i:j], wherever it begins if it has nothing. -/
theorem Nums.part {w : World} {ao A : Option Addr} {n c c' i j m : Nat} {xs : List Int} (h : Nums w (.slice ao n c) xs) (hij : i ≤ j) (hj : j ≤ xs.length) (hm : m = j - i) (hc : m ≤ c') (hcm : c' ≤ 9223372036854775807)
    (hA : i < j → ∀ b o, ao = some ⟨b, o, none⟩ → A = some ⟨b, o + i, none⟩) : Nums w (.slice A m c') ((xs.take j).drop i) := by
  obtain ⟨ao', cap, e, hl, hcc, hok, hcell⟩ := h
  simp only [Value.slice.injEq] at e
  obtain ⟨rfl, rfl, rfl⟩ := e
  have hlen : ((xs.take j).drop i).length = m := by simp; omega
  refine ⟨A, c', by rw [hlen], by omega, hcm, okN_drop (okN_take hok j) i, fun k hk => ?_⟩
  rw [hlen] at hk
  obtain ⟨b, o, ha, hs, h1⟩ := hcell (i + k) (by omega)
  refine ⟨b, o + i, hA (by omega) b o ha, hs, ?_⟩
  rw [Nat.add_assoc, h1]
  simp

/-! ### numbers that lie in a block, from a place on -/
def RowN (w : World) (g o T : Nat) (xs : List Int) : Prop := ∃ cs : Array Value, w.heap[g]? = some (.cells cs T (0, 0)) ∧ ∀ k (_ : k < xs.length), cs[o + k]? = some (.int .i64 xs[k])
theorem RowN.lt {w : World} {g o T : Nat} {xs : List Int} (h : RowN w g o T xs) : g < w.heap.size := by
  obtain ⟨cs, h, _⟩ := h
  exact (Array.getElem?_eq_some_iff.1 h).1
theorem RowN.cell {w : World} {g o T : Nat} {xs : List Int} (h : RowN w g o T xs) {k : Nat} (hk : k < xs.length) : w.cell? ⟨g, o + k, none⟩ = some (.int .i64 xs[k]) := by
  obtain ⟨cs, h, h2⟩ := h
  simp [World.cell?, h, h2 k hk]
theorem RowN.free {w : World} {g o T : Nat} {xs : List Int} (h : RowN w g o T xs) (j : Nat) : w.frozen? ⟨g, j, none⟩ = false := by
  obtain ⟨cs, h, h2⟩ := h
  simp [World.frozen?, h]
theorem RowN.block {w w' : World} {g o T : Nat} {xs : List Int} (h : RowN w g o T xs) (e : w'.heap[g]? = w.heap[g]?) : RowN w' g o T xs := by
  obtain ⟨cs, h, h2⟩ := h
  exact ⟨cs, e.trans h, h2⟩
theorem RowN.below {w w' : World} {g o T B : Nat} {xs : List Int} (h : RowN w g o T xs) (hb : Below B w w') (hB : g < B) : RowN w' g o T xs := h.block (hb.block g hB)
theorem setCell_heap_self {w : World} {g k T : Nat} {cs : Array Value} {v : Value} (h : w.heap[g]? = some (.cells cs T (0, 0))) : (w.setCell ⟨g, k, none⟩ v).heap[g]? = some (.cells (cs.setIfInBounds k v) T (0, 0)) := by
  have hlt := (Array.getElem?_eq_some_iff.1 h).1
  have h' : w.heap[g] = .cells cs T (0, 0) := by simpa [Array.getElem?_eq_getElem hlt] using h
  show (w.heap.modify g _)[g]? = _
  rw [Array.getElem?_eq_getElem (by simpa using hlt), Array.getElem_modify_self, h']
  rfl
theorem RowN.set {w : World} {g o T : Nat} {xs : List Int} (h : RowN w g o T xs) {k : Nat} (_hk : k < xs.length) (q : Int) : RowN (w.setCell ⟨g, o + k, none⟩ (.int .i64 q)) g o T (xs.set k q) := by
  obtain ⟨cs, h, h2⟩ := h
  refine ⟨_, setCell_heap_self h, fun j hj => ?_⟩
  rw [List.length_set] at hj
  have hlt : o + j < cs.size := (Array.getElem?_eq_some_iff.1 (h2 j hj)).1
  rw [Array.getElem?_setIfInBounds]
  by_cases e : k = j
  · subst e
    simp [hlt]
  · rw [if_neg (by omega), h2 j hj, List.getElem_set_ne (by omega)]

/-- A slice of numbers in a block of its own, between two bounds. -/
def OwnN (lo hi : Nat) (w : World) (v : Value) (xs : List Int) : Prop :=
  (xs = [] ∧ ∃ ao c, v = .slice ao 0 c ∧ c ≤ 9223372036854775807) ∨
  (∃ g o c T, v = .slice (some ⟨g, o, none⟩) xs.length c ∧ xs.length ≤ c ∧ c ≤ 9223372036854775807 ∧ okN xs ∧ lo ≤ g ∧ g < hi ∧ RowN w g o T xs)
theorem OwnN.nums {lo hi : Nat} {w : World} {v : Value} {xs : List Int} (h : OwnN lo hi w v xs) : Nums w v xs := by
  rcases h with ⟨rfl, ao, c, rfl, hc⟩ | ⟨g, o, c, T, rfl, hl, hc, hok, _, _, hr⟩
  · exact Nums_none hc
  · exact ⟨_, c, rfl, hl, hc, hok, fun k hk => ⟨g, o, rfl, hr.lt, hr.cell hk⟩⟩
theorem OwnN.keeps {lo hi : Nat} {w w' : World} {v : Value} {xs : List Int} (h : OwnN lo hi w v xs) (hk : Keeps (In lo hi) w w') : OwnN lo hi w' v xs := by
  rcases h with h | ⟨g, o, c, T, rfl, hl, hc, hok, h1, h2, hr⟩
  · exact .inl h
  · exact .inr ⟨g, o, c, T, rfl, hl, hc, hok, h1, h2, hr.block (hk.block g ⟨h1, h2⟩)⟩
theorem OwnN.below {lo hi B : Nat} {w w' : World} {v : Value} {xs : List Int} (h : OwnN lo hi w v xs) (hb : Below B w w') (hB : hi ≤ B) : OwnN lo hi w' v xs :=
  h.keeps (Keeps.of_below hb fun _ hk => Nat.lt_of_lt_of_le hk.2 hB)
theorem OwnN.wide {lo hi lo' hi' : Nat} {w : World} {v : Value} {xs : List Int} (h : OwnN lo hi w v xs) (hlo : lo' ≤ lo) (hhi : hi ≤ hi') : OwnN lo' hi' w v xs := by
  rcases h with h | ⟨g, o, c, T, rfl, hl, hc, hok, h1, h2, hr⟩
  · exact .inl h
  · exact .inr ⟨g, o, c, T, rfl, hl, hc, hok, by omega, by omega, hr⟩
theorem OwnN.none {lo hi : Nat} {w : World} {ao : Option Addr} {c : Nat} (hc : c ≤ 9223372036854775807) : OwnN lo hi w (.slice ao 0 c) [] := .inl ⟨rfl, ao, c, rfl, hc⟩
theorem own_rowN {w : World} {B E n c g : Nat} {xs : List Int} (h : w.ownsRow B E 1 (.slice (some ⟨g, 0, none⟩) n c) n (cellsN xs)) : RowN w g 0 E xs := by
  have hlen : xs.length = n := by have := h.1; rw [cellsN_length] at this; omega
  rcases h.2 with ⟨h', _⟩ | ⟨g', cap', cur, h', hb, hg, hnc, hcm, hcs, htake⟩
  · simp at h'
  · simp only [Value.slice.injEq, Option.some.injEq, Addr.mk.injEq, and_true] at h'
    obtain ⟨rfl, _, rfl⟩ := h'
    refine ⟨cur, hg, fun k hk => ?_⟩
    have := cellsN_get hk
    rw [← htake, List.getElem?_take, if_pos (by omega)] at this
    rw [Nat.zero_add, ← this]
    simp
theorem OwnN.of {w : World} {B n : Nat} {v : Value} {xs : List Int} (h : w.ownsRow B 3 1 v n (cellsN xs)) (hok : okN xs) : OwnN B w.heap.size w v xs := by
  have hlen : xs.length = n := by have := h.1; rw [cellsN_length] at this; omega
  subst hlen
  have h0 := h
  rcases h.2 with ⟨rfl, h1⟩ | ⟨g, cap, cur, rfl, hb, hg, hnc, hcm, hcs, htake⟩
  · obtain rfl : xs = [] := List.eq_nil_of_length_eq_zero h1
    exact OwnN.none (by omega)
  · exact .inr ⟨g, 0, cap, 3, rfl, hnc, by unfold maxLen at hcm; exact hcm, hok, hb, (Array.getElem?_eq_some_iff.1 hg).1, own_rowN h0⟩

/-! ### how much they hold; a copy; equality -/
theorem copyN_step {w : World} {B E g n : Nat} {xs : List Int} {k : Nat} {zs : List Value} (hlt : k < xs.length) (hn : n = xs.length) (hz : zs.length = n - k)
    (hown : w.ownsRow B E 1 (.slice (some ⟨g, 0, none⟩) n n) n (cellsN (xs.take k) ++ zs)) :
    ∃ zs', zs'.length = n - (k + 1) ∧ (w.setCell ⟨g, k, none⟩ (.int .i64 xs[k])).ownsRow B E 1 (.slice (some ⟨g, 0, none⟩) n n) n (cellsN (xs.take (k + 1)) ++ zs') := by
  have h1 := (hown.stored k (.int .i64 xs[k])).1
  have hlen : (cellsN (xs.take k)).length = k := by rw [cellsN_length]; simp; omega
  match zs, hz with
  | [], hz => simp at hz; omega
  | z0 :: r, hz =>
    refine ⟨r, by simp at hz; omega, ?_⟩
    have e : (cellsN (xs.take k) ++ z0 :: r).set k (.int .i64 xs[k]) = cellsN (xs.take (k + 1)) ++ r := by
      rw [List.set_append_right _ _ (by omega), hlen, Nat.sub_self, List.take_succ_eq_append_getElem hlt]
      simp only [cellsN, List.map_append, List.append_assoc]
      rfl
    rw [e] at h1
    exact h1

/-- New numbers. -/
def FreshN (xs : List Int) (w : World) (e : Ending) (w' : World) : Prop :=
  ∃ v, e = .returned v ∧ OwnN w.heap.size w'.heap.size w' v xs ∧ Below w.heap.size w w'

theorem belowN {B : Nat} {a w : World} (h : Below B a w) (n : Nat) : Below B a (w.drewN n) := ⟨h.os, h.tape, h.output, h.size, h.block⟩
def eqFromN (k : Nat) (xs ys : List Int) : Bool := decide (xs.drop k = ys.drop k)
theorem eqFromN_step {k : Nat} {xs ys : List Int} (h1 : k < xs.length) (h2 : k < ys.length) : eqFromN k xs ys = (decide (xs[k] = ys[k]) && eqFromN (k + 1) xs ys) := by
  unfold eqFromN
  rw [List.drop_eq_getElem_cons h1, List.drop_eq_getElem_cons h2, Bool.eq_iff_iff, Bool.and_eq_true, decide_eq_true_eq, decide_eq_true_eq, decide_eq_true_eq, List.cons.injEq]

/-! ### marks -/
def marksN (k : Nat) : Nat → List Int
  | 0 => []
  | n + 1 => marksN k n ++ [((k + n : Nat) : Int)]
theorem marksN_length (k n : Nat) : (marksN k n).length = n := by
  induction n with
  | zero => rfl
  | succ n ih => simp [marksN, ih]
theorem marksN_get (k : Nat) : ∀ (n i : Nat) (h : i < (marksN k n).length), (marksN k n)[i] = ((k + i : Nat) : Int) := by
  intro n
  induction n with
  | zero => intro i h; simp [marksN] at h
  | succ n ih =>
    intro i h
    rw [marksN_length] at h
    by_cases hi : i < n
    · have := ih i (by rw [marksN_length]; exact hi)
      simp only [marksN]
      rw [List.getElem_append_left (by rw [marksN_length]; exact hi)]
      exact this
    · obtain rfl : i = n := by omega
      simp only [marksN]
      rw [List.getElem_append_right (by rw [marksN_length]; exact Nat.le_refl _)]
      simp [marksN_length]
theorem marksN_ok (k n : Nat) (h : k + n ≤ 100000000) : okN (marksN k n) := by
  intro x hx
  obtain ⟨i, hi, rfl⟩ := List.mem_iff_getElem.1 hx
  rw [marksN_get]
  rw [marksN_length] at hi
  omega
theorem marksN_set {k i : Nat} {xs : List Int} (hlt : i < xs.length) : (marksN k i ++ xs.drop i).set i ((k + i : Nat) : Int) = marksN k (i + 1) ++ xs.drop (i + 1) := by
  rw [List.drop_eq_getElem_cons hlt, List.set_append_right _ _ (by rw [marksN_length]; exact Nat.le_refl _), marksN_length, Nat.sub_self, List.set_cons_zero]
  simp [marksN]

end Go.Proofs.Ytoglgeinnocfjaa
/-
  Numbers and deques among what a statement carries; what an operation on them returns.
-/
namespace Go.Proofs.Ytoglgeinnocfjaa
open Go.RowKit

def RetN (v : Value) (w : World) (e : Ending) (w' : World) : Prop := e = .returned v ∧ Below w.heap.size w w'
def numT (lo hi : Nat) (v : Value) (xs : List Int) : Thing := ⟨lo, hi, fun w => OwnN lo hi w v xs, fun _ _ hk h => h.keeps hk⟩
theorem Things.nums {W w : World} {L : List Thing} (H : Things W w L) (i : Nat) {lo hi : Nat} {v : Value} {xs : List Int} (h : L[i]? = some (numT lo hi v xs)) : Nums w v xs :=
  OwnN.nums (show OwnN lo hi w v xs from (H.has i _ h).2.2)
theorem Things.argN {W w : World} {L : List Thing} (H : Things W w L) {v : Value} {xs : List Int} (h : Nums W v xs) : Nums w v xs := h.mono H.below (Nat.le_refl _)
theorem Things.newN {W w w' : World} {L : List Thing} {v : Value} {xs : List Int} (H : Things W w L) (ho : OwnN w.heap.size w'.heap.size w' v xs) (hb : Below w.heap.size w w') : Things W w' (numT w.heap.size w'.heap.size v xs :: L) :=
  H.new (Nat.le_refl _) (Nat.le_refl _) ho hb

def MarkedN (W : World) (L : List Thing) (i : Nat) (t : Nat → Thing) (k q : Nat) (e : Ending) (w' : World) : Prop :=
  ∃ m : Nat, e = .returned (.int .i64 (m : Int)) ∧ ¬ ((m : Int) < 0) ∧ Hid (m = k + q) ∧ Things W w' (L.set i (t k))
theorem Things.boxedAt {W w : World} {L : List Thing} (H : Things W w L) (n : Nat) (hn : n = w.heap.size) (T : Nat) (cs : List Value) : Things W (w.alloc (.cells cs.toArray T)) (boxT n T cs :: L) := by rw [hn]; exact H.boxed T cs
/-! ### deques -/
theorem two_below {w w' : World} {t T B : Nat} {a b : Value} (h : w.heap[t]? = some (.cells #[a, b] T (0, 0))) (hb : Below B w w') (hB : t < B) : w'.heap[t]? = some (.cells #[a, b] T (0, 0)) := (hb.block t hB).trans h
theorem heap_new (w : World) (o : Go.Obj) : (w.alloc o).heap[w.heap.size]? = some o := by
  show (w.heap.push o)[w.heap.size]? = some o
  simp
theorem heap_at (w : World) (o : Go.Obj) {n : Nat} (h : n = w.heap.size) : (w.alloc o).heap[n]? = some o := by rw [h]; exact heap_new w o
theorem heap_old {w : World} {t : Nat} {c : Go.Obj} (h : w.heap[t]? = some c) (o : Go.Obj) : (w.alloc o).heap[t]? = some c := by
  rw [Below.heap_alloc _ _ _ (lt_of_block h), h]

/-! ### what an operation returns -/
def NewN (f : Value → Value) (xs : List Int) (w : World) (e : Ending) (w' : World) : Prop :=
  ∃ v, e = .returned (f v) ∧ OwnN w.heap.size w'.heap.size w' v xs ∧ Below w.heap.size w w'
end Go.Proofs.Ytoglgeinnocfjaa
/-
  Whether a deque is valid, by the model and by the program; a deque that is checked.
-/
namespace Go.Proofs.Ytoglgeinnocfjaa
open Go.RowKit

def allN (xs : List Int) : Bool := xs.all numB
def areN (xs : List Int) : Bool := decide (xs.length ≤ 10) && allN xs
def limB (m : Int) : Bool := decide (-1 ≤ m) && decide (m ≤ 10)
def validD (xs : List Int) (m : Int) : Bool := allN xs && limB m && decide (xs.length ≤ 10) && (decide (m < 0) || decide ((xs.length : Int) ≤ m))
theorem allN_iff {xs : List Int} : allN xs = true ↔ ∀ x ∈ xs, -9999 ≤ x ∧ x ≤ 9999 := by simp [allN, numB]
theorem limB_iff {m : Int} : limB m = true ↔ -1 ≤ m ∧ m ≤ 10 := by simp [limB]
theorem areN_iff {xs : List Int} : areN xs = true ↔ xs.length ≤ 10 ∧ allN xs = true := by simp [areN]
theorem validD_iff {xs : List Int} {m : Int} : validD xs m = true ↔ allN xs = true ∧ (-1 ≤ m ∧ m ≤ 10) ∧ xs.length ≤ 10 ∧ (m < 0 ∨ (xs.length : Int) ≤ m) := by
  unfold validD
  rw [Bool.and_eq_true, Bool.and_eq_true, Bool.and_eq_true, limB_iff, Bool.or_eq_true, decide_eq_true_eq, decide_eq_true_eq, decide_eq_true_eq]
  exact ⟨fun ⟨⟨⟨a, b⟩, c⟩, d⟩ => ⟨a, b, c, d⟩, fun ⟨a, b, c, d⟩ => ⟨⟨⟨a, b⟩, c⟩, d⟩⟩
theorem validD_len {xs : List Int} {m : Int} (h : validD xs m = true) : xs.length ≤ 10 := (validD_iff.1 h).2.2.1
theorem validD_all {xs : List Int} {m : Int} (h : validD xs m = true) : allN xs = true := (validD_iff.1 h).1
theorem validD_lim {xs : List Int} {m : Int} (h : validD xs m = true) : -1 ≤ m ∧ m ≤ 10 := (validD_iff.1 h).2.1
theorem vd_no {xs : List Int} {m : Int} (H : Hid (allN xs = false)) : false = validD xs m := by unfold validD; rw [H.out]; rfl
theorem vd_b {xs : List Int} {m : Int} {b : Bool} (H : Hid (allN xs = true)) (h : b = true ↔ (-1 ≤ m ∧ m ≤ 10) ∧ xs.length ≤ 10 ∧ (m < 0 ∨ (xs.length : Int) ≤ m)) : b = validD xs m := by
  rw [Bool.eq_iff_iff, validD_iff, h]
  exact ⟨fun h => ⟨H.out, h⟩, fun h => h.2⟩
theorem allN_at {xs : List Int} {k : Nat} (hk : k < xs.length) (h : numB xs[k] = false) : allN xs = false := by
  cases e : allN xs
  · rfl
  · have := allN_iff.1 e _ (List.getElem_mem hk)
    rw [← numB_iff, h] at this
    cases this
theorem allN_upto {xs : List Int} {k : Nat} (h : allN (xs.take k) = true) (hk : k < xs.length) (hn : numB xs[k] = true) : allN (xs.take (k + 1)) = true := by
  rw [List.take_succ_eq_append_getElem hk]
  unfold allN at *
  rw [List.all_append, h]
  simp [hn]

theorem rgN_v {n lo hi : Int} {b : Bool} (w : World) (h : (decide (lo ≤ n) && decide (n ≤ hi)) = b) : Calls Try.prog 92 #[.int .i64 n, .int .i64 lo, .int .i64 hi] w fun e w' => e = .returned (.bool b) ∧ w = w' :=
  (inRange_any n lo hi w).mono fun _ _ ⟨he, hw⟩ => ⟨by rw [he, h], hw⟩
theorem isNum_v {n : Int} {b : Bool} (w : World) (h : numB n = b) : Calls Try.prog 97 #[.int .i64 n] w fun e w' => e = .returned (.bool b) ∧ w = w' :=
  (isNumber_any n w).mono fun _ _ ⟨he, hw⟩ => ⟨by rw [he, h], hw⟩
theorem lim_v {m : Int} {b : Bool} (w : World) (h : limB m = b) : Calls Try.prog 92 #[.int .i64 m, .int .i64 (-1), .int .i64 10] w fun e w' => e = .returned (.bool b) ∧ w = w' := rgN_v w h

/-! ### by the model -/
set_option maxHeartbeats 1600000 in
set_option maxRecDepth 100000 in
theorem svD_any (v : Value) (xs : List Int) (m : Int) (w : World) (h : Nums w v xs) :
    Calls Try.prog 80 #[.agg #[v, .int .i64 m]] w fun e w' => e = .returned (.bool (validD xs m)) ∧ Below w.heap.size w w' := by
  have hcell := h
  obtain ⟨ao, cap, rfl, hlc, hcm, hok, hcell⟩ := hcell
  go_enter Try.func80, Try.ntmps80
  have HB0 : Hid (Below w.heap.size w (w.alloc (.cells #[.slice ao xs.length cap, .int .i64 m] 25))) := (Below.refl _ _).alloc (Nat.le_refl _) _
  have G0 := heap_new w (.cells #[.slice ao xs.length cap, .int .i64 m] 25)
  have g0 := two_cell0 G0
  have g1 := two_cell1 G0
  clear G0
  go_wp2
  go_loopw [3] (fun i wr => ∃ k : Nat, k ≤ xs.length ∧ i = .int .i64 k ∧ Hid (allN (xs.take k) = true) ∧ wr = w.alloc (.cells #[.slice ao xs.length cap, .int .i64 m] 25)) (fun i _ => xs.length - (intOf i).toNat)
  case atStart => exact ⟨0, Nat.zero_le _, rfl, rfl, rfl⟩
  case round =>
    obtain ⟨k, hk, rfl, HQ, rfl⟩ := hrel
    by_cases hlt : k < xs.length
    · obtain ⟨b, o, rfl, hb, h1⟩ := hcell k hlt
      have c1 := (HB0.out.cell (p := ⟨b, _, none⟩) hb).trans h1
      cases hn : numB xs[k]
      · have HN := Lib.hid (allN_at hlt hn)
        have HN2 := Lib.hid hn
        clear hn
        go_wp2_with fail
        refine (rgN_v _ HN2.out).mono ?_
        rintro e w2 ⟨rfl, rfl⟩
        go_wp2
        go_ret
        exact ⟨ret_bool (vd_no HN), HB0.out⟩
      · have HN := Lib.hid (allN_upto HQ.out hlt hn)
        have HN2 := Lib.hid hn
        clear hn
        go_wp2_with fail
        refine (rgN_v _ HN2.out).mono ?_
        rintro e w2 ⟨rfl, rfl⟩
        go_wp2
        go_roundw
        case rel => exact ⟨k + 1, by omega, by go_num, HN, trivial⟩
        case measure => simp [intOf]; omega
    · obtain rfl : k = xs.length := by omega
      have HA : Hid (allN xs = true) := by have := HQ.out; rw [List.take_length] at this; exact this
      cases hm : limB m
      · have HM := Lib.hid hm
        have hm' : ¬ (-1 ≤ m ∧ m ≤ 10) := fun h => by rw [limB_iff.2 h] at hm; cases hm
        clear hm
        go_wp2_with fail
        refine (lim_v _ HM.out).mono ?_
        rintro e w2 ⟨rfl, rfl⟩
        go_wp2
        go_ret
        exact ⟨ret_bool (vd_b HA (by simp [hm'])), HB0.out⟩
      · have HM := Lib.hid hm
        have hm' := limB_iff.1 hm
        clear hm
        go_wp2_with fail
        refine (lim_v _ HM.out).mono ?_
        rintro e w2 ⟨rfl, rfl⟩
        have hm1 := hm'.1
        have hm2 := hm'.2
        go_wp2
        all_goals go_ret
        all_goals refine ⟨ret_bool (vd_b HA ?_), HB0.out⟩
        all_goals simp [*]
        all_goals omega

theorem svD_v {v : Value} {xs : List Int} {m : Int} {b : Bool} (w : World) (h : Nums w v xs) (hb : validD xs m = b) :
    Calls Try.prog 80 #[.agg #[v, .int .i64 m]] w fun e w' => e = .returned (.bool b) ∧ Below w.heap.size w w' :=
  (svD_any v xs m w h).mono fun _ _ ⟨he, hw⟩ => ⟨hb ▸ he, hw⟩
theorem svI_v {v : Value} {xs : List Int} {b : Bool} (w : World) (h : Nums w v xs) (hb : areN xs = b) :
    Calls Try.prog 81 #[v] w fun e w' => e = .returned (.bool b) ∧ Below w.heap.size w w' := by
  have hv : validD xs (-1) = b := by
    rw [← hb, Bool.eq_iff_iff, validD_iff, areN_iff]
    exact ⟨fun h => ⟨h.2.2.1, h.1⟩, fun h => ⟨h.2, ⟨by omega, by omega⟩, h.1, .inl (by omega)⟩⟩
  have HV := Lib.hid hv
  clear hv hb
  obtain ⟨ao, cap, rfl, _, _⟩ := h.slice
  go_enter Try.func81, Try.ntmps81
  go_wp2_with fail
  refine (svD_v _ h HV.out).mono ?_
  rintro e w1 ⟨rfl, hb⟩
  have HB := Lib.hid hb
  clear hb
  go_wp2
  go_ret
  exact ⟨rfl, HB.out⟩

/-! ### by the program -/
set_option maxHeartbeats 800000 in
set_option maxRecDepth 100000 in
theorem are_v {v : Value} {xs : List Int} {b : Bool} (w : World) (h : Nums w v xs) (hb : areN xs = b) :
    Calls Try.prog 76 #[v] w fun e w' => e = .returned (.bool b) ∧ w = w' := by
  subst hb
  obtain ⟨ao, cap, rfl, hlc, hcm, hok, hcell⟩ := h
  go_enter Try.func76, Try.ntmps76
  by_cases hl : xs.length ≤ 10
  · go_wp2
    go_loopw [10] (fun i wr => ∃ k : Nat, k ≤ xs.length ∧ i = .int .i64 k ∧ Hid (allN (xs.take k) = true) ∧ wr = w) (fun i _ => xs.length - (intOf i).toNat)
    case atStart => exact ⟨0, Nat.zero_le _, rfl, rfl, rfl⟩
    case round =>
      obtain ⟨k, hk, rfl, HQ, rfl⟩ := hrel
      by_cases hlt : k < xs.length
      · obtain ⟨b, o, rfl, hb, c1⟩ := hcell k hlt
        cases hn : numB xs[k]
        · have HN := Lib.hid (allN_at hlt hn)
          have HN2 := Lib.hid hn
          clear hn
          go_wp2_with fail
          refine (isNum_v _ HN2.out).mono ?_
          rintro e w2 ⟨rfl, rfl⟩
          go_wp2
          go_ret
          exact ⟨ret_bool (by unfold areN; rw [HN.out, Bool.and_false]), rfl⟩
        · have HN := Lib.hid (allN_upto HQ.out hlt hn)
          have HN2 := Lib.hid hn
          clear hn
          go_wp2_with fail
          refine (isNum_v _ HN2.out).mono ?_
          rintro e w2 ⟨rfl, rfl⟩
          go_wp2
          go_roundw
          case rel => exact ⟨k + 1, by omega, by go_num, HN, trivial⟩
          case measure => simp [intOf]; omega
      · obtain rfl : k = xs.length := by omega
        have HA : Hid (allN xs = true) := by have := HQ.out; rw [List.take_length] at this; exact this
        go_wp2
        go_ret
        exact ⟨ret_bool (by unfold areN; rw [HA.out, decide_eq_true hl]; rfl), rfl⟩
  · go_wp2
    go_ret
    exact ⟨ret_bool (by unfold areN; rw [decide_eq_false hl]; rfl), rfl⟩
theorem isLimit_v {m : Int} {b : Bool} (w : World) (h : limB m = b) :
    Calls Try.prog 93 #[.int .i64 m] w fun e w' => e = .returned (.bool b) ∧ w = w' := by
  subst h
  go_enter Try.func93, Try.ntmps93
  go_wp2
  all_goals go_ret
  all_goals refine ⟨ret_bool ?_, rfl⟩
  all_goals rw [Bool.eq_iff_iff, limB_iff]
  all_goals simp [*]
  all_goals omega

set_option maxHeartbeats 1600000 in
set_option maxRecDepth 100000 in
theorem VD_v {v : Value} {xs : List Int} {m : Int} {b : Bool} (w : World) (h : Nums w v xs) (hb : validD xs m = b) :
    Calls Try.prog 39 #[.agg #[v, .int .i64 m]] w fun e w' => e = .returned (.bool b) ∧ Below w.heap.size w w' := by
  subst hb
  obtain ⟨ao, cap, rfl, hlc, hcm⟩ := h.slice
  go_enter Try.func39, Try.ntmps39
  have HB0 : Hid (Below w.heap.size w (w.alloc (.cells #[.slice ao xs.length cap, .int .i64 m] 25))) := (Below.refl _ _).alloc (Nat.le_refl _) _
  have G0 := heap_new w (.cells #[.slice ao xs.length cap, .int .i64 m] 25)
  have g0 := two_cell0 G0
  have g1 := two_cell1 G0
  clear G0
  cases ha : areN xs
  · have HA := Lib.hid ha
    have ha' : ¬ (xs.length ≤ 10 ∧ allN xs = true) := fun h => by rw [areN_iff.2 h] at ha; cases ha
    have HV : Hid (false = validD xs m) := by
      show _ = _
      symm
      cases e : validD xs m
      · rfl
      · exact absurd ⟨validD_len e, validD_all e⟩ ha'
    clear ha ha'
    go_wp2_with fail
    refine (are_v _ (h.mono HB0.out (Nat.le_refl _)) HA.out).mono ?_
    rintro e w1 ⟨rfl, rfl⟩
    go_wp2
    go_ret
    exact ⟨ret_bool HV.out, HB0.out⟩
  · have HA := Lib.hid ha
    have hl := (areN_iff.1 ha).1
    have HN : Hid (allN xs = true) := (areN_iff.1 ha).2
    clear ha
    cases hm : limB m
    · have HM := Lib.hid hm
      have hm' : ¬ (-1 ≤ m ∧ m ≤ 10) := fun h => by rw [limB_iff.2 h] at hm; cases hm
      clear hm
      go_wp2_with fail
      refine (are_v _ (h.mono HB0.out (Nat.le_refl _)) HA.out).mono ?_
      rintro e w1 ⟨rfl, rfl⟩
      go_wp2_with fail
      refine (isLimit_v _ HM.out).mono ?_
      rintro e w2 ⟨rfl, rfl⟩
      go_wp2
      go_ret
      exact ⟨ret_bool (vd_b HN (by simp [hm'])), HB0.out⟩
    · have HM := Lib.hid hm
      have hm' := limB_iff.1 hm
      have hm1 := hm'.1
      have hm2 := hm'.2
      clear hm
      by_cases hneg : m = -1
      all_goals try subst hneg
      all_goals go_wp2_with fail
      all_goals refine (are_v _ (h.mono HB0.out (Nat.le_refl _)) HA.out).mono ?_
      all_goals rintro e w1 ⟨rfl, rfl⟩
      all_goals go_wp2_with fail
      all_goals refine (isLimit_v _ HM.out).mono ?_
      all_goals rintro e w2 ⟨rfl, rfl⟩
      all_goals go_wp2
      all_goals go_ret
      all_goals refine ⟨ret_bool (vd_b HN ?_), HB0.out⟩
      all_goals simp [*]
      all_goals omega
theorem VD_any (v : Value) (xs : List Int) (m : Int) (w : World) (h : Nums w v xs) : Calls Try.prog 39 #[.agg #[v, .int .i64 m]] w (RetN (.bool (validD xs m)) w) := VD_v w h rfl
end Go.Proofs.Ytoglgeinnocfjaa
/-
  What is read of a deque, by the model and by the program: how often a number is there, its first place, a number at a place.
-/
namespace Go.Proofs.Ytoglgeinnocfjaa
open Go.RowKit

/-! ### how often a number is there -/
def cntN (xs : List Int) (x : Int) : Nat := xs.count x
theorem cntN_hit {xs : List Int} {x : Int} {k : Nat} (hk : k < xs.length) (h : xs[k] = x) : cntN (xs.take (k + 1)) x = cntN (xs.take k) x + 1 := by
  unfold cntN
  rw [List.take_succ_eq_append_getElem hk, List.count_append, h]
  simp
theorem cntN_miss {xs : List Int} {x : Int} {k : Nat} (hk : k < xs.length) (h : ¬ xs[k] = x) : cntN (xs.take (k + 1)) x = cntN (xs.take k) x := by
  unfold cntN
  rw [List.take_succ_eq_append_getElem hk, List.count_append]
  simp [h]
theorem cntN_le (xs : List Int) (x : Int) : cntN xs x ≤ xs.length := List.count_le_length
def cntD (xs : List Int) (m x : Int) : Int := if validD xs m = true then (cntN xs x : Int) else -1

/-! ### a place counted from either end -/
def atI (k n : Int) : Int := if -n ≤ k ∧ k ≤ -1 then k + n else if 0 ≤ k ∧ k ≤ n - 1 then k else -1
theorem atI_bd {k n : Int} (_hn : 0 ≤ n) : -1 ≤ atI k n ∧ (0 ≤ atI k n → atI k n < n) := by
  unfold atI
  split
  · omega
  · split <;> omega

def inD (xs : List Int) (m k : Int) : Int := if validD xs m = true then atI k xs.length else -1
theorem inD_bd {xs : List Int} {m k : Int} : -1 ≤ inD xs m k ∧ (0 ≤ inD xs m k → inD xs m k < xs.length ∧ validD xs m = true ∧ inD xs m k = atI k xs.length) := by
  unfold inD
  have := atI_bd (k := k) (n := (xs.length : Int)) (by omega)
  split
  · rename_i h
    exact ⟨this.1, fun h0 => ⟨this.2 h0, h, rfl⟩⟩
  · exact ⟨by omega, fun h0 => by omega⟩

set_option maxHeartbeats 800000 in
set_option maxRecDepth 100000 in
theorem indexOf_v {v : Value} {xs : List Int} {m k : Int} (w : World) (h : Nums w v xs) (hk : -9223372036854775808 ≤ k ∧ k ≤ 9223372036854775807) :
    Calls Try.prog 72 #[.agg #[v, .int .i64 m], .int .i64 k] w fun e w' => e = .returned (.int .i64 (inD xs m k)) ∧ Below w.heap.size w w' := by
  obtain ⟨ao, cap, rfl, hlc, hcm⟩ := h.slice
  obtain ⟨hk0, hk1⟩ := hk
  go_enter Try.func72, Try.ntmps72
  have HB0 : Hid (Below w.heap.size w (w.alloc (.cells #[.slice ao xs.length cap, .int .i64 m] 25))) := (Below.refl _ _).alloc (Nat.le_refl _) _
  have G0 := heap_new w (.cells #[.slice ao xs.length cap, .int .i64 m] 25)
  have g0 := two_cell0 G0
  have g1 := two_cell1 G0
  clear G0
  cases hv : validD xs m
  all_goals
    have HV := Lib.hid hv
    clear hv
    go_wp2_with fail
    refine (VD_v _ (h.mono HB0.out (Nat.le_refl _)) HV.out).mono ?_
    rintro e w1 ⟨rfl, hb⟩
    have HB : Hid (Below w.heap.size w w1) := HB0.out.trans (hb.mono (by simp))
    clear g0 g1 hb
  · go_wp2
    go_ret
    exact ⟨ret_int (by unfold inD; rw [HV.out]; rfl), HB.out⟩
  · have hl := validD_len HV.out
    have HI : Hid (∀ q, q = atI k xs.length → q = inD xs m k) := by
      intro q hq
      unfold inD
      rw [HV.out, hq]
      rfl
    go_wp2
    all_goals go_ret
    all_goals refine ⟨ret_int (HI.out _ ?_), HB.out⟩
    all_goals unfold atI
    all_goals split
    all_goals first | omega | (split <;> omega)

/-! ### the number there -/
def getV (xs : List Int) (i : Int) : Int := if 0 ≤ i then xs.getD i.toNat 0 else 0
theorem getV_at {xs : List Int} {i : Nat} (h : i < xs.length) : getV xs (i : Int) = xs[i] := by
  unfold getV
  rw [if_pos (by omega)]
  simp [h]
theorem ret_ib {a a' : Int} {b b' : Bool} (h : a = a') (h2 : b = b') : Ending.returned (.tuple #[.int .i64 a, .bool b]) = .returned (.tuple #[.int .i64 a', .bool b']) := by rw [h, h2]
def getOk (i : Int) : Bool := decide (0 ≤ i)

set_option maxHeartbeats 800000 in
set_option maxRecDepth 100000 in
theorem GetAt_any (v : Value) (xs : List Int) (m k : Int) (w : World) (h : Nums w v xs) (hk : -9223372036854775808 ≤ k ∧ k ≤ 9223372036854775807) :
    Calls Try.prog 21 #[.agg #[v, .int .i64 m], .int .i64 k] w (RetN (.tuple #[.int .i64 (getV xs (inD xs m k)), .bool (getOk (inD xs m k))]) w) := by
  have h' := h
  obtain ⟨ao, cap, rfl, hlc, hcm, hok, hcell⟩ := h'
  go_enter Try.func21, Try.ntmps21
  have HB0 : Hid (Below w.heap.size w (w.alloc (.cells #[.slice ao xs.length cap, .int .i64 m] 25))) := (Below.refl _ _).alloc (Nat.le_refl _) _
  have G0 := heap_new w (.cells #[.slice ao xs.length cap, .int .i64 m] 25)
  have g0 := two_cell0 G0
  have g1 := two_cell1 G0
  have HI := inD_bd (xs := xs) (m := m) (k := k)
  obtain ⟨q, hq⟩ : ∃ q, q = inD xs m k := ⟨_, rfl⟩
  rw [← hq] at HI ⊢
  have HQ := Lib.hid hq
  clear hq
  go_wp2_with fail
  refine (indexOf_v _ (h.mono HB0.out (Nat.le_refl _)) hk).mono ?_
  rintro e w1 ⟨rfl, hb⟩
  rw [← HQ.out]
  have HB : Hid (Below w.heap.size w w1) := HB0.out.trans (hb.mono (by simp))
  have G1 := two_below G0 hb (by simp)
  have q0 := two_cell0 G1
  clear g0 g1 G0 G1 hb
  by_cases hq0 : q < 0
  · go_wp2
    go_ret2
    exact ⟨ret_ib (by unfold getV; rw [if_neg (by omega)]) (by unfold getOk; rw [decide_eq_false (by omega)]), HB.out⟩
  · obtain ⟨i, rfl⟩ : ∃ i : Nat, q = i := ⟨q.toNat, by omega⟩
    have hlt : i < xs.length := by have := (HI.2 (by omega)).1; omega
    obtain ⟨b, o, rfl, hb, h1⟩ := hcell i hlt
    have c1 := (HB.out.cell (p := ⟨b, _, none⟩) hb).trans h1
    have HG := Lib.hid (getV_at hlt)
    clear HI
    go_wp2
    go_ret2
    exact ⟨ret_ib (by exact HG.out.symm) (by unfold getOk; rw [decide_eq_true (by omega)]), HB.out⟩

end Go.Proofs.Ytoglgeinnocfjaa
/-
  The first place of a number in a deque, by the model and by the program.
-/
namespace Go.Proofs.Ytoglgeinnocfjaa
open Go.RowKit

/-- The place that a number tells, within a size. -/
def clp (k n : Int) : Int := if k < 0 then (if k + n < 0 then 0 else k + n) else if k < n then k else n
theorem clp_bd {k n : Int} (hn : 0 ≤ n) : 0 ≤ clp k n ∧ clp k n ≤ n := by
  unfold clp
  split
  · split <;> omega
  · split <;> omega
theorem clp_nat (k : Int) (n : Nat) : ∃ i : Nat, clp k n = i ∧ i ≤ n := by
  have := clp_bd (k := k) (n := (n : Int)) (by omega)
  exact ⟨(clp k n).toNat, by omega, by omega⟩

set_option maxHeartbeats 800000 in
theorem boundOf_v {k : Int} {n : Nat} {r : Int} (w : World) (hk : -9223372036854775808 ≤ k ∧ k ≤ 9223372036854775807) (hn : n ≤ 100) (hr : clp k n = r) :
    Calls Try.prog 86 #[.int .i64 k, .int .i64 n] w fun e w' => e = .returned (.int .i64 r) ∧ w = w' := by
  subst hr
  obtain ⟨hk0, hk1⟩ := hk
  go_enter Try.func86, Try.ntmps86
  by_cases h0 : k < 0
  · go_wp2
    all_goals go_ret
    all_goals refine ⟨ret_int ?_, rfl⟩
    all_goals unfold clp
    all_goals rw [if_pos h0]
    all_goals split
    all_goals omega
  · go_wp2
    all_goals go_ret
    all_goals refine ⟨ret_int ?_, rfl⟩
    all_goals unfold clp
    all_goals rw [if_neg (by omega)]
    all_goals split
    all_goals omega
set_option maxHeartbeats 800000 in
theorem clamp_v {k : Int} {n : Nat} {r : Int} (w : World) (hk : -9223372036854775808 ≤ k ∧ k ≤ 9223372036854775807) (hn : n ≤ 100) (hr : clp k n = r) :
    Calls Try.prog 88 #[.int .i64 k, .int .i64 n] w fun e w' => e = .returned (.int .i64 r) ∧ w = w' := by
  subst hr
  obtain ⟨hk0, hk1⟩ := hk
  go_enter Try.func88, Try.ntmps88
  by_cases h0 : k < 0
  · go_wp2
    all_goals go_ret
    all_goals refine ⟨ret_int ?_, rfl⟩
    all_goals unfold clp
    all_goals rw [if_pos h0]
    all_goals split
    all_goals omega
  · go_wp2
    all_goals go_ret
    all_goals refine ⟨ret_int ?_, rfl⟩
    all_goals unfold clp
    all_goals rw [if_neg (by omega)]
    all_goals split
    all_goals omega

/-- From place i on, ahead of place j. -/
def scanN (xs : List Int) (x : Int) (j i : Nat) : Int := if i < j then (if xs.getD i 0 = x then (i : Int) else scanN xs x j (i + 1)) else -1
termination_by j - i
theorem scan_hit {xs : List Int} {x : Int} {j i : Nat} (h : i < j) (hl : i < xs.length) (hx : xs[i] = x) : scanN xs x j i = i := by
  rw [scanN, if_pos h, if_pos (by simp [hl, hx])]
theorem scan_miss {xs : List Int} {x : Int} {j i : Nat} (h : i < j) (hl : i < xs.length) (hx : ¬ xs[i] = x) : scanN xs x j i = scanN xs x j (i + 1) := by
  rw [scanN, if_pos h, if_neg (by simp [hl, hx])]
theorem scan_end {xs : List Int} {x : Int} {j i : Nat} (h : ¬ i < j) : scanN xs x j i = -1 := by rw [scanN, if_neg h]
theorem scan_bd (xs : List Int) (x : Int) (j : Nat) : ∀ (n i : Nat), j - i ≤ n → -1 ≤ scanN xs x j i ∧ (0 ≤ scanN xs x j i → scanN xs x j i < j) := by
  intro n
  induction n with
  | zero => intro i h; rw [scan_end (by omega)]; omega
  | succ n ih =>
    intro i h
    by_cases hlt : i < j
    · rw [scanN, if_pos hlt]
      split
      · omega
      · exact ih (i + 1) (by omega)
    · rw [scan_end hlt]; omega
def idxD (xs : List Int) (m x f t : Int) : Int := if validD xs m = true then scanN xs x (clp t xs.length).toNat (clp f xs.length).toNat else -1
theorem idxD_bd (xs : List Int) (m x f t : Int) : -1 ≤ idxD xs m x f t ∧ (0 ≤ idxD xs m x f t → idxD xs m x f t < xs.length ∧ validD xs m = true) := by
  unfold idxD
  split
  · rename_i h
    have h1 := scan_bd xs x (clp t xs.length).toNat _ (clp f xs.length).toNat (Nat.le_refl _)
    have h2 := (clp_bd (k := t) (n := (xs.length : Int)) (by omega))
    exact ⟨h1.1, fun h0 => ⟨by have := h1.2 h0; omega, h⟩⟩
  · exact ⟨by omega, fun h0 => by omega⟩

end Go.Proofs.Ytoglgeinnocfjaa
/-
  Functions over a deque: what they all begin with; a deque that is checked.
-/
namespace Go.Proofs.Ytoglgeinnocfjaa
open Go.RowKit

/-- The argument's box and the result's, made first, and what is known while nothing is written there. -/
structure DFrame (W0 W : World) (v : Value) (m : Int) : Prop where
  arg : W.heap[W0.heap.size]? = some (.cells #[v, .int .i64 m] 25 (0, 0))
  res : W.heap[W0.heap.size + 1]? = some (.cells #[.slice none 0 0, .int .i64 0] 25 (0, 0))
  below : Below W0.heap.size W0 W
theorem DFrame.new (w : World) (v : Value) (m : Int) : DFrame w ((w.alloc (.cells #[v, .int .i64 m] 25)).alloc (.cells #[.slice none 0 0, .int .i64 0] 25)) v m :=
  ⟨heap_old (heap_new w _) _, heap_at _ _ (by simp), ((Below.refl _ _).alloc (Nat.le_refl _) _).alloc (by simp) _⟩
section
variable {W0 W : World} {v : Value} {m : Int}
theorem DFrame.size (D : DFrame W0 W v m) : W0.heap.size + 2 ≤ W.heap.size := by
  have := (Array.getElem?_eq_some_iff.1 D.res).1
  omega
theorem DFrame.past (D : DFrame W0 W v m) {B : Nat} {W' : World} (hb : Below B W W') (hB : W0.heap.size + 2 ≤ B) : DFrame W0 W' v m :=
  ⟨(hb.block _ (by omega)).trans D.arg, (hb.block _ (by omega)).trans D.res, D.below.trans (hb.mono (by omega))⟩
theorem DFrame.step (D : DFrame W0 W v m) {W' : World} (hb : Below W.heap.size W W') : DFrame W0 W' v m := D.past hb D.size
theorem DFrame.c0 (D : DFrame W0 W v m) : W.cell? ⟨W0.heap.size, 0, none⟩ = some v := two_cell0 D.arg
theorem DFrame.c1 (D : DFrame W0 W v m) : W.cell? ⟨W0.heap.size, 1, none⟩ = some (.int .i64 m) := two_cell1 D.arg
theorem DFrame.r0 (D : DFrame W0 W v m) : W.cell? ⟨W0.heap.size + 1, 0, none⟩ = some (.slice none 0 0) := two_cell0 D.res
theorem DFrame.r1 (D : DFrame W0 W v m) : W.cell? ⟨W0.heap.size + 1, 1, none⟩ = some (.int .i64 0) := two_cell1 D.res
theorem DFrame.free (D : DFrame W0 W v m) (j : Nat) : W.frozen? ⟨W0.heap.size + 1, j, none⟩ = false := two_free D.res j
theorem DFrame.nums (D : DFrame W0 W v m) {u : Value} {xs : List Int} (h : Nums W0 u xs) : Nums W u xs := h.mono D.below (Nat.le_refl _)
theorem DFrame.done (D : DFrame W0 W v m) (a b : Value) : Below W0.heap.size W0 ((W.setCell ⟨W0.heap.size + 1, 0, none⟩ a).setCell ⟨W0.heap.size + 1, 1, none⟩ b) := (D.below.setCell (by simp) _).setCell (by simp) _
/-- What lies behind the boxes stays where the result is written. -/
theorem DFrame.own (_D : DFrame W0 W v m) {lo : Nat} {u : Value} {xs : List Int} (h : OwnN lo W.heap.size W u xs) (hlo : W0.heap.size + 2 ≤ lo) (a b : Value) :
    OwnN W0.heap.size ((W.setCell ⟨W0.heap.size + 1, 0, none⟩ a).setCell ⟨W0.heap.size + 1, 1, none⟩ b).heap.size ((W.setCell ⟨W0.heap.size + 1, 0, none⟩ a).setCell ⟨W0.heap.size + 1, 1, none⟩ b) u xs :=
  (h.keeps (((Keeps.refl _ _).setCell (by simp [In]; omega) _).setCell (by simp [In]; omega) _)).wide (by omega) (by simp)
end
def okD (v : Value) (m : Int) (b : Bool) : Value := .tuple #[.agg #[v, .int .i64 m], .bool b]
def chkN (xs : List Int) (m : Int) : List Int := if validD xs m = true then xs else []
def chkM (xs : List Int) (m : Int) : Int := if validD xs m = true then m else 0
theorem chkN_le (xs : List Int) (m : Int) : (chkN xs m).length ≤ 10000000 := by
  unfold chkN
  split
  · rename_i h
    have := validD_len h
    omega
  · simp

set_option maxHeartbeats 800000 in
set_option maxRecDepth 100000 in
theorem schkD_any {lo hi : Nat} (v : Value) (xs : List Int) (m : Int) (w : World) (h : OwnN lo hi w v xs) (hhi : hi ≤ w.heap.size) :
    Calls Try.prog 82 #[.agg #[v, .int .i64 m]] w fun e w' => ∃ v', e = .returned (.tuple #[.agg #[v', .int .i64 (chkM xs m)], .bool (validD xs m)]) ∧ OwnN lo w'.heap.size w' v' (chkN xs m) ∧ Below w.heap.size w w' := by
  have HO := Lib.hid h
  have HX := Lib.hid h.nums
  obtain ⟨ao, cap, rfl, _, _⟩ := h.nums.slice
  clear h
  go_enter Try.func82, Try.ntmps82
  have D := DFrame.new w (.slice ao xs.length cap) m
  have c0 := D.c0
  have c1 := D.c1
  cases hv : validD xs m
  all_goals
    have HV := Lib.hid hv
    clear hv
    go_wp2_with fail
    refine (svD_v _ (D.nums HX.out) HV.out).mono ?_
    rintro e w1 ⟨rfl, hb⟩
    have D1 := D.step hb
    clear hb c0 c1
    have c0 := D1.c0
    have c1 := D1.c1
    have r0 := D1.r0
    have r1 := D1.r1
    have f0 := D1.free 0
    have f1 := D1.free 1
    go_wp2
  · exact bodyPost_ret (v := okD (.slice none 0 0) 0 false) (by simp [okD, results, Try.results82, go_sem, r0, r1]) rfl ⟨_, by unfold chkM; rw [HV.out]; rfl, by unfold chkN; rw [HV.out]; exact OwnN.none (by omega), D1.done _ _⟩
  · exact bodyPost_ret (v := okD (.slice ao xs.length cap) m true) (by simp [okD, results, Try.results82, go_sem, r0, r1]) rfl ⟨_, by unfold chkM; rw [HV.out]; rfl, by
      unfold chkN
      rw [HV.out]
      have hd := D1.done (.slice ao xs.length cap) (.int .i64 m)
      exact (HO.out.keeps (Keeps.of_below hd (fun j hj => Nat.lt_of_lt_of_le hj.2 hhi))).wide (Nat.le_refl _) (Nat.le_trans hhi hd.size), D1.done _ _⟩

set_option maxHeartbeats 800000 in
set_option maxRecDepth 100000 in
theorem chkD_any {lo hi : Nat} (v : Value) (xs : List Int) (m : Int) (w : World) (h : OwnN lo hi w v xs) (hhi : hi ≤ w.heap.size) :
    Calls Try.prog 79 #[.agg #[v, .int .i64 m]] w fun e w' => ∃ v', e = .returned (.tuple #[.agg #[v', .int .i64 (chkM xs m)], .bool (validD xs m)]) ∧ OwnN lo w'.heap.size w' v' (chkN xs m) ∧ Below w.heap.size w w' := by
  have HO := Lib.hid h
  have HX := Lib.hid h.nums
  obtain ⟨ao, cap, rfl, _, _⟩ := h.nums.slice
  clear h
  go_enter Try.func79, Try.ntmps79
  have D := DFrame.new w (.slice ao xs.length cap) m
  have c0 := D.c0
  have c1 := D.c1
  cases hv : validD xs m
  all_goals
    have HV := Lib.hid hv
    clear hv
    go_wp2_with fail
    refine (VD_v _ (D.nums HX.out) HV.out).mono ?_
    rintro e w1 ⟨rfl, hb⟩
    have D1 := D.step hb
    clear hb c0 c1
    have c0 := D1.c0
    have c1 := D1.c1
    have r0 := D1.r0
    have r1 := D1.r1
    have f0 := D1.free 0
    have f1 := D1.free 1
    go_wp2
  · exact bodyPost_ret (v := okD (.slice none 0 0) 0 false) (by simp [okD, results, Try.results79, go_sem, r0, r1]) rfl ⟨_, by unfold chkM; rw [HV.out]; rfl, by unfold chkN; rw [HV.out]; exact OwnN.none (by omega), D1.done _ _⟩
  · exact bodyPost_ret (v := okD (.slice ao xs.length cap) m true) (by simp [okD, results, Try.results79, go_sem, r0, r1]) rfl ⟨_, by unfold chkM; rw [HV.out]; rfl, by
      unfold chkN
      rw [HV.out]
      have hd := D1.done (.slice ao xs.length cap) (.int .i64 m)
      exact (HO.out.keeps (Keeps.of_below hd (fun j hj => Nat.lt_of_lt_of_le hj.2 hhi))).wide (Nat.le_refl _) (Nat.le_trans hhi hd.size), D1.done _ _⟩
end Go.Proofs.Ytoglgeinnocfjaa
/-
  The first place of a number, reckoned.
-/
namespace Go.Proofs.Ytoglgeinnocfjaa
open Go.RowKit

theorem scan_spec (xs : List Int) (x : Int) (j : Nat) : ∀ (n i : Nat), j - i ≤ n →
    (scanN xs x j i = -1 ∧ ∀ k, i ≤ k → k < j → xs.getD k 0 ≠ x) ∨ (∃ k : Nat, scanN xs x j i = (k : Int) ∧ i ≤ k ∧ k < j ∧ xs.getD k 0 = x ∧ ∀ l, i ≤ l → l < k → xs.getD l 0 ≠ x) := by
  intro n
  induction n with
  | zero =>
    intro i h
    exact .inl ⟨scan_end (by omega), fun k h1 h2 => by omega⟩
  | succ n ih =>
    intro i h
    by_cases hlt : i < j
    · rw [scanN, if_pos hlt]
      by_cases hx : xs.getD i 0 = x
      · rw [if_pos hx]
        exact .inr ⟨i, rfl, Nat.le_refl _, hlt, hx, fun l h1 h2 => by omega⟩
      · rw [if_neg hx]
        rcases ih (i + 1) (by omega) with ⟨e, hn⟩ | ⟨k, e, h1, h2, h3, h4⟩
        · refine .inl ⟨e, fun k hk hkj => ?_⟩
          by_cases hki : k = i
          · rw [hki]; exact hx
          · exact hn k (by omega) hkj
        · refine .inr ⟨k, e, by omega, h2, h3, fun l hl hlk => ?_⟩
          by_cases hli : l = i
          · rw [hli]; exact hx
          · exact h4 l (by omega) hlk
    · exact .inl ⟨scan_end hlt, fun k h1 h2 => by omega⟩
theorem clp_zero (n : Nat) : (clp 0 (n : Int)).toNat = 0 := by
  unfold clp
  rw [if_neg (by omega)]
  split <;> omega
theorem clp_all (n : Nat) : (clp (n : Int) (n : Int)).toNat = n := by
  unfold clp
  rw [if_neg (by omega), if_neg (by omega)]
  omega
theorem clp_in {j n : Nat} (h : j < n) : (clp (j : Int) (n : Int)).toNat = j := by
  unfold clp
  rw [if_neg (by omega), if_pos (by omega)]
  omega
theorem getD_at {xs : List Int} {k : Nat} (hk : k < xs.length) : xs.getD k 0 = xs[k] := by simp [hk]
theorem ix_cases {xs : List Int} {m : Int} (h : validD xs m = true) (x f t : Int) :
    (idxD xs m x 0 xs.length = -1 ∧ cntD xs m x = 0 ∧ idxD xs m x f t = -1) ∨
    (0 ≤ idxD xs m x 0 xs.length ∧ 0 < cntD xs m x ∧ idxD xs m x f t = -1) ∨
    (∃ (j : Nat) (hj : j < xs.length), idxD xs m x f t = (j : Int) ∧ xs[j] = x ∧ 0 ≤ idxD xs m x 0 xs.length ∧ idxD xs m x 0 xs.length ≤ (j : Int) ∧ 0 < cntD xs m x ∧ idxD xs m x f (j : Int) = -1) := by
  have hT := (clp_bd (k := t) (n := (xs.length : Int)) (by omega)).2
  unfold idxD cntD
  rw [h, if_pos rfl, if_pos rfl, if_pos rfl, clp_zero, clp_all]
  obtain ⟨F, hF⟩ : ∃ F, F = (clp f (xs.length : Int)).toNat := ⟨_, rfl⟩
  obtain ⟨T, hTe⟩ : ∃ T, T = (clp t (xs.length : Int)).toNat := ⟨_, rfl⟩
  have hTl : T ≤ xs.length := by omega
  rw [← hF, ← hTe]
  unfold cntN
  have hW := scan_spec xs x xs.length _ 0 (Nat.le_refl _)
  have hO := scan_spec xs x T _ F (Nat.le_refl _)
  have pos : ∀ k, k < xs.length → xs.getD k 0 = x → 0 < xs.count x := fun k hk e => by
    rw [getD_at hk] at e
    exact List.count_pos_iff.2 (e ▸ List.getElem_mem hk)
  rcases hW with ⟨eW, hn⟩ | ⟨kw, eW, hw1, hw2, hw3, hw4⟩
  · have hc : xs.count x = 0 := by
      rw [List.count_eq_zero]
      intro hm
      obtain ⟨k, hk, e⟩ := List.getElem_of_mem hm
      exact hn k (by omega) hk (by rw [getD_at hk]; exact e)
    rcases hO with ⟨eO, _⟩ | ⟨ko, eO, ho1, ho2, ho3, _⟩
    · exact .inl ⟨eW, by rw [hc]; rfl, eO⟩
    · exact absurd ho3 (hn ko (by omega) (by omega))
  · have hc := pos kw hw2 hw3
    rcases hO with ⟨eO, _⟩ | ⟨ko, eO, ho1, ho2, ho3, ho4⟩
    · exact .inr (.inl ⟨by rw [eW]; omega, by omega, eO⟩)
    · have hkl : ko < xs.length := by omega
      refine .inr (.inr ⟨ko, hkl, eO, by rw [← getD_at hkl]; exact ho3, by rw [eW]; omega, ?_, by omega, ?_⟩)
      · rw [eW]
        by_cases hlt : ko < kw
        · exact absurd ho3 (hw4 ko (by omega) hlt)
        · omega
      · rw [if_pos rfl, clp_in hkl]
        rcases scan_spec xs x ko _ F (Nat.le_refl _) with ⟨e, _⟩ | ⟨l, _, hl1, hl2, hl3, _⟩
        · exact e
        · exact absurd hl3 (ho4 l hl1 hl2)
end Go.Proofs.Ytoglgeinnocfjaa
