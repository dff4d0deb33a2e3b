/-
  Plain, Sums.
-/
import Derived.Test.YtoglgeinnocfjaaRows
/-
  Counts as lists of keys with numbers: plain mathematics, no program.
-/
namespace Go.Proofs.Ytoglgeinnocfjaa

abbrev Itm := ByteArray × Int

def letterB (c : UInt8) : Bool := decide (97 ≤ c.toNat) && decide (c.toNat ≤ 122)
def lettersB (l : List UInt8) : Bool := l.all letterB
def keyB (s : ByteArray) : Bool := lettersB s.data.toList && (decide (1 ≤ s.size) && decide (s.size ≤ 4))
def numB (n : Int) : Bool := decide (-9999 ≤ n) && decide (n ≤ 9999)

/-- Is the key there? -/
def hasI : List Itm → ByteArray → Bool
  | [], _ => false
  | x :: r, k => decide (x.1 = k) || hasI r k

/-- The number of a key, 0 where it is not there. -/
def cnt : List Itm → ByteArray → Int
  | [], _ => 0
  | x :: r, k => if x.1 = k then x.2 else cnt r k

/-- A number for a key, in its place or behind all others. -/
def putI : List Itm → ByteArray → Int → List Itm
  | [], k, n => [(k, n)]
  | x :: r, k, n => if x.1 = k then (k, n) :: r else x :: putI r k n

/-- Without the key. -/
def delI : List Itm → ByteArray → List Itm
  | [], _ => []
  | x :: r, k => if x.1 = k then r else x :: delI r k

/-- No key twice. -/
def uniqI : List Itm → Bool
  | [] => true
  | x :: r => !hasI r x.1 && uniqI r

theorem hasI_append (a b : List Itm) (k : ByteArray) : hasI (a ++ b) k = (hasI a k || hasI b k) := by
  induction a with
  | nil => simp [hasI]
  | cons x r ih => simp [hasI, ih, Bool.or_assoc]

theorem cnt_append (a b : List Itm) (k : ByteArray) : cnt (a ++ b) k = if hasI a k then cnt a k else cnt b k := by
  induction a with
  | nil => simp [hasI]
  | cons x r ih =>
    simp only [List.cons_append, cnt, hasI, ih]
    by_cases h : x.1 = k <;> simp [h]

theorem hasI_mem {l : List Itm} {k : ByteArray} : hasI l k = true ↔ ∃ x ∈ l, x.1 = k := by
  induction l with
  | nil => simp [hasI]
  | cons x r ih => simp [hasI, ih]

theorem hasI_putI (l : List Itm) (k k' : ByteArray) (n : Int) : hasI (putI l k n) k' = (decide (k = k') || hasI l k') := by
  induction l with
  | nil => simp [putI, hasI]
  | cons x r ih =>
    unfold putI
    split
    · rename_i h
      simp only [hasI, ← h]
      cases decide (x.1 = k') <;> simp
    · simp only [hasI, ih]
      cases decide (x.1 = k') <;> cases decide (k = k') <;> simp

theorem cnt_putI_same (l : List Itm) (k : ByteArray) (n : Int) : cnt (putI l k n) k = n := by
  induction l with
  | nil => simp [putI, cnt]
  | cons x r ih =>
    unfold putI
    split
    · simp [cnt]
    · rename_i h; simp [cnt, h, ih]

theorem cnt_putI_other (l : List Itm) (k k' : ByteArray) (n : Int) (h : k' ≠ k) : cnt (putI l k n) k' = cnt l k' := by
  induction l with
  | nil => simp [putI, cnt, h.symm]
  | cons x r ih =>
    unfold putI
    split
    · rename_i hx
      have : ¬ x.1 = k' := fun e => h (e.symm.trans hx)
      simp [cnt, h.symm, this]
    · simp only [cnt, ih]

theorem cnt_none {l : List Itm} {k : ByteArray} (h : hasI l k = false) : cnt l k = 0 := by
  induction l with
  | nil => rfl
  | cons x r ih =>
    simp only [hasI, Bool.or_eq_false_iff, decide_eq_false_iff_not] at h
    simp [cnt, h.1, ih h.2]

theorem putI_new {l : List Itm} {k : ByteArray} {n : Int} (h : hasI l k = false) : putI l k n = l ++ [(k, n)] := by
  induction l with
  | nil => rfl
  | cons x r ih =>
    simp only [hasI, Bool.or_eq_false_iff, decide_eq_false_iff_not] at h
    simp [putI, h.1, ih h.2]

theorem putI_keys {l : List Itm} {k : ByteArray} {n : Int} (h : hasI l k = true) : (putI l k n).map (·.1) = l.map (·.1) := by
  induction l with
  | nil => simp [hasI] at h
  | cons x r ih =>
    unfold putI
    split
    · rename_i hx; simp [hx]
    · rename_i hx
      simp only [hasI, hx, decide_false, Bool.false_or] at h
      simp [ih h]

theorem putI_length (l : List Itm) (k : ByteArray) (n : Int) : (putI l k n).length = if hasI l k then l.length else l.length + 1 := by
  cases h : hasI l k
  · simp [putI_new h]
  · have := congrArg List.length (putI_keys (n := n) h)
    simpa using this

theorem uniqI_putI {l : List Itm} (k : ByteArray) (n : Int) (h : uniqI l = true) : uniqI (putI l k n) = true := by
  induction l with
  | nil => simp [putI, uniqI, hasI]
  | cons x r ih =>
    simp only [uniqI, Bool.and_eq_true, Bool.not_eq_true'] at h
    unfold putI
    split
    · rename_i hx; simp [uniqI, ← hx, h.1, h.2]
    · rename_i hx
      simp only [uniqI, hasI_putI, ih h.2, h.1, Bool.or_false, Bool.and_true, Bool.not_eq_true']
      simp [Ne.symm hx]

theorem hasI_delI {l : List Itm} (k k' : ByteArray) (h : uniqI l = true) : hasI (delI l k) k' = (!decide (k = k') && hasI l k') := by
  induction l with
  | nil => simp [delI, hasI]
  | cons x r ih =>
    simp only [uniqI, Bool.and_eq_true, Bool.not_eq_true'] at h
    unfold delI
    split
    · rename_i hx
      subst hx
      simp only [hasI]
      by_cases e : x.1 = k'
      · subst e; simp [h.1]
      · simp [e]
    · rename_i hx
      simp only [hasI, ih h.2]
      by_cases e : x.1 = k'
      · have : ¬ k = k' := fun e' => hx (e.trans e'.symm)
        simp [e, this]
      · simp [e]

theorem cnt_delI_other (l : List Itm) (k k' : ByteArray) (h : k' ≠ k) : cnt (delI l k) k' = cnt l k' := by
  induction l with
  | nil => rfl
  | cons x r ih =>
    unfold delI
    split
    · rename_i hx
      have : ¬ x.1 = k' := fun e => h (e.symm.trans hx)
      simp [cnt, this]
    · simp only [cnt, ih]

theorem uniqI_delI {l : List Itm} (k : ByteArray) (h : uniqI l = true) : uniqI (delI l k) = true := by
  induction l with
  | nil => rfl
  | cons x r ih =>
    have h0 := h
    simp only [uniqI, Bool.and_eq_true, Bool.not_eq_true'] at h
    unfold delI
    split
    · exact h.2
    · simp [uniqI, ih h.2, hasI_delI k x.1 h.2, h.1]

theorem delI_length {l : List Itm} (k : ByteArray) : (delI l k).length + (if hasI l k then 1 else 0) = l.length := by
  induction l with
  | nil => simp [delI, hasI]
  | cons x r ih =>
    unfold delI
    split
    · rename_i hx; simp [hasI, hx]
    · rename_i hx; simp only [hasI, hx, decide_false, Bool.false_or, List.length_cons]; omega

/-! ### validity -/
/-- Good items, each with a key that is not among those seen. -/
def goodI : List Itm → List Itm → Bool
  | _, [] => true
  | seen, x :: r => (keyB x.1 && !hasI seen x.1 && numB x.2) && goodI (seen ++ [x]) r

def validI (l : List Itm) : Bool := goodI [] l && decide (l.length ≤ 8)

theorem goodI_iff (l : List Itm) : ∀ seen, goodI seen l = true ↔ (∀ x ∈ l, keyB x.1 = true ∧ numB x.2 = true ∧ hasI seen x.1 = false) ∧ uniqI l = true := by
  induction l with
  | nil => intro seen; simp [goodI, uniqI]
  | cons x r ih =>
    intro seen
    simp only [goodI, Bool.and_eq_true, Bool.not_eq_true', ih, uniqI, List.mem_cons, hasI_append, hasI, Bool.or_false, Bool.or_eq_false_iff, decide_eq_false_iff_not]
    constructor
    · rintro ⟨⟨⟨h1, h2⟩, h3⟩, h4, h5⟩
      refine ⟨?_, ?_, h5⟩
      · rintro y (rfl | hy)
        · exact ⟨h1, h3, h2⟩
        · exact ⟨(h4 y hy).1, (h4 y hy).2.1, (h4 y hy).2.2.1⟩
      · cases hh : hasI r x.1
        · rfl
        · obtain ⟨y, hy, e⟩ := hasI_mem.1 hh
          exact absurd e.symm (h4 y hy).2.2.2
    · rintro ⟨h1, h2, h5⟩
      refine ⟨⟨⟨(h1 x (.inl rfl)).1, (h1 x (.inl rfl)).2.2⟩, (h1 x (.inl rfl)).2.1⟩, fun y hy => ⟨(h1 y (.inr hy)).1, (h1 y (.inr hy)).2.1, (h1 y (.inr hy)).2.2, fun e => ?_⟩, h5⟩
      have := hasI_mem.2 ⟨y, hy, e.symm⟩
      rw [h2] at this
      cases this

theorem validI_iff (l : List Itm) : validI l = true ↔ (∀ x ∈ l, keyB x.1 = true ∧ numB x.2 = true) ∧ uniqI l = true ∧ l.length ≤ 8 := by
  simp only [validI, Bool.and_eq_true, goodI_iff, decide_eq_true_eq, hasI, and_true]
  constructor
  · rintro ⟨⟨a, b⟩, c⟩; exact ⟨a, b, c⟩
  · rintro ⟨a, b, c⟩; exact ⟨⟨a, b⟩, c⟩

theorem numB_iff {n : Int} : numB n = true ↔ -9999 ≤ n ∧ n ≤ 9999 := by simp [numB]

/-! ### sums -/
/-- Counts with those of b, times over, added one by one. -/
def addAll (t : List Itm) (b : List Itm) (m : Int) : List Itm := b.foldl (fun t x => putI t x.1 (cnt t x.1 + x.2 * m)) t

def posI (l : List Itm) : List Itm := l.filter fun x => decide (0 < x.2)
def nzI (l : List Itm) : List Itm := l.filter fun x => decide (x.2 ≠ 0)
def sumI : List Itm → Int
  | [] => 0
  | x :: r => x.2 + sumI r
def restI (b a : List Itm) : List Itm := b.filter fun x => !hasI a x.1

end Go.Proofs.Ytoglgeinnocfjaa
/-
  Sums of counts: plain mathematics.
-/
namespace Go.Proofs.Ytoglgeinnocfjaa

def cntLe (t : List Itm) (M : Int) : Prop := ∀ s, -M ≤ cnt t s ∧ cnt t s ≤ M
def smallI (b : List Itm) (m : Int) : Prop := b.length ≤ 40 ∧ ∀ x ∈ b, -1000000000 ≤ x.2 * m ∧ x.2 * m ≤ 1000000000

theorem cntLe_nil : cntLe [] 0 := fun _ => by simp [cnt]
theorem cntLe_put {t : List Itm} {M D d : Int} (h : cntLe t M) (k : ByteArray) (h1 : -D ≤ d) (h2 : d ≤ D) : cntLe (putI t k (cnt t k + d)) (M + D) := by
  intro s
  by_cases e : s = k
  · subst e
    rw [cnt_putI_same]
    have := h s
    omega
  · rw [cnt_putI_other _ _ _ _ e]
    have := h s
    omega
theorem addAll_snoc (t b : List Itm) (x : Itm) (m : Int) : addAll t (b ++ [x]) m = putI (addAll t b m) x.1 (cnt (addAll t b m) x.1 + x.2 * m) := by simp [addAll]
theorem addAll_take {t b : List Itm} {m : Int} {k : Nat} (h : k < b.length) : addAll t (b.take (k + 1)) m = putI (addAll t (b.take k) m) b[k].1 (cnt (addAll t (b.take k) m) b[k].1 + b[k].2 * m) := by
  rw [List.take_succ_eq_append_getElem h, addAll_snoc]
theorem addAll_length (b : List Itm) (m : Int) : ∀ t : List Itm, (addAll t b m).length ≤ t.length + b.length := by
  induction b with
  | nil => intro t; simp [addAll]
  | cons x r ih =>
    intro t
    have h1 := ih (putI t x.1 (cnt t x.1 + x.2 * m))
    have h2 := putI_length t x.1 (cnt t x.1 + x.2 * m)
    have e : addAll t (x :: r) m = addAll (putI t x.1 (cnt t x.1 + x.2 * m)) r m := rfl
    rw [e, List.length_cons]
    split at h2 <;> omega
theorem addAll_le (b : List Itm) (m : Int) (hb : ∀ x ∈ b, -1000000000 ≤ x.2 * m ∧ x.2 * m ≤ 1000000000) : ∀ (t : List Itm) (M : Int), cntLe t M → cntLe (addAll t b m) (M + b.length * 1000000000) := by
  induction b with
  | nil => intro t M h; simpa [addAll] using h
  | cons x r ih =>
    intro t M h
    have hx := hb x (by simp)
    have h1 := ih (fun y hy => hb y (by simp [hy])) _ _ (cntLe_put (D := 1000000000) (d := x.2 * m) h x.1 (by omega) (by omega))
    have e : addAll t (x :: r) m = addAll (putI t x.1 (cnt t x.1 + x.2 * m)) r m := rfl
    rw [e]
    intro s
    have := h1 s
    simp only [List.length_cons]
    omega
theorem take_small {b : List Itm} {m : Int} (h : smallI b m) (k : Nat) : smallI (b.take k) m :=
  ⟨by have := h.1; simp; omega, fun x hx => h.2 x (List.mem_of_mem_take hx)⟩
theorem uniqI_addAll (b : List Itm) (m : Int) : ∀ t : List Itm, uniqI t = true → uniqI (addAll t b m) = true := by
  induction b with
  | nil => intro t h; exact h
  | cons x r ih => intro t h; exact ih _ (uniqI_putI _ _ h)
/-- Once round a, times over b. -/
def sumL (a b : List Itm) (m : Int) : List Itm := addAll (addAll [] a 1) b m

end Go.Proofs.Ytoglgeinnocfjaa
