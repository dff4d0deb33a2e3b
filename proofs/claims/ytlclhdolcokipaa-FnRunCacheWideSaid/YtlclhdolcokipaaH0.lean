/-
  Plain, Sums, Ord.
-/
import Derived.Test.YtlclhdolcokipaaRows
/-
  Counts as lists of keys with numbers: plain mathematics, no program.
-/
namespace Go.Proofs.Ytlclhdolcokipaa

abbrev Itm := ByteArray × Int

def letterB (c : UInt8) : Bool := decide (97 ≤ c.toNat) && decide (c.toNat ≤ 122)
def lettersB (l : List UInt8) : Bool := l.all letterB
def keyB (s : ByteArray) : Bool := lettersB s.data.toList && (decide (1 ≤ s.size) && decide (s.size ≤ 4))
def numB (n : Int) : Bool := decide (-9999 ≤ n) && decide (n ≤ 9999)

/-- Is the key there? -/
def hasI : List Itm → ByteArray → Bool
  | [], _ => false
  | x :: r, k => decide (x.1 = k) || hasI r k

/-- The number of a key, 0 where it is not there. -/
def cnt : List Itm → ByteArray → Int
  | [], _ => 0
  | x :: r, k => if x.1 = k then x.2 else cnt r k

/-- A number for a key, in its place or behind all others. -/
def putI : List Itm → ByteArray → Int → List Itm
  | [], k, n => [(k, n)]
  | x :: r, k, n => if x.1 = k then (k, n) :: r else x :: putI r k n

/-- Without the key. -/
def delI : List Itm → ByteArray → List Itm
  | [], _ => []
  | x :: r, k => if x.1 = k then r else x :: delI r k

/-- No key twice. -/
def uniqI : List Itm → Bool
  | [] => true
  | x :: r => !hasI r x.1 && uniqI r

theorem hasI_append (a b : List Itm) (k : ByteArray) : hasI (a ++ b) k = (hasI a k || hasI b k) := by
  induction a with
  | nil => simp [hasI]
  | cons x r ih => simp [hasI, ih, Bool.or_assoc]

theorem cnt_append (a b : List Itm) (k : ByteArray) : cnt (a ++ b) k = if hasI a k then cnt a k else cnt b k := by
  induction a with
  | nil => simp [hasI]
  | cons x r ih =>
    simp only [List.cons_append, cnt, hasI, ih]
    by_cases h : x.1 = k <;> simp [h]

theorem hasI_mem {l : List Itm} {k : ByteArray} : hasI l k = true ↔ ∃ x ∈ l, x.1 = k := by
  induction l with
  | nil => simp [hasI]
  | cons x r ih => simp [hasI, ih]

theorem hasI_putI (l : List Itm) (k k' : ByteArray) (n : Int) : hasI (putI l k n) k' = (decide (k = k') || hasI l k') := by
  induction l with
  | nil => simp [putI, hasI]
  | cons x r ih =>
    unfold putI
    split
    · rename_i h
      simp only [hasI, ← h]
      cases decide (x.1 = k') <;> simp
    · simp only [hasI, ih]
      cases decide (x.1 = k') <;> cases decide (k = k') <;> simp

theorem cnt_putI_same (l : List Itm) (k : ByteArray) (n : Int) : cnt (putI l k n) k = n := by
  induction l with
  | nil => simp [putI, cnt]
  | cons x r ih =>
    unfold putI
    split
    · simp [cnt]
    · rename_i h; simp [cnt, h, ih]

theorem cnt_putI_other (l : List Itm) (k k' : ByteArray) (n : Int) (h : k' ≠ k) : cnt (putI l k n) k' = cnt l k' := by
  induction l with
  | nil => simp [putI, cnt, h.symm]
  | cons x r ih =>
    unfold putI
    split
    · rename_i hx
      have : ¬ x.1 = k' := fun e => h (e.symm.trans hx)
      simp [cnt, h.symm, this]
    · simp only [cnt, ih]

theorem cnt_none {l : List Itm} {k : ByteArray} (h : hasI l k = false) : cnt l k = 0 := by
  induction l with
  | nil => rfl
  | cons x r ih =>
    simp only [hasI, Bool.or_eq_false_iff, decide_eq_false_iff_not] at h
    simp [cnt, h.1, ih h.2]

theorem putI_new {l : List Itm} {k : ByteArray} {n : Int} (h : hasI l k = false) : putI l k n = l ++ [(k, n)] := by
  induction l with
  | nil => rfl
  | cons x r ih =>
    simp only [hasI, Bool.or_eq_false_iff, decide_eq_false_iff_not] at h
    simp [putI, h.1, ih h.2]

theorem putI_keys {l : List Itm} {k : ByteArray} {n : Int} (h : hasI l k = true) : (putI l k n).map (·.1) = l.map (·.1) := by
  induction l with
  | nil => simp [hasI] at h
  | cons x r ih =>
    unfold putI
    split
    · rename_i hx; simp [hx]
    · rename_i hx
      simp only [hasI, hx, decide_false, Bool.false_or] at h
      simp [ih h]

theorem putI_length (l : List Itm) (k : ByteArray) (n : Int) : (putI l k n).length = if hasI l k then l.length else l.length + 1 := by
  cases h : hasI l k
  · simp [putI_new h]
  · have := congrArg List.length (putI_keys (n := n) h)
    simpa using this

theorem uniqI_putI {l : List Itm} (k : ByteArray) (n : Int) (h : uniqI l = true) : uniqI (putI l k n) = true := by
  induction l with
  | nil => simp [putI, uniqI, hasI]
  | cons x r ih =>
    simp only [uniqI, Bool.and_eq_true, Bool.not_eq_true'] at h
    unfold putI
    split
    · rename_i hx; simp [uniqI, ← hx, h.1, h.2]
    · rename_i hx
      simp only [uniqI, hasI_putI, ih h.2, h.1, Bool.or_false, Bool.and_true, Bool.not_eq_true']
      simp [Ne.symm hx]

theorem hasI_delI {l : List Itm} (k k' : ByteArray) (h : uniqI l = true) : hasI (delI l k) k' = (!decide (k = k') && hasI l k') := by
  induction l with
  | nil => simp [delI, hasI]
  | cons x r ih =>
    simp only [uniqI, Bool.and_eq_true, Bool.not_eq_true'] at h
    unfold delI
    split
    · rename_i hx
      subst hx
      simp only [hasI]
      by_cases e : x.1 = k'
      · subst e; simp [h.1]
      · simp [e]
    · rename_i hx
      simp only [hasI, ih h.2]
      by_cases e : x.1 = k'
      · have : ¬ k = k' := fun e' => hx (e.trans e'.symm)
        simp [e, this]
      · simp [e]

theorem cnt_delI_other (l : List Itm) (k k' : ByteArray) (h : k' ≠ k) : cnt (delI l k) k' = cnt l k' := by
  induction l with
  | nil => rfl
  | cons x r ih =>
    unfold delI
    split
    · rename_i hx
      have : ¬ x.1 = k' := fun e => h (e.symm.trans hx)
      simp [cnt, this]
    · simp only [cnt, ih]

theorem uniqI_delI {l : List Itm} (k : ByteArray) (h : uniqI l = true) : uniqI (delI l k) = true := by
  induction l with
  | nil => rfl
  | cons x r ih =>
    have h0 := h
    simp only [uniqI, Bool.and_eq_true, Bool.not_eq_true'] at h
    unfold delI
    split
    · exact h.2
    · simp [uniqI, ih h.2, hasI_delI k x.1 h.2, h.1]

theorem delI_length {l : List Itm} (k : ByteArray) : (delI l k).length + (if hasI l k then 1 else 0) = l.length := by
  induction l with
  | nil => simp [delI, hasI]
  | cons x r ih =>
    unfold delI
    split
    · rename_i hx; simp [hasI, hx]
    · rename_i hx; simp only [hasI, hx, decide_false, Bool.false_or, List.length_cons]; omega

/-! ### validity -/
/-- Good items, each with a key that is not among those seen. -/
def goodI : List Itm → List Itm → Bool
  | _, [] => true
  | seen, x :: r => (keyB x.1 && !hasI seen x.1 && numB x.2) && goodI (seen ++ [x]) r

def validI (l : List Itm) : Bool := goodI [] l && decide (l.length ≤ 8)

theorem goodI_iff (l : List Itm) : ∀ seen, goodI seen l = true ↔ (∀ x ∈ l, keyB x.1 = true ∧ numB x.2 = true ∧ hasI seen x.1 = false) ∧ uniqI l = true := by
  induction l with
  | nil => intro seen; simp [goodI, uniqI]
  | cons x r ih =>
    intro seen
    simp only [goodI, Bool.and_eq_true, Bool.not_eq_true', ih, uniqI, List.mem_cons, hasI_append, hasI, Bool.or_false, Bool.or_eq_false_iff, decide_eq_false_iff_not]
    constructor
    · rintro ⟨⟨⟨h1, h2⟩, h3⟩, h4, h5⟩
      refine ⟨?_, ?_, h5⟩
      · rintro y (rfl | hy)
        · exact ⟨h1, h3, h2⟩
        · exact ⟨(h4 y hy).1, (h4 y hy).2.1, (h4 y hy).2.2.1⟩
      · cases hh : hasI r x.1
        · rfl
        · obtain ⟨y, hy, e⟩ := hasI_mem.1 hh
          exact absurd e.symm (h4 y hy).2.2.2
    · rintro ⟨h1, h2, h5⟩
      refine ⟨⟨⟨(h1 x (.inl rfl)).1, (h1 x (.inl rfl)).2.2⟩, (h1 x (.inl rfl)).2.1⟩, fun y hy => ⟨(h1 y (.inr hy)).1, (h1 y (.inr hy)).2.1, (h1 y (.inr hy)).2.2, fun e => ?_⟩, h5⟩
      have := hasI_mem.2 ⟨y, hy, e.symm⟩
      rw [h2] at this
      cases this

theorem validI_iff (l : List Itm) : validI l = true ↔ (∀ x ∈ l, keyB x.1 = true ∧ numB x.2 = true) ∧ uniqI l = true ∧ l.length ≤ 8 := by
  simp only [validI, Bool.and_eq_true, goodI_iff, decide_eq_true_eq, hasI, and_true]
  constructor
  · rintro ⟨⟨a, b⟩, c⟩; exact ⟨a, b, c⟩
  · rintro ⟨a, b, c⟩; exact ⟨⟨a, b⟩, c⟩

theorem numB_iff {n : Int} : numB n = true ↔ -9999 ≤ n ∧ n ≤ 9999 := by simp [numB]

/-! ### sums -/
/-- Counts with those of b, times over, added one by one. -/
def addAll (t : List Itm) (b : List Itm) (m : Int) : List Itm := b.foldl (fun t x => putI t x.1 (cnt t x.1 + x.2 * m)) t

def posI (l : List Itm) : List Itm := l.filter fun x => decide (0 < x.2)
def nzI (l : List Itm) : List Itm := l.filter fun x => decide (x.2 ≠ 0)
def sumI : List Itm → Int
  | [] => 0
  | x :: r => x.2 + sumI r
def restI (b a : List Itm) : List Itm := b.filter fun x => !hasI a x.1

end Go.Proofs.Ytlclhdolcokipaa
/-
  Sums of counts: plain mathematics.
-/
namespace Go.Proofs.Ytlclhdolcokipaa

def cntLe (t : List Itm) (M : Int) : Prop := ∀ s, -M ≤ cnt t s ∧ cnt t s ≤ M
def smallI (b : List Itm) (m : Int) : Prop := b.length ≤ 40 ∧ ∀ x ∈ b, -1000000000 ≤ x.2 * m ∧ x.2 * m ≤ 1000000000

theorem cntLe_nil : cntLe [] 0 := fun _ => by simp [cnt]
theorem cntLe_put {t : List Itm} {M D d : Int} (h : cntLe t M) (k : ByteArray) (h1 : -D ≤ d) (h2 : d ≤ D) : cntLe (putI t k (cnt t k + d)) (M + D) := by
  intro s
  by_cases e : s = k
  · subst e
    rw [cnt_putI_same]
    have := h s
    omega
  · rw [cnt_putI_other _ _ _ _ e]
    have := h s
    omega
theorem addAll_snoc (t b : List Itm) (x : Itm) (m : Int) : addAll t (b ++ [x]) m = putI (addAll t b m) x.1 (cnt (addAll t b m) x.1 + x.2 * m) := by simp [addAll]
theorem addAll_take {t b : List Itm} {m : Int} {k : Nat} (h : k < b.length) : addAll t (b.take (k + 1)) m = putI (addAll t (b.take k) m) b[k].1 (cnt (addAll t (b.take k) m) b[k].1 + b[k].2 * m) := by
  rw [List.take_succ_eq_append_getElem h, addAll_snoc]
theorem addAll_length (b : List Itm) (m : Int) : ∀ t : List Itm, (addAll t b m).length ≤ t.length + b.length := by
  induction b with
  | nil => intro t; simp [addAll]
  | cons x r ih =>
    intro t
    have h1 := ih (putI t x.1 (cnt t x.1 + x.2 * m))
    have h2 := putI_length t x.1 (cnt t x.1 + x.2 * m)
    have e : addAll t (x :: r) m = addAll (putI t x.1 (cnt t x.1 + x.2 * m)) r m := rfl
    rw [e, List.length_cons]
    split at h2 <;> omega
theorem addAll_le (b : List Itm) (m : Int) (hb : ∀ x ∈ b, -1000000000 ≤ x.2 * m ∧ x.2 * m ≤ 1000000000) : ∀ (t : List Itm) (M : Int), cntLe t M → cntLe (addAll t b m) (M + b.length * 1000000000) := by
  induction b with
  | nil => intro t M h; simpa [addAll] using h
  | cons x r ih =>
    intro t M h
    have hx := hb x (by simp)
    have h1 := ih (fun y hy => hb y (by simp [hy])) _ _ (cntLe_put (D := 1000000000) (d := x.2 * m) h x.1 (by omega) (by omega))
    have e : addAll t (x :: r) m = addAll (putI t x.1 (cnt t x.1 + x.2 * m)) r m := rfl
    rw [e]
    intro s
    have := h1 s
    simp only [List.length_cons]
    omega
theorem take_small {b : List Itm} {m : Int} (h : smallI b m) (k : Nat) : smallI (b.take k) m :=
  ⟨by have := h.1; simp; omega, fun x hx => h.2 x (List.mem_of_mem_take hx)⟩
theorem uniqI_addAll (b : List Itm) (m : Int) : ∀ t : List Itm, uniqI t = true → uniqI (addAll t b m) = true := by
  induction b with
  | nil => intro t h; exact h
  | cons x r ih => intro t h; exact ih _ (uniqI_putI _ _ h)
/-- Once round a, times over b. -/
def sumL (a b : List Itm) (m : Int) : List Itm := addAll (addAll [] a 1) b m

end Go.Proofs.Ytlclhdolcokipaa
/-
  Items in order, as lists: plain mathematics.
-/
namespace Go.Proofs.Ytlclhdolcokipaa

theorem hasI_split {l : List Itm} {k : ByteArray} (h : hasI l k = true) : ∃ a x r, l = a ++ x :: r ∧ x.1 = k ∧ hasI a k = false := by
  induction l with
  | nil => simp [hasI] at h
  | cons y r ih =>
    by_cases e : y.1 = k
    · exact ⟨[], y, r, rfl, e, rfl⟩
    · simp only [hasI, e, decide_false, Bool.false_or] at h
      obtain ⟨a, x, r', rfl, h1, h2⟩ := ih h
      exact ⟨y :: a, x, r', rfl, h1, by simp [hasI, e, h2]⟩

section
variable {a r : List Itm} {x : Itm} {k : ByteArray} (hx : x.1 = k) (ha : hasI a k = false)
include hx ha
theorem delI_sp : delI (a ++ x :: r) k = a ++ r := by
  induction a with
  | nil => simp [delI, hx]
  | cons y a ih =>
    simp only [hasI, Bool.or_eq_false_iff, decide_eq_false_iff_not] at ha
    simp [delI, ha.1, ih ha.2]
theorem cnt_sp : cnt (a ++ x :: r) k = x.2 := by
  rw [cnt_append, ha]
  simp [cnt, hx]
theorem putI_sp (n : Int) : putI (a ++ x :: r) k n = a ++ (k, n) :: r := by
  induction a with
  | nil => simp [putI, hx]
  | cons y a ih =>
    simp only [hasI, Bool.or_eq_false_iff, decide_eq_false_iff_not] at ha
    simp [putI, ha.1, ih ha.2]
end
theorem hasI_sp {a r : List Itm} {x : Itm} {k : ByteArray} (hx : x.1 = k) : hasI (a ++ x :: r) k = true := by
  rw [hasI_append]
  simp [hasI, hx]

/-- Another key for the first item of a key. -/
def renI : List Itm → ByteArray → ByteArray → List Itm
  | [], _, _ => []
  | x :: r, k, t => if x.1 = k then (t, x.2) :: r else x :: renI r k t
theorem renI_sp {a r : List Itm} {x : Itm} {k : ByteArray} (hx : x.1 = k) (ha : hasI a k = false) (t : ByteArray) : renI (a ++ x :: r) k t = a ++ (t, x.2) :: r := by
  induction a with
  | nil => simp [renI, hx]
  | cons y a ih =>
    simp only [hasI, Bool.or_eq_false_iff, decide_eq_false_iff_not] at ha
    simp [renI, ha.1, ih ha.2]

/-- The item of a key at an end. -/
def movI (l : List Itm) (k : ByteArray) (last : Bool) : List Itm := if last then delI l k ++ [(k, cnt l k)] else (k, cnt l k) :: delI l k

/-- Items put one after the other. -/
def overI (a b : List Itm) : List Itm := b.foldl (fun t x => putI t x.1 x.2) a
theorem overI_take {a b : List Itm} {k : Nat} (h : k < b.length) : overI a (b.take (k + 1)) = putI (overI a (b.take k)) b[k].1 b[k].2 := by
  unfold overI
  rw [List.take_succ_eq_append_getElem h, List.foldl_append]
  rfl
theorem overI_len (b : List Itm) : ∀ a : List Itm, (overI a b).length ≤ a.length + b.length := by
  induction b with
  | nil => intro a; simp [overI]
  | cons x r ih =>
    intro a
    have h1 := ih (putI a x.1 x.2)
    have h2 := putI_length a x.1 x.2
    have e : overI a (x :: r) = overI (putI a x.1 x.2) r := rfl
    rw [e]
    simp only [List.length_cons]
    split at h2 <;> omega

/-! ### what the functions return -/
def okG (l : List Itm) (k : ByteArray) : Bool := validI l && hasI l k
def getN (l : List Itm) (k : ByteArray) : Int := if okG l k = true then cnt l k else 0
def plcI : List Itm → ByteArray → Nat → Int
  | [], _, _ => -1
  | x :: r, k, i => if x.1 = k then i else plcI r k (i + 1)
def plcN (l : List Itm) (k : ByteArray) : Int := if validI l = true then plcI l k 0 else -1
def chkL (l : List Itm) : List Itm := if validI l = true then l else []
def okP (l : List Itm) (k : ByteArray) (n : Int) : Bool := validI l && validI (putI l k n)
def putL (l : List Itm) (k : ByteArray) (n : Int) : List Itm := if okP l k n = true then putI l k n else []
def drpL (l : List Itm) (k : ByteArray) : List Itm := if okG l k = true then delI l k else []
def movL (l : List Itm) (k : ByteArray) (last : Bool) : List Itm := if okG l k = true then movI l k last else []
def okE (l : List Itm) : Bool := validI l && !l.isEmpty
def popI (l : List Itm) (last : Bool) : List Itm := if last then l.dropLast else l.tail
def zI : Itm := (⟨#[]⟩, 0)
def endI (l : List Itm) (last : Bool) : Itm := if last then l.getLastD zI else l.headD zI
def popL (l : List Itm) (last : Bool) : List Itm := if okE l = true then popI l last else []
def popX (l : List Itm) (last : Bool) : Itm := if okE l = true then endI l last else zI
def okB (a b : List Itm) : Bool := validI a && validI b
def sordB (a b : List Itm) : Bool := okB a b && decide (a = b)
def sameI (a b : List Itm) : Bool := decide (a.length = b.length) && a.all (fun x => hasI b x.1 && decide (cnt b x.1 = x.2))
def sitB (a b : List Itm) : Bool := okB a b && sameI a b
def okO (a b : List Itm) : Bool := okB a b && validI (overI a b)
def overL (a b : List Itm) : List Itm := if okO a b = true then overI a b else []
def defI (l : List Itm) (k : ByteArray) (n : Int) : Int := if hasI l k = true then cnt l k else n
def okD (l : List Itm) (k : ByteArray) (n : Int) : Bool := okP l k (defI l k n)
def defL (l : List Itm) (k : ByteArray) (n : Int) : List Itm := putL l k (defI l k n)
def defN (l : List Itm) (k : ByteArray) (n : Int) : Int := if okD l k n = true then defI l k n else 0
def okR (l : List Itm) (k t : ByteArray) : Bool := (validI l && hasI l k && !hasI l t) && validI (renI l k t)
def renL (l : List Itm) (k t : ByteArray) : List Itm := if okR l k t = true then renI l k t else []
def turL (l : List Itm) : List Itm := if validI l = true then l.reverse else []
theorem putI_self {l : List Itm} {k : ByteArray} (h : hasI l k = true) : putI l k (cnt l k) = l := by
  obtain ⟨a, x, r, rfl, hx, ha⟩ := hasI_split h
  rw [cnt_sp hx ha, putI_sp hx ha, ← hx]
theorem chk_put (l : List Itm) (k : ByteArray) (n : Int) (h : validI l = true) : putL l k n = chkL (putI l k n) := by
  unfold putL chkL okP
  rw [h, Bool.true_and]

theorem ret_lb {a b : Value} {c d : Bool} (h : a = b) (h' : c = d) : Ending.returned (.tuple #[a, .bool c]) = .returned (.tuple #[b, .bool d]) := by rw [h, h']
theorem ret_ib {k : IntKind} {a b : Int} {c d : Bool} (h : a = b) (h' : c = d) : Ending.returned (.tuple #[.int k a, .bool c]) = .returned (.tuple #[.int k b, .bool d]) := by rw [h, h']
end Go.Proofs.Ytlclhdolcokipaa
