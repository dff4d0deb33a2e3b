/-
  Items in order, as lists: plain mathematics.
-/
import Derived.Test.YtloalakpkjbeaaaSums
namespace Go.Proofs.Ytloalakpkjbeaaa

theorem hasI_split {l : List Itm} {k : ByteArray} (h : hasI l k = true) : ∃ a x r, l = a ++ x :: r ∧ x.1 = k ∧ hasI a k = false := by
  induction l with
  | nil => simp [hasI] at h
  | cons y r ih =>
    by_cases e : y.1 = k
    · exact ⟨[], y, r, rfl, e, rfl⟩
    · simp only [hasI, e, decide_false, Bool.false_or] at h
      obtain ⟨a, x, r', rfl, h1, h2⟩ := ih h
      exact ⟨y :: a, x, r', rfl, h1, by simp [hasI, e, h2]⟩

section
variable {a r : List Itm} {x : Itm} {k : ByteArray} (hx : x.1 = k) (ha : hasI a k = false)
include hx ha
theorem delI_sp : delI (a ++ x :: r) k = a ++ r := by
  induction a with
  | nil => simp [delI, hx]
  | cons y a ih =>
    simp only [hasI, Bool.or_eq_false_iff, decide_eq_false_iff_not] at ha
    simp [delI, ha.1, ih ha.2]
theorem cnt_sp : cnt (a ++ x :: r) k = x.2 := by
  rw [cnt_append, ha]
  simp [cnt, hx]
theorem putI_sp (n : Int) : putI (a ++ x :: r) k n = a ++ (k, n) :: r := by
  induction a with
  | nil => simp [putI, hx]
  | cons y a ih =>
    simp only [hasI, Bool.or_eq_false_iff, decide_eq_false_iff_not] at ha
    simp [putI, ha.1, ih ha.2]
end
theorem hasI_sp {a r : List Itm} {x : Itm} {k : ByteArray} (hx : x.1 = k) : hasI (a ++ x :: r) k = true := by
  rw [hasI_append]
  simp [hasI, hx]

/-- Another key for the first item of a key. -/
def renI : List Itm → ByteArray → ByteArray → List Itm
  | [], _, _ => []
  | x :: r, k, t => if x.1 = k then (t, x.2) :: r else x :: renI r k t
theorem renI_sp {a r : List Itm} {x : Itm} {k : ByteArray} (hx : x.1 = k) (ha : hasI a k = false) (t : ByteArray) : renI (a ++ x :: r) k t = a ++ (t, x.2) :: r := by
  induction a with
  | nil => simp [renI, hx]
  | cons y a ih =>
    simp only [hasI, Bool.or_eq_false_iff, decide_eq_false_iff_not] at ha
    simp [renI, ha.1, ih ha.2]

/-- The item of a key at an end. -/
def movI (l : List Itm) (k : ByteArray) (last : Bool) : List Itm := if last then delI l k ++ [(k, cnt l k)] else (k, cnt l k) :: delI l k

/-- Items put one after the other. -/
def overI (a b : List Itm) : List Itm := b.foldl (fun t x => putI t x.1 x.2) a
theorem overI_take {a b : List Itm} {k : Nat} (h : k < b.length) : overI a (b.take (k + 1)) = putI (overI a (b.take k)) b[k].1 b[k].2 := by
  unfold overI
  rw [List.take_succ_eq_append_getElem h, List.foldl_append]
  rfl
theorem overI_len (b : List Itm) : ∀ a : List Itm, (overI a b).length ≤ a.length + b.length := by
  induction b with
  | nil => intro a; simp [overI]
  | cons x r ih =>
    intro a
    have h1 := ih (putI a x.1 x.2)
    have h2 := putI_length a x.1 x.2
    have e : overI a (x :: r) = overI (putI a x.1 x.2) r := rfl
    rw [e]
    simp only [List.length_cons]
    split at h2 <;> omega

/-! ### what the functions return -/
def okG (l : List Itm) (k : ByteArray) : Bool := validI l && hasI l k
def getN (l : List Itm) (k : ByteArray) : Int := if okG l k = true then cnt l k else 0
def plcI : List Itm → ByteArray → Nat → Int
  | [], _, _ => -1
  | x :: r, k, i => if x.1 = k then i else plcI r k (i + 1)
def plcN (l : List Itm) (k : ByteArray) : Int := if validI l = true then plcI l k 0 else -1
def chkL (l : List Itm) : List Itm := if validI l = true then l else []
def okP (l : List Itm) (k : ByteArray) (n : Int) : Bool := validI l && validI (putI l k n)
def putL (l : List Itm) (k : ByteArray) (n : Int) : List Itm := if okP l k n = true then putI l k n else []
def drpL (l : List Itm) (k : ByteArray) : List Itm := if okG l k = true then delI l k else []
def movL (l : List Itm) (k : ByteArray) (last : Bool) : List Itm := if okG l k = true then movI l k last else []
def okE (l : List Itm) : Bool := validI l && !l.isEmpty
def popI (l : List Itm) (last : Bool) : List Itm := if last then l.dropLast else l.tail
def zI : Itm := (⟨#[]⟩, 0)
def endI (l : List Itm) (last : Bool) : Itm := if last then l.getLastD zI else l.headD zI
def popL (l : List Itm) (last : Bool) : List Itm := if okE l = true then popI l last else []
def popX (l : List Itm) (last : Bool) : Itm := if okE l = true then endI l last else zI
def okB (a b : List Itm) : Bool := validI a && validI b
def sordB (a b : List Itm) : Bool := okB a b && decide (a = b)
def sameI (a b : List Itm) : Bool := decide (a.length = b.length) && a.all (fun x => hasI b x.1 && decide (cnt b x.1 = x.2))
def sitB (a b : List Itm) : Bool := okB a b && sameI a b
def okO (a b : List Itm) : Bool := okB a b && validI (overI a b)
def overL (a b : List Itm) : List Itm := if okO a b = true then overI a b else []
def defI (l : List Itm) (k : ByteArray) (n : Int) : Int := if hasI l k = true then cnt l k else n
def okD (l : List Itm) (k : ByteArray) (n : Int) : Bool := okP l k (defI l k n)
def defL (l : List Itm) (k : ByteArray) (n : Int) : List Itm := putL l k (defI l k n)
def defN (l : List Itm) (k : ByteArray) (n : Int) : Int := if okD l k n = true then defI l k n else 0
def okR (l : List Itm) (k t : ByteArray) : Bool := (validI l && hasI l k && !hasI l t) && validI (renI l k t)
def renL (l : List Itm) (k t : ByteArray) : List Itm := if okR l k t = true then renI l k t else []
def turL (l : List Itm) : List Itm := if validI l = true then l.reverse else []
theorem putI_self {l : List Itm} {k : ByteArray} (h : hasI l k = true) : putI l k (cnt l k) = l := by
  obtain ⟨a, x, r, rfl, hx, ha⟩ := hasI_split h
  rw [cnt_sp hx ha, putI_sp hx ha, ← hx]
theorem chk_put (l : List Itm) (k : ByteArray) (n : Int) (h : validI l = true) : putL l k n = chkL (putI l k n) := by
  unfold putL chkL okP
  rw [h, Bool.true_and]

theorem ret_lb {a b : Value} {c d : Bool} (h : a = b) (h' : c = d) : Ending.returned (.tuple #[a, .bool c]) = .returned (.tuple #[b, .bool d]) := by rw [h, h']
theorem ret_ib {k : IntKind} {a b : Int} {c d : Bool} (h : a = b) (h' : c = d) : Ending.returned (.tuple #[.int k a, .bool c]) = .returned (.tuple #[.int k b, .bool d]) := by rw [h, h']
end Go.Proofs.Ytloalakpkjbeaaa
