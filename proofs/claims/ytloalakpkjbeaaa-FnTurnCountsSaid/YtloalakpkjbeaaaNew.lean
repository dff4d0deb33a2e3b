/-
  What an operation returns: something new, or nothing that lies in memory.
-/
import Derived.Test.YtloalakpkjbeaaaObjs
import Derived.Test.YtloalakpkjbeaaaStr2
import Derived.Test.YtloalakpkjbeaaaOrd
namespace Go.Proofs.Ytloalakpkjbeaaa
open Go.RowKit

def NewL (f : Value → Value) (l : List Itm) (w : World) (e : Ending) (w' : World) : Prop :=
  ∃ v, e = .returned (f v) ∧ OwnI 39 w' w.heap.size v l ∧ Below w.heap.size w w'
def NewT (f : Value → Value) (l : List ByteArray) (w : World) (e : Ending) (w' : World) : Prop :=
  ∃ v, e = .returned (f v) ∧ OwnT w' w.heap.size v l ∧ Below w.heap.size w w'
def RetQ (v : Value) (w : World) (e : Ending) (w' : World) : Prop := e = .returned v ∧ Below w.heap.size w w'

theorem bcell {W w1 : World} (hb : Below W.heap.size W w1) : (∀ b o, b < W.heap.size → w1.cell? ⟨b, o, none⟩ = W.cell? ⟨b, o, none⟩) ∧ (∀ b o, b < W.heap.size → w1.frozen? ⟨b, o, none⟩ = W.frozen? ⟨b, o, none⟩) :=
  ⟨fun b o h => hb.cell (p := ⟨b, o, none⟩) h, fun b o h => hb.frozen (p := ⟨b, o, none⟩) h⟩

/-! ### how long it is -/
theorem del_le (l : List Itm) (k : ByteArray) : (delI l k).length ≤ l.length := by
  have := delI_length (l := l) k
  split at this <;> omega
theorem if_len {b : Bool} {l : List Itm} (h : b = true → l.length ≤ 100) : (if b = true then l else []).length ≤ 10000000 := by
  cases b
  · simp
  · have := h rfl
    simp only [if_true]
    omega
theorem okG_len {l : List Itm} {k : ByteArray} (h : okG l k = true) : l.length ≤ 8 := by
  unfold okG at h
  rw [Bool.and_eq_true] at h
  exact valid_len h.1
theorem drp_le (l : List Itm) (k : ByteArray) : (drpL l k).length ≤ 10000000 := if_len fun h => by have := okG_len h; have := del_le l k; omega
theorem mov_le (l : List Itm) (k : ByteArray) (b : Bool) : (movL l k b).length ≤ 10000000 := if_len fun h => by
  have h1 := okG_len h
  have h2 := del_le l k
  unfold movI
  split <;> simp <;> omega
theorem ren_le (l : List Itm) (k t : ByteArray) : (renL l k t).length ≤ 10000000 := if_len fun h => by
  unfold okR at h
  rw [Bool.and_eq_true] at h
  have := valid_len h.2
  omega
theorem over_le (a b : List Itm) : (overL a b).length ≤ 10000000 := if_len fun h => by
  unfold okO at h
  rw [Bool.and_eq_true] at h
  have := valid_len h.2
  omega
theorem tur_le (l : List Itm) : (turL l).length ≤ 10000000 := if_len fun h => by
  have := valid_len h
  simp
  omega
theorem put_le (l : List Itm) (k : ByteArray) (n : Int) : (putL l k n).length ≤ 10000000 := if_len fun h => by
  unfold okP at h
  rw [Bool.and_eq_true] at h
  have := valid_len h.2
  omega
theorem def_le (l : List Itm) (k : ByteArray) (n : Int) : (defL l k n).length ≤ 10000000 := put_le _ _ _
end Go.Proofs.Ytloalakpkjbeaaa
