/-
  Contracts at other letters; what a drawn law compares.
-/
import Derived.Test.YtloalakpkjbeaaaEqT
import Derived.Test.YtloalakpkjbeaaaThing
import Derived.Test.YtloalakpkjbeaaaThingT
import Derived.Test.YtloalakpkjbeaaaElem
namespace Go.Proofs.Ytloalakpkjbeaaa
open Go.RowKit

theorem castI {f : Nat} {us : Array Value} {l l' : List Itm} {w : World} (h : Calls Try.prog f us w (NewI l w)) (e : l = l') : Calls Try.prog f us w (NewI l' w) := e ▸ h
theorem castL {f : Nat} {us : Array Value} {l l' : List Itm} {w : World} (h : Calls Try.prog f us w (NewL (fun v => v) l w)) (e : l = l') : Calls Try.prog f us w (NewL (fun v => v) l' w) := e ▸ h
theorem castT {f : Nat} {us : Array Value} {l l' : List ByteArray} {w : World} (h : Calls Try.prog f us w (NewT (fun v => v) l w)) (e : l = l') : Calls Try.prog f us w (NewT (fun v => v) l' w) := e ▸ h
theorem castI2 {f : Nat} {us : Array Value} {l l' : List Itm} {k k' : Bool} {w : World} (h : Calls Try.prog f us w (NewI2 l k w)) (e : l = l') (e' : k = k') : Calls Try.prog f us w (NewI2 l' k' w) := by subst e e'; exact h
theorem castT2 {f : Nat} {us : Array Value} {l l' : List ByteArray} {k k' : Bool} {w : World} (h : Calls Try.prog f us w (NewT2 l k w)) (e : l = l') (e' : k = k') : Calls Try.prog f us w (NewT2 l' k' w) := by subst e e'; exact h
theorem castQ {f : Nat} {us : Array Value} {a a' : Value} {w : World} (h : Calls Try.prog f us w (RetQ a w)) (e : a = a') : Calls Try.prog f us w (RetQ a' w) := e ▸ h
theorem castB {f : Nat} {us : Array Value} {a a' : Bool} {w : World} (h : Calls Try.prog f us w (RetQ (.bool a) w)) (e : a = a') : Calls Try.prog f us w (RetQ (.bool a') w) := e ▸ h
theorem castN {f : Nat} {us : Array Value} {a a' : Int} {w : World} (h : Calls Try.prog f us w (RetQ (.int .i64 a) w)) (e : a = a') : Calls Try.prog f us w (RetQ (.int .i64 a') w) := e ▸ h
theorem castNB {f : Nat} {us : Array Value} {a a' : Int} {k k' : Bool} {w : World} (h : Calls Try.prog f us w (RetQ (.tuple #[.int .i64 a, .bool k]) w)) (e : a = a') (e' : k = k') : Calls Try.prog f us w (RetQ (.tuple #[.int .i64 a', .bool k']) w) := by subst e e'; exact h

theorem Items_nil {w : World} : Items w (.slice none 0 0) [] := (OwnI_nil 39 w 0).items
theorem equalI_T {W w : World} {L : List Thing} (H : Things W w L) {v u : Value} {xs : List Itm} (h : Items w v xs) (h' : Items w u xs) :
    Calls Try.prog 26 #[v, u] w fun e w' => e = .returned (.bool true) ∧ Things W w' L := by
  refine (equalItems_any v u xs xs w h h').mono ?_
  rintro e w' ⟨rfl, hb⟩
  exact ⟨by rw [decide_eq_true rfl], H.quiet hb⟩
theorem equalT_T {W w : World} {L : List Thing} (H : Things W w L) {v u : Value} {xs : List ByteArray} (h : Texts w v xs) (h' : Texts w u xs) :
    Calls Try.prog 28 #[v, u] w fun e w' => e = .returned (.bool true) ∧ Things W w' L := by
  refine (equalTexts_any v u xs xs w h h').mono ?_
  rintro e w' ⟨rfl, hb⟩
  exact ⟨by rw [decide_eq_true rfl], H.quiet hb⟩
/-- A literal of items. -/
theorem Things.lit {W w : World} {L : List Thing} (H : Things W w L) (xs : List Itm) (vs : Array Value) (n : Nat) (hvs : vs = (cellsI xs).toArray) (hn : xs.length = n) (hl : n ≤ 100) (hok : okI xs) :
    Things W (w.alloc (.cells vs 39)) (ownT w.heap.size (w.alloc (.cells vs 39)).heap.size (.slice (some ⟨w.heap.size, 0, none⟩) n n) xs :: L) := by
  subst hn
  refine H.newI ⟨?_, hok⟩ ((Below.refl _ _).alloc (Nat.le_refl _) _)
  have h1 := World.ownsRow_lit (base := w.heap.size) (e := 39) (size := 2) w vs xs.length (Nat.le_refl _) (by unfold maxLen; omega) (by rw [hvs]; simp [cellsI_length])
  have e : vs.toList = cellsI xs := by rw [hvs]
  rw [e] at h1
  exact h1
end Go.Proofs.Ytloalakpkjbeaaa
