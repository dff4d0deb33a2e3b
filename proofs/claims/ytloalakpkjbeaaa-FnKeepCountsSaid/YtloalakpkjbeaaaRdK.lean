/-
  What stays while numbers are drawn from a reader.
-/
import Derived.Test.YtloalakpkjbeaaaRead2
namespace Go.Proofs.Ytloalakpkjbeaaa
open Go.RowKit

theorem own_keeps {r : Nat} {w w' : World} {B E S n : Nat} {v : Value} {xs : List Value} (h : w.ownsRow B E S v n xs) (hr : r < B) (hk : Keeps (RK r w) w w') : w'.ownsRow B E S v n xs :=
  hk.own h (fun g hg => by have := own_range h hg; exact ⟨this.2, by omega⟩)
theorem RK.alloc {r : Nat} {w wr : World} (h : Keeps (RK r w) w wr) (o : Go.Obj) : Keeps (RK r w) w (wr.alloc o) := h.alloc (fun _ hk => hk.1) o

theorem cells_two_at {w : World} {g : Nat} (hg : w.heap.size = g) (a b : Value) (E : TypeId) : ∀ (j : Nat) (u : Value), [a, b][j]? = some u → (w.alloc (.cells #[a, b] E)).cell? ((⟨g, 0, none⟩ : Addr).add j) = some u := by
  subst hg
  exact cells_two_new w a b E
theorem Reader.grown_to {w w' : World} {r P : Nat} {row : Option Nat} (h : Reader w r P) (hg : w.grownBy w' row) (hr : ∀ j, row = some j → r < j) : Reader w' r P := by
  obtain ⟨v, bs, p, h1, h2, h3, h4, h5⟩ := h
  have hk : Keeps (fun j => j < w.heap.size ∧ j ≤ r) w w' := ⟨hg.os, hg.tape, hg.output, hg.size, fun j hj => hg.block j hj.1 (fun e => by have := hr j e.symm; have := hj.2; omega)⟩
  exact ⟨v, bs, p, (hk.block r ⟨lt_of_block h1, Nat.le_refl _⟩).trans h1, h2.kept hk (fun h0 g hg' => ⟨h2.lt h0 hg', by have := h4 h0 g hg'; omega⟩), h3, h4, h5⟩
theorem one_lit_at (g : Nat) (r P : Nat) (ns : List Int) (w : World) (hg : w.heap.size = g) (h : Reader w r P) (hP : P ≤ 100000000) (h0 : 0 < ns.length) (h1 : ns.length ≤ 1000) {n : Nat} (hn : ns.length = n) {vs : Array Value} (hvs : (ns.map (Value.int .i64)).toArray = vs) :
    Calls Try.prog 85 #[.pointer (some ⟨r, 0, none⟩), .slice (some ⟨g, 0, none⟩) n n] (w.alloc (.cells vs 3)) fun e w' => ∃ x, x ∈ ns ∧ e = .returned (.int .i64 x) ∧ Reader w' r (P + 1) ∧ Keeps (RK r w) w w' := by
  subst hg
  exact one_lit r P ns w h hP h0 h1 hn hvs

theorem RK.set {r : Nat} {w wr : World} (h : Keeps (RK r w) w wr) {a : Addr} (ha : w.heap.size ≤ a.block) (u : Value) : Keeps (RK r w) w (wr.setCell a u) := h.setCell (fun hk => by have := hk.1; omega) u
theorem Reader.set {w : World} {r P : Nat} (h : Reader w r P) {a : Addr} (ha : r < a.block) (u : Value) : Reader (w.setCell a u) r P := by
  obtain ⟨v, bs, p, h1, h2, h3, h4, h5⟩ := h
  have hk : Keeps (fun j => j < w.heap.size ∧ j ≤ r) w (w.setCell a u) := (Keeps.refl _ w).setCell (fun hj => by have := hj.2; omega) u
  exact ⟨v, bs, p, (hk.block r ⟨lt_of_block h1, Nat.le_refl _⟩).trans h1, h2.kept hk (fun h0 g hg' => ⟨h2.lt h0 hg', by have := h4 h0 g hg'; omega⟩), h3, h4, h5⟩

end Go.Proofs.Ytloalakpkjbeaaa
