/-
  The program's ring: a link cut out, hung, moved, looked for.
-/
import Derived.Test.YtigiliakcmpekaaRing
import Derived.Test.YtigiliakcmpekaaOrd
import Derived.Deep.LoopGhost
import Derived.BigRegion
namespace Go.Proofs.Ytigiliakcmpekaa
open Go.RowKit

section
variable {K : Nat → Prop} {w : World} {r rt : Nat} {ns : List Nod}
theorem RingAt.root (h : RingAt K w r rt ns) : ∃ z, Nd w rt z (lstOr rt ns) (fstOr ns rt) := by
  obtain ⟨z, hc⟩ := h.chain
  exact ⟨z, hc.1⟩
theorem first_any (h : RingAt K w r rt ns) : Calls Try.prog 257 #[.pointer (some ⟨r, 0, none⟩)] w fun e w' => e = .returned (.pointer (some ⟨fstOr ns rt, 0, none⟩)) ∧ w = w' := by
  have c0 := two_cell0 h.head
  obtain ⟨z, hz⟩ := h.root
  have c3 := (nd_cells hz).2.2.2
  clear h hz
  go_enter Try.func257, Try.ntmps257
  go_wp2
  go_ret
  exact ⟨rfl, rfl⟩
theorem last_any (h : RingAt K w r rt ns) : Calls Try.prog 205 #[.pointer (some ⟨r, 0, none⟩)] w fun e w' => e = .returned (.pointer (some ⟨lstOr rt ns, 0, none⟩)) ∧ w = w' := by
  have c0 := two_cell0 h.head
  obtain ⟨z, hz⟩ := h.root
  have c3 := (nd_cells hz).2.2.1
  clear h hz
  go_enter Try.func205, Try.ntmps205
  go_wp2
  go_ret
  exact ⟨rfl, rfl⟩
end

/-- The same memory; what is drawn may differ. -/
def AsIs (w1 w' : World) : Prop := w'.heap = w1.heap ∧ w'.os = w1.os ∧ w'.tape = w1.tape ∧ w'.output = w1.output

set_option maxHeartbeats 1600000 in
set_option maxRecDepth 100000 in
theorem cut_low (r a p s : Nat) (n : Int) (w : World) (hn : 0 ≤ n ∧ n ≤ 1000000000) (c2 : w.cell? ⟨a, 2, none⟩ = some (.pointer (some ⟨p, 0, none⟩))) (c3 : w.cell? ⟨a, 3, none⟩ = some (.pointer (some ⟨s, 0, none⟩)))
    (up us : Value) (d3 : w.cell? ⟨p, 3, none⟩ = some up) (d2 : w.cell? ⟨s, 2, none⟩ = some us) (f3 : w.frozen? ⟨p, 3, none⟩ = false) (f2 : w.frozen? ⟨s, 2, none⟩ = false)
    (e1 : w.cell? ⟨r, 1, none⟩ = some (.int .i64 n)) (fr : w.frozen? ⟨r, 1, none⟩ = false) (hap : a ≠ p) (has : a ≠ s) (hrp : r ≠ p) (hrs : r ≠ s) :
    Calls Try.prog 255 #[.pointer (some ⟨r, 0, none⟩), .pointer (some ⟨a, 0, none⟩)] w fun e w' => e = .returned (.tuple #[]) ∧
      AsIs (((w.setCell ⟨p, 3, none⟩ (.pointer (some ⟨s, 0, none⟩))).setCell ⟨s, 2, none⟩ (.pointer (some ⟨p, 0, none⟩))).setCell ⟨r, 1, none⟩ (.int .i64 (n - 1))) w' := by
  have hpa : p ≠ a := fun e => hap e.symm
  have hsa : s ≠ a := fun e => has e.symm
  have hpr : p ≠ r := fun e => hrp e.symm
  have hsr : s ≠ r := fun e => hrs e.symm
  go_enter Try.func255, Try.ntmps255
  go_wp2_with fail
  go_region
  all_goals go_wp2
  all_goals go_end0
  all_goals exact ⟨rfl, rfl, rfl, rfl, rfl⟩

set_option maxHeartbeats 1600000 in
set_option maxRecDepth 100000 in
theorem hang_low (r a x s : Nat) (n : Int) (w : World) (hn : 0 ≤ n ∧ n ≤ 1000000000) (ua ub us : Value) (c2 : w.cell? ⟨a, 2, none⟩ = some ua) (c3 : w.cell? ⟨a, 3, none⟩ = some ub) (g2 : w.frozen? ⟨a, 2, none⟩ = false) (g3 : w.frozen? ⟨a, 3, none⟩ = false)
    (d3 : w.cell? ⟨x, 3, none⟩ = some (.pointer (some ⟨s, 0, none⟩))) (d2 : w.cell? ⟨s, 2, none⟩ = some us) (f3 : w.frozen? ⟨x, 3, none⟩ = false) (f2 : w.frozen? ⟨s, 2, none⟩ = false)
    (e1 : w.cell? ⟨r, 1, none⟩ = some (.int .i64 n)) (fr : w.frozen? ⟨r, 1, none⟩ = false) (hax : a ≠ x) (has : a ≠ s) (hrp : r ≠ x) (hrs : r ≠ s) (hra : r ≠ a) :
    Calls Try.prog 204 #[.pointer (some ⟨r, 0, none⟩), .pointer (some ⟨a, 0, none⟩), .pointer (some ⟨x, 0, none⟩)] w fun e w' => e = .returned (.tuple #[]) ∧
      AsIs (((((w.setCell ⟨a, 2, none⟩ (.pointer (some ⟨x, 0, none⟩))).setCell ⟨a, 3, none⟩ (.pointer (some ⟨s, 0, none⟩))).setCell ⟨x, 3, none⟩ (.pointer (some ⟨a, 0, none⟩))).setCell ⟨s, 2, none⟩ (.pointer (some ⟨a, 0, none⟩))).setCell ⟨r, 1, none⟩ (.int .i64 (n + 1))) w' := by
  have hpa : x ≠ a := fun e => hax e.symm
  have hsa : s ≠ a := fun e => has e.symm
  have hpr : x ≠ r := fun e => hrp e.symm
  have hsr : s ≠ r := fun e => hrs e.symm
  have har : a ≠ r := fun e => hra e.symm
  go_enter Try.func204, Try.ntmps204
  go_wp2
  go_region
  all_goals go_wp2
  all_goals go_end0
  all_goals exact ⟨rfl, rfl, rfl, rfl, rfl⟩
end Go.Proofs.Ytigiliakcmpekaa
