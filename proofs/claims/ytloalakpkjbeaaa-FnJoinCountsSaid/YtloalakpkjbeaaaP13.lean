/-
  Ring2, Ring3.
-/
import Derived.BigRegion
import Derived.Deep.LoopGhost
import Derived.Test.YtloalakpkjbeaaaP0
import Derived.Test.YtloalakpkjbeaaaP5
/-
  The program's ring: a link cut out, hung, moved, looked for.
-/
namespace Go.Proofs.Ytloalakpkjbeaaa
open Go.RowKit

section
variable {K : Nat → Prop} {w : World} {r rt : Nat} {ns : List Nod}
end

/-- The same memory; what is drawn may differ. -/
def AsIs (w1 w' : World) : Prop := w'.heap = w1.heap ∧ w'.os = w1.os ∧ w'.tape = w1.tape ∧ w'.output = w1.output

end Go.Proofs.Ytloalakpkjbeaaa
/-
  The program's ring: what its operations leave.
-/
namespace Go.Proofs.Ytloalakpkjbeaaa
open Go.RowKit

section
variable {K : Nat → Prop} {w w1 w' : World} {r rt : Nat} {ns : List Nod}
theorem AsIs.cell (h : AsIs w1 w') (a : Addr) : w'.cell? a = w1.cell? a := by unfold World.cell?; rw [h.1]
theorem AsIs.keeps (h : AsIs w1 w') (hk : Keeps K w w1) : Keeps K w w' := ⟨h.2.1.trans hk.os, h.2.2.1.trans hk.tape, h.2.2.2.trans hk.output, by rw [h.1]; exact hk.size, fun k hK => by rw [h.1]; exact hk.block k hK⟩
theorem fst_in : fstOr ns rt ∈ rt :: blk ns := by
  rcases fst_mem ns rt with h | h
  · rw [h]; simp
  · exact List.mem_cons_of_mem _ h

end
end Go.Proofs.Ytloalakpkjbeaaa
