/-
  Row.
-/
import Derived.Deep.WholeRow
import Derived.Laws.CopyOwn
import Derived.Test.YthhjfhdcfegdfaaP9
/-
  The program's row: an array of thirty numbers with two places.
-/
namespace Go.Proofs.Ythhjfhdcfegdfaa
open Go.RowKit

def rowCells (cs : List Int) (f e : Nat) : List Value := cellsN cs ++ [.int .i64 f, .int .i64 e]
theorem rowCells_at {cs : List Int} {f e k : Nat} (h : k < cs.length) : (rowCells cs f e)[k]? = some (.int .i64 cs[k]) := by
  unfold rowCells
  rw [List.getElem?_append_left (by rw [cellsN_length]; exact h), cellsN_get h]
theorem rowCells_first {cs : List Int} {f e : Nat} (h : cs.length = 30) : (rowCells cs f e)[30]? = some (.int .i64 f) := by
  unfold rowCells
  rw [List.getElem?_append_right (by rw [cellsN_length]; omega), cellsN_length, h]
  rfl
theorem rowCells_end {cs : List Int} {f e : Nat} (h : cs.length = 30) : (rowCells cs f e)[31]? = some (.int .i64 e) := by
  unfold rowCells
  rw [List.getElem?_append_right (by rw [cellsN_length]; omega), cellsN_length, h]
  rfl
section
variable {w : World} {g : Nat} {cs : List Int} {f e : Nat}
end

/-! ### a whole array out of a variable that holds more, and into a new one -/
theorem run_loadVar_part {P : Program} (w : World) (g : Nat) (ty : TypeId) (cs : List Value) (d : TypeDesc) (hc : ∀ j v, cs[j]? = some v → w.cell? ⟨g, j, none⟩ = some v)
    (hu : P.underlying ty = some d) (hd : (match d with | .struct _ | .array _ _ => true | _ => false) = true) (hi : (P.info? ty).map (·.size) = some cs.length) :
    (loadVar ty ⟨g, 0, none⟩).run P w = .ok (.agg cs.toArray) w := by
  have hl : (loadCells ⟨g, 0, none⟩ cs.length).run P w = .ok cs.toArray w :=
    run_loadCells_list (P := P) w ⟨g, 0, none⟩ cs (fun j v hv => by
      have hadd : (⟨g, 0, none⟩ : Addr).add j = ⟨g, j, none⟩ := by unfold Addr.add; split <;> simp_all
      rw [hadd]
      exact hc j v hv)
  cases hq : P.info? ty with
  | none => simp [hq] at hi
  | some i =>
    have hs : i.size = cs.length := by simpa [hq] using hi
    have hagg : (isAgg ty).run P w = .ok true w := by
      unfold isAgg
      rw [Sem.run_bind, run_underlying hu w]
      cases d <;> simp_all
    simp [loadVar, Sem.run_bind, hagg, sizeOf, typeInfo, hq, hs, hl]
theorem wp_load_part {P : Program} {o : Oper} {a : Act} {w : World} {K : Act → World → Prop} {Q : Exit → Act → World → Prop} (ty : TypeId) (x : Operand) (ho : o.op = .load ty x)
    (g : Nat) (hx : a.eval x = .pointer (some ⟨g, 0, none⟩)) (cs : List Value) (d : TypeDesc) (hc : ∀ j v, cs[j]? = some v → w.cell? ⟨g, j, none⟩ = some v)
    (hu : P.underlying ty = some d) (hd : (match d with | .struct _ | .array _ _ => true | _ => false) = true) (hi : (P.info? ty).map (·.size) = some cs.length)
    (h : K (a.put o.dst (.agg cs.toArray)) w) : o.wp P a w K Q := by
  unfold Oper.wp execOp
  simp only [ho, hx, Instr.loadAt, Instr.sureAddr, Sem.run_bind, Sem.run_pure, Result.andThen_ok, run_loadVar_part w g ty cs d hc hu hd hi]
  exact h
theorem wpList_load_part {P : Program} {ops : Array Oper} {rest : List Oper} {o : Oper} {a : Act} {w : World} {Q : Exit → Act → World → Prop} (hgd : o.guard = none) (ty : TypeId) (x : Operand) (ho : o.op = .load ty x)
    (g : Nat) (hx : a.eval x = .pointer (some ⟨g, 0, none⟩)) (cs : List Value) (d : TypeDesc) (hc : ∀ j v, cs[j]? = some v → w.cell? ⟨g, j, none⟩ = some v)
    (hu : P.underlying ty = some d) (hd : (match d with | .struct _ | .array _ _ => true | _ => false) = true) (hi : (P.info? ty).map (·.size) = some cs.length)
    (h : wpList P ops Q rest (a.put o.dst (.agg cs.toArray)) w) : wpList P ops Q (o :: rest) a w :=
  wpList_plain hgd fun _ hK => wp_load_part ty x ho g hx cs d hc hu hd hi (hK _ _ h)
/-! ### a part of an array -/
def offAt (l h : Nat) : Nat := if h = l then 0 else l
theorem run_slice3 {P : Program} {t n E : Nat} (hu : P.underlying t = some (.array n E)) (hs : (P.info? E).map (·.size) = some 1) (b l h : Nat) (hl : l ≤ h) (hh : h ≤ n) (w : World) :
    (Instr.sliceAt t (.pointer (some ⟨b, 0, none⟩)) (some (.int .i64 l)) (some (.int .i64 h)) (some (.int .i64 h))).run P w = .ok (.slice (some ⟨b, offAt l h, none⟩) (h - l) (h - l)) w := by
  cases hq : P.info? E with
  | none => simp [hq] at hs
  | some i =>
    have hi : i.size = 1 := by simpa [hq] using hs
    have e1 : (l : Int) ≤ h := by omega
    have e2 : (h : Int) ≤ n := by omega
    simp [Instr.sliceAt, Instr.sureAddr, run_underlying hu, Instr.sliceBounds, run_sliceBound, sizeOf, typeInfo, hq, hi, hl, hh, offAt]
    split
    · rfl
    · rw [Addr.add_lit, Nat.zero_add]
theorem run_slice1 {P : Program} {t n E : Nat} (hu : P.underlying t = some (.array n E)) (hs : (P.info? E).map (·.size) = some 1) (b l : Nat) (hl : l ≤ n) (w : World) :
    (Instr.sliceAt t (.pointer (some ⟨b, 0, none⟩)) (some (.int .i64 l)) none none).run P w = .ok (.slice (some ⟨b, offAt l n, none⟩) (n - l) (n - l)) w := by
  cases hq : P.info? E with
  | none => simp [hq] at hs
  | some i =>
    have hi : i.size = 1 := by simpa [hq] using hs
    simp [Instr.sliceAt, Instr.sureAddr, run_underlying hu, Instr.sliceBounds, run_sliceBound, sizeOf, typeInfo, hq, hi, hl, offAt]
    split
    · rfl
    · rw [Addr.add_lit, Nat.zero_add]

theorem oneN (cs : List Int) : (cellsN cs).toArray.all (·.oneCell') = true := by
  rw [Array.all_eq_true']
  intro x hx
  exact cellsN_one cs x (by simpa using hx)
theorem Try.sizeN : (Try.prog.info? 3).map (·.size) = some 1 := by kernel_rfl
end Go.Proofs.Ythhjfhdcfegdfaa
