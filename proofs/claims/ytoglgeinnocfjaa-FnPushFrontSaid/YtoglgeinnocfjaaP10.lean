/-
  Row.
-/
import Derived.Deep.WholeRow
import Derived.Laws.CopyOwn
import Derived.Test.YtoglgeinnocfjaaP9
/-
  The program's row: an array of thirty numbers with two places.
-/
namespace Go.Proofs.Ytoglgeinnocfjaa
open Go.RowKit

def rowCells (cs : List Int) (f e : Nat) : List Value := cellsN cs ++ [.int .i64 f, .int .i64 e]
/-- The row in block g: thirty numbers, where they begin and where they end. -/
def RowD (w : World) (g : Nat) (cs : List Int) (f e : Nat) : Prop := cs.length = 30 ∧ w.heap[g]? = some (.cells (rowCells cs f e).toArray 121 (0, 0))
theorem rowCells_at {cs : List Int} {f e k : Nat} (h : k < cs.length) : (rowCells cs f e)[k]? = some (.int .i64 cs[k]) := by
  unfold rowCells
  rw [List.getElem?_append_left (by rw [cellsN_length]; exact h), cellsN_get h]
theorem rowCells_first {cs : List Int} {f e : Nat} (h : cs.length = 30) : (rowCells cs f e)[30]? = some (.int .i64 f) := by
  unfold rowCells
  rw [List.getElem?_append_right (by rw [cellsN_length]; omega), cellsN_length, h]
  rfl
theorem rowCells_end {cs : List Int} {f e : Nat} (h : cs.length = 30) : (rowCells cs f e)[31]? = some (.int .i64 e) := by
  unfold rowCells
  rw [List.getElem?_append_right (by rw [cellsN_length]; omega), cellsN_length, h]
  rfl
section
variable {w : World} {g : Nat} {cs : List Int} {f e : Nat}
theorem RowD.lt (h : RowD w g cs f e) : g < w.heap.size := (Array.getElem?_eq_some_iff.1 h.2).1
theorem RowD.cell (h : RowD w g cs f e) {k : Nat} (hk : k < 30) : w.cell? ⟨g, k, none⟩ = some (.int .i64 (cs[k]'(by rw [h.1]; exact hk))) := by
  simp only [World.cell?, h.2]
  simpa using rowCells_at (f := f) (e := e) (by rw [h.1]; exact hk)
theorem RowD.first (h : RowD w g cs f e) : w.cell? ⟨g, 30, none⟩ = some (.int .i64 f) := by
  simp only [World.cell?, h.2]
  simpa using rowCells_first h.1
theorem RowD.end_ (h : RowD w g cs f e) : w.cell? ⟨g, 31, none⟩ = some (.int .i64 e) := by
  simp only [World.cell?, h.2]
  simpa using rowCells_end h.1
theorem RowD.free (h : RowD w g cs f e) (j : Nat) : w.frozen? ⟨g, j, none⟩ = false := by simp [World.frozen?, h.2]
theorem RowD.below {w' : World} {B : Nat} (h : RowD w g cs f e) (hb : Below B w w') (hB : g < B) : RowD w' g cs f e := ⟨h.1, (hb.block g hB).trans h.2⟩
theorem RowD.drewN (h : RowD w g cs f e) (n : Nat) : RowD (w.drewN n) g cs f e := h
theorem RowD.set (h : RowD w g cs f e) {k : Nat} (hk : k < 30) (q : Int) : RowD (w.setCell ⟨g, k, none⟩ (.int .i64 q)) g (cs.set k q) f e := by
  refine ⟨by rw [List.length_set]; exact h.1, ?_⟩
  rw [setCell_heap_self h.2]
  congr 2
  apply Array.toList_inj.1
  rw [Array.toList_setIfInBounds]
  simp only [rowCells, cellsN]
  rw [List.set_append_left _ _ (by simp [h.1, hk]), List.map_set]
theorem RowD.setFirst (h : RowD w g cs f e) (q : Nat) : RowD (w.setCell ⟨g, 30, none⟩ (.int .i64 q)) g cs q e := by
  refine ⟨h.1, ?_⟩
  rw [setCell_heap_self h.2]
  congr 2
  apply Array.toList_inj.1
  rw [Array.toList_setIfInBounds]
  simp only [rowCells]
  rw [List.set_append_right _ _ (by rw [cellsN_length, h.1]; exact Nat.le_refl _), cellsN_length, h.1]
  rfl
theorem RowD.setEnd (h : RowD w g cs f e) (q : Nat) : RowD (w.setCell ⟨g, 31, none⟩ (.int .i64 q)) g cs f q := by
  refine ⟨h.1, ?_⟩
  rw [setCell_heap_self h.2]
  congr 2
  apply Array.toList_inj.1
  rw [Array.toList_setIfInBounds]
  simp only [rowCells]
  rw [List.set_append_right _ _ (by rw [cellsN_length, h.1]; omega), cellsN_length, h.1]
  rfl
end

/-! ### a whole array out of a variable that holds more, and into a new one -/
theorem run_loadVar_part {P : Program} (w : World) (g : Nat) (ty : TypeId) (cs : List Value) (d : TypeDesc) (hc : ∀ j v, cs[j]? = some v → w.cell? ⟨g, j, none⟩ = some v)
    (hu : P.underlying ty = some d) (hd : (match d with | .struct _ | .array _ _ => true | _ => false) = true) (hi : (P.info? ty).map (·.size) = some cs.length) :
    (loadVar ty ⟨g, 0, none⟩).run P w = .ok (.agg cs.toArray) w := by
  have hl : (loadCells ⟨g, 0, none⟩ cs.length).run P w = .ok cs.toArray w :=
    run_loadCells_list (P := P) w ⟨g, 0, none⟩ cs (fun j v hv => by
      have hadd : (⟨g, 0, none⟩ : Addr).add j = ⟨g, j, none⟩ := by unfold Addr.add; split <;> simp_all
      rw [hadd]
      exact hc j v hv)
  cases hq : P.info? ty with
  | none => simp [hq] at hi
  | some i =>
    have hs : i.size = cs.length := by simpa [hq] using hi
    have hagg : (isAgg ty).run P w = .ok true w := by
      unfold isAgg
      rw [Sem.run_bind, run_underlying hu w]
      cases d <;> simp_all
    simp [loadVar, Sem.run_bind, hagg, sizeOf, typeInfo, hq, hs, hl]
theorem wp_load_part {P : Program} {o : Oper} {a : Act} {w : World} {K : Act → World → Prop} {Q : Exit → Act → World → Prop} (ty : TypeId) (x : Operand) (ho : o.op = .load ty x)
    (g : Nat) (hx : a.eval x = .pointer (some ⟨g, 0, none⟩)) (cs : List Value) (d : TypeDesc) (hc : ∀ j v, cs[j]? = some v → w.cell? ⟨g, j, none⟩ = some v)
    (hu : P.underlying ty = some d) (hd : (match d with | .struct _ | .array _ _ => true | _ => false) = true) (hi : (P.info? ty).map (·.size) = some cs.length)
    (h : K (a.put o.dst (.agg cs.toArray)) w) : o.wp P a w K Q := by
  unfold Oper.wp execOp
  simp only [ho, hx, Instr.loadAt, Instr.sureAddr, Sem.run_bind, Sem.run_pure, Result.andThen_ok, run_loadVar_part w g ty cs d hc hu hd hi]
  exact h
theorem wpList_load_part {P : Program} {ops : Array Oper} {rest : List Oper} {o : Oper} {a : Act} {w : World} {Q : Exit → Act → World → Prop} (hgd : o.guard = none) (ty : TypeId) (x : Operand) (ho : o.op = .load ty x)
    (g : Nat) (hx : a.eval x = .pointer (some ⟨g, 0, none⟩)) (cs : List Value) (d : TypeDesc) (hc : ∀ j v, cs[j]? = some v → w.cell? ⟨g, j, none⟩ = some v)
    (hu : P.underlying ty = some d) (hd : (match d with | .struct _ | .array _ _ => true | _ => false) = true) (hi : (P.info? ty).map (·.size) = some cs.length)
    (h : wpList P ops Q rest (a.put o.dst (.agg cs.toArray)) w) : wpList P ops Q (o :: rest) a w :=
  wpList_plain hgd fun _ hK => wp_load_part ty x ho g hx cs d hc hu hd hi (hK _ _ h)
/-! ### a part of an array -/
def offAt (l h : Nat) : Nat := if h = l then 0 else l
theorem run_slice3 {P : Program} {t n E : Nat} (hu : P.underlying t = some (.array n E)) (hs : (P.info? E).map (·.size) = some 1) (b l h : Nat) (hl : l ≤ h) (hh : h ≤ n) (w : World) :
    (Instr.sliceAt t (.pointer (some ⟨b, 0, none⟩)) (some (.int .i64 l)) (some (.int .i64 h)) (some (.int .i64 h))).run P w = .ok (.slice (some ⟨b, offAt l h, none⟩) (h - l) (h - l)) w := by
  cases hq : P.info? E with
  | none => simp [hq] at hs
  | some i =>
    have hi : i.size = 1 := by simpa [hq] using hs
    have e1 : (l : Int) ≤ h := by omega
    have e2 : (h : Int) ≤ n := by omega
    simp [Instr.sliceAt, Instr.sureAddr, run_underlying hu, Instr.sliceBounds, run_sliceBound, sizeOf, typeInfo, hq, hi, hl, hh, offAt]
    split
    · rfl
    · rw [Addr.add_lit, Nat.zero_add]
theorem run_slice1 {P : Program} {t n E : Nat} (hu : P.underlying t = some (.array n E)) (hs : (P.info? E).map (·.size) = some 1) (b l : Nat) (hl : l ≤ n) (w : World) :
    (Instr.sliceAt t (.pointer (some ⟨b, 0, none⟩)) (some (.int .i64 l)) none none).run P w = .ok (.slice (some ⟨b, offAt l n, none⟩) (n - l) (n - l)) w := by
  cases hq : P.info? E with
  | none => simp [hq] at hs
  | some i =>
    have hi : i.size = 1 := by simpa [hq] using hs
    simp [Instr.sliceAt, Instr.sureAddr, run_underlying hu, Instr.sliceBounds, run_sliceBound, sizeOf, typeInfo, hq, hi, hl, offAt]
    split
    · rfl
    · rw [Addr.add_lit, Nat.zero_add]

theorem oneN (cs : List Int) : (cellsN cs).toArray.all (·.oneCell') = true := by
  rw [Array.all_eq_true']
  intro x hx
  exact cellsN_one cs x (by simpa using hx)
theorem Try.sizeR : (Try.prog.info? 119).map (·.size) = some 30 := by kernel_rfl
theorem RowD.cells {w : World} {g : Nat} {cs : List Int} {f e : Nat} (h : RowD w g cs f e) : ∀ j v, (cellsN cs)[j]? = some v → w.cell? ⟨g, j, none⟩ = some v := by
  intro j v hv
  have hj : j < cs.length := by rw [← cellsN_length]; exact (List.getElem?_eq_some_iff.1 hv).1
  rw [cellsN_get hj] at hv
  rw [h.cell (by rw [← h.1]; exact hj), hv]

theorem Try.sizeN : (Try.prog.info? 3).map (·.size) = some 1 := by kernel_rfl
set_option maxHeartbeats 400000 in
set_option maxRecDepth 100000 in
theorem part_any {g : Nat} {cs : List Int} {f e : Nat} (i j : Nat) (w : World) (h : RowD w g cs f e) (hok : okN cs) (hij : i ≤ j) (hj : j ≤ 30) :
    Calls Try.prog 119 #[.pointer (some ⟨g, 0, none⟩), .int .i64 i, .int .i64 j] w (FreshN ((cs.take j).drop i) w) := by
  obtain ⟨C, hC⟩ : ∃ C, C = cellsN cs := ⟨_, rfl⟩
  have HL : Hid (C.length = 30) := by show _ = _; rw [hC, cellsN_length, h.1]
  have H1 : Hid (C.toArray.all (·.oneCell') = true) := by show _ = _; rw [hC]; exact oneN cs
  have HC : Hid (∀ j v, C[j]? = some v → w.cell? ⟨g, j, none⟩ = some v) := by show ∀ _, _; rw [hC]; exact h.cells
  have HCC := Lib.hid hC
  clear hC
  have hst : ∀ c : Array Value, c.size = 30 → (storeCells ⟨w.heap.size, 0, none⟩ C).run Try.prog (w.alloc (.cells c 119)) = .ok () (w.alloc (.cells C.toArray 119)) := by
    intro c hc
    have := run_storeCells_new (P := Try.prog) w 119 c C.toArray (by rw [List.size_toArray, HL.out]; exact Try.sizeR) (by rw [hc, List.size_toArray, HL.out]) H1.out
    simpa using this
  have hl30 := HL.out
  have hsl := run_slice3 (P := Try.prog) Try.underlying119 Try.sizeN w.heap.size i j hij hj (w.alloc (.cells C.toArray 119))
  go_enter Try.func119, Try.ntmps119
  go_wp2_with (refine wpList_load_part (o := ⟨some 11, _, _, _, _, _⟩) rfl 119 (.tmp 10) rfl g rfl C _ HC.out Try.underlying119 rfl (by rw [HL.out]; exact Try.sizeR) ?_)
  go_ret
  refine ⟨_, rfl, ?_, (Below.refl _ _).alloc (Nat.le_refl _) _⟩
  have hlen : ((cs.take j).drop i).length = j - i := by have := h.1; simp; omega
  by_cases he : j = i
  · subst he
    have e0 : (cs.take j).drop j = [] := by rw [List.drop_eq_nil_iff]; simp; omega
    rw [e0, Nat.sub_self]
    exact OwnN.none (by omega)
  · refine .inr ⟨w.heap.size, offAt i j, j - i, 119, by rw [hlen]; rfl, by omega, by omega, okN_drop (okN_take hok j) i, Nat.le_refl _, by simp, ⟨_, heap_new w _, fun k hk => ?_⟩⟩
    unfold offAt
    rw [if_neg he]
    rw [hlen] at hk
    have hcs := h.1
    have e1 := cellsN_get (xs := cs) (k := i + k) (by omega)
    rw [← HCC.out] at e1
    simpa using e1
end Go.Proofs.Ytoglgeinnocfjaa
