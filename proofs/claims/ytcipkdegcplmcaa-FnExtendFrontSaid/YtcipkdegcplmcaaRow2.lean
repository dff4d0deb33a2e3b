/-
  The program's row: numbers put behind, numbers put ahead, a limit.
-/
import Derived.Test.YtcipkdegcplmcaaRow
import Derived.Deep.RegionLaw
namespace Go.Proofs.Ytcipkdegcplmcaa
open Go.RowKit Go.Deep

theorem cellsN_splice (cs xs : List Int) (o : Nat) : cellsN (splice cs o xs) = splice (cellsN cs) o (cellsN xs) := by
  simp [cellsN, splice]
theorem rowCells_splice {cs xs : List Int} {f e : Nat} (hc : cs.length = 30) (h : e + xs.length ≤ 30) : splice (rowCells cs f e) e (cellsN xs) = rowCells (splice cs e xs) f e := by
  unfold rowCells
  rw [cellsN_splice]
  unfold splice
  have h1 : (cellsN cs).length = 30 := by rw [cellsN_length, hc]
  have h2 : (cellsN xs).length = xs.length := cellsN_length xs
  rw [List.take_append_of_le_length (by omega), List.drop_append_of_le_length (by omega)]
  simp [List.append_assoc]
theorem RowD.spliced {w : World} {g : Nat} {cs xs : List Int} {f e : Nat} (hc : cs.length = 30) (h : e + xs.length ≤ 30) (hg : Hid (w.heap[g]? = some (.cells (splice (rowCells cs f e) e (cellsN xs)).toArray 75 (0, 0)))) : RowD w g (splice cs e xs) f e := by
  refine ⟨by rw [length_splice _ _ _ (by omega), hc], ?_⟩
  have := hg.out
  rw [rowCells_splice hc h] at this
  exact this
theorem belowAny {g : Nat} {w : World} {k : Nat} : Below g w (w.drewN k) := ⟨rfl, rfl, rfl, Nat.le_refl _, fun _ _ => rfl⟩
theorem Nums.src {w : World} {ao : Option Addr} {n cap : Nat} {xs : List Int} (h : Nums w (.slice ao n cap) xs) (hp : 0 < (cellsN xs).length) : ∃ ad, ao = some ad ∧ ∀ j v, (cellsN xs)[j]? = some v → w.cell? (ad.add j) = some v := by
  rw [cellsN_length] at hp
  have h' := h
  obtain ⟨ao', cap', e, _, _, _, hcell⟩ := h'
  simp only [Value.slice.injEq] at e
  obtain ⟨rfl, rfl, rfl⟩ := e
  obtain ⟨b, o, rfl, _⟩ := hcell 0 hp
  exact ⟨_, rfl, h.news⟩

set_option maxHeartbeats 1600000 in
set_option maxRecDepth 100000 in
theorem extendBack_any {g : Nat} {cs : List Int} {f e : Nat} (v : Value) (xs : List Int) (w : World) (h : RowD w g cs f e) (hx : Nums w v xs) (hl : e + xs.length ≤ 30) :
    Calls Try.prog 57 #[.pointer (some ⟨g, 0, none⟩), v] w fun r w' => r = .returned (.tuple #[]) ∧ RowD w' g (splice cs e xs) f (e + xs.length) ∧ Below g w w' := by
  obtain ⟨ao, cap, rfl, hlc, hcm⟩ := hx.slice
  have H := Lib.hid h
  have HX := Lib.hid hx
  have c31 := h.end_
  have f31 := h.free 31
  have hsl := fun u => run_slice1 (P := Try.prog) Try.underlying73 Try.sizeN g e (by omega) u
  obtain ⟨C, hC⟩ : ∃ C, C = cellsN xs := ⟨_, rfl⟩
  have HC := Lib.hid hC
  have HCL : Hid (C.length = xs.length) := by show _ = _; rw [hC, cellsN_length]
  have HC1 : Hid (∀ u ∈ C, u.oneCell' = true) := by show ∀ _ ∈ _, _; rw [hC]; exact cellsN_one xs
  have HMN : Hid (Nat.min xs.length (30 - e) = xs.length) := by show _ = _; exact Nat.min_eq_left (by omega)
  have HPOS : Hid (0 < C.length → (some ⟨g, offAt e 30, none⟩ : Option Addr) = some ⟨g, e, none⟩ ∧ ∃ ad, ao = some ad ∧ ∀ j v, C[j]? = some v → w.cell? (ad.add j) = some v) := by
    intro hp
    have hp2 := hp
    rw [HCL.out] at hp2
    refine ⟨by unfold offAt; rw [if_neg (by omega)], ?_⟩
    rw [hC] at hp ⊢
    exact hx.src hp
  have HFIT : Hid (e + C.length ≤ (rowCells cs f e).length) := by
    show _ ≤ _
    unfold rowCells
    rw [HCL.out, List.length_append, cellsN_length, h.1]
    omega
  have hc30 := Lib.hid h.1
  have hcl := HCL.out
  have E1 : Hid (IntKind.i64.wrap ((e : Int) + (xs.length : Int)) = ((e + xs.length : Nat) : Int)) := by show _ = _; rw [IntWalk.i64_in _ (by omega)]; omega
  clear hC h hx
  go_enter Try.func57, Try.ntmps57
  go_wp2_with fail
  go_region_law (refine step_copy_splice rfl (.tmp 15) (.tmp 16) 23 23 rfl 3 Try.underlying23 Try.sizeN (some ⟨g, offAt e 30, none⟩) ao (30 - e) (30 - e) xs.length cap rfl rfl g e (rowCells cs f e) 75 H.out.2 C (by rw [HCL.out, HMN.out]) HPOS.out HFIT.out HC1.out g w belowAny (Nat.le_refl _) ?_; intro w4 hg4 hb4; rw [HC.out] at hg4; have HR4 := Lib.hid (RowD.spliced hc30.out hl hg4); have c4 := HR4.out.end_; have f4 := HR4.out.free 31)
  all_goals go_wp2
  all_goals go_end0
  all_goals refine ⟨rfl, ?_, hb4.setCell (Nat.le_refl _) _⟩
  all_goals rw [E1.out]
  all_goals exact HR4.out.setEnd (e + xs.length)

/-! ### a new row -/
def blk10 : List Int := List.replicate 10 (-10000)
/-- A new row of numbers. -/
def newRowN (xs : List Int) : List Int := blk10 ++ xs ++ List.replicate (20 - xs.length) (-10000)
theorem splice_new {xs : List Int} (h : xs.length ≤ 20) : splice (List.replicate 30 (-10000)) 10 xs = newRowN xs := by
  unfold splice newRowN blk10
  rw [List.take_replicate, List.drop_replicate, List.append_assoc]
  congr 3
  omega
theorem blank_step {k : Nat} (hk : k < 30) : (List.replicate k (-10000 : Int) ++ List.replicate (30 - k) 0).set k (-10000) = List.replicate (k + 1) (-10000) ++ List.replicate (30 - (k + 1)) 0 := by
  rw [List.set_append_right _ _ (by simp), List.length_replicate, Nat.sub_self, show 30 - k = (30 - (k + 1)) + 1 by omega, List.replicate_succ, List.set_cons_zero, List.replicate_succ', List.append_assoc]
  rfl

set_option maxHeartbeats 1600000 in
set_option maxRecDepth 100000 in
theorem rowOf_any (v : Value) (xs : List Int) (w : World) (h : Nums w v xs) (hl : xs.length ≤ 20) :
    Calls Try.prog 56 #[v] w fun r w' => r = .returned (.pointer (some ⟨w.heap.size, 0, none⟩)) ∧ RowD w' w.heap.size (newRowN xs) 10 (10 + xs.length) ∧ Below w.heap.size w w' := by
  obtain ⟨ao, cap, rfl, hlc, hcm⟩ := h.slice
  go_enter Try.func56, Try.ntmps56
  go_wp2
  go_loopw [7] (fun i wr => ∃ k : Nat, k ≤ 30 ∧ i = .int .i64 k ∧ Hid (RowD wr w.heap.size (List.replicate k (-10000) ++ List.replicate (30 - k) 0) 10 10) ∧ Below w.heap.size w wr) (fun i _ => 30 - (intOf i).toNat)
  case atStart =>
    refine ⟨0, by omega, rfl, ⟨rfl, ?_⟩, (Below.refl _ _).alloc (Nat.le_refl _) _⟩
    exact heap_new w _
  case round =>
    obtain ⟨k, hk, rfl, HR, hbl⟩ := hrel
    by_cases hlt : k < 30
    · have c1 := HR.out.cell hlt
      have f1 := HR.out.free k
      have h2 := HR.out.set hlt (-10000)
      rw [blank_step hlt] at h2
      have HR2 := Lib.hid h2
      clear h2
      go_wp2
      go_roundw
      case rel => exact ⟨k + 1, by omega, by go_num, HR2, hbl.setCell (Nat.le_refl _) _⟩
      case measure => simp [intOf]; omega
    · obtain rfl : k = 30 := by omega
      have HR2 : Hid (RowD wr w.heap.size (List.replicate 30 (-10000)) 10 10) := HR.out
      go_wp2_with fail
      refine (extendBack_any _ xs _ HR2.out (h.mono hbl (Nat.le_refl _)) (by omega)).mono ?_
      rintro e w1 ⟨rfl, hr, hb⟩
      rw [splice_new hl] at hr
      have HR3 := Lib.hid hr
      have HB3 := Lib.hid (hbl.trans hb)
      clear hr hb
      go_wp2
      go_ret
      exact ⟨rfl, HR3.out, HB3.out⟩
end Go.Proofs.Ytcipkdegcplmcaa
