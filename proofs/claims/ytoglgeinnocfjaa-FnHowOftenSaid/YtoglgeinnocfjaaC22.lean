/-
  OpenB, Draw1, EqualItems, EqT, Cst, HasT.
-/
import Derived.Deep.RegionHeld3
import Derived.Deep.Slices
import Derived.Test.YtoglgeinnocfjaaC4
import Derived.Test.YtoglgeinnocfjaaC7
import Derived.Test.YtoglgeinnocfjaaC8
import Derived.Test.YtoglgeinnocfjaaC10
import Derived.Test.YtoglgeinnocfjaaC11
/-
  A code as an argument.
-/
namespace Go.Proofs.Ytoglgeinnocfjaa
open Go.RowKit
open Go.ChangeShapes Go.WideShapes Go.ChangeAt Go.Deep

section
variable {H : Type} {enc : TypeId × Value → H}
set_option maxRecDepth 100000 in
theorem open_bytes {W : World} {base : Nat} {v : Value} {d : DataW H} {p : List MemPlace} (hv : Value.okWide Try.prog W .any base 22 v) (h : DataW.Trod enc Try.prog W 0 (fun _ => true) true 22 v d p) : ∃ xs, Bytes W v xs := by
  obtain ⟨a0, len, cap, rfl⟩ := okWide_slice Try.underlying22 hv
  obtain ⟨fuel, hf⟩ := h
  rcases open_slice1 Try.underlying22 (by kernel_rfl) hf with ⟨hcs, _⟩ | ⟨a, len', cap', m, n, V, D, Pl, hcs, _, hl, hm, hmm, hx, hi⟩
  · simp [Value.cells] at hcs
    obtain ⟨rfl, rfl, rfl⟩ := hcs
    exact ⟨[], none, 0, rfl, Nat.le_refl _, by omega, fun x hx => by simp at hx, fun k hk => by simp at hk⟩
  · simp [Value.cells] at hcs
    obtain ⟨rfl, rfl, rfl⟩ := hcs
    have hlm : len ≤ m := by rw [hmm]; split <;> omega
    have each : ∀ i, i < len → ∃ s : Int, W.cell? (a.add i) = some (.int .u8 s) ∧ 0 ≤ s ∧ s ≤ 255 := by
      intro i hi'
      obtain ⟨c0, t0⟩ := hi i (by omega)
      obtain ⟨q, e0, _, hq⟩ := DataW.trod_int Try.underlying5 t0
      simp at e0
      have hb : 0 ≤ q ∧ q ≤ 255 := by simpa [Lit.wf, IntKind.min, IntKind.max, IntKind.signed, IntKind.bits] using hq
      exact ⟨q, by rw [c0, e0], hb.1, hb.2⟩
    obtain ⟨q, hq⟩ := choose_lt each
    refine ⟨(List.range len).map q, some a, cap, by simp, by simpa using hl, by unfold maxLen at hm; exact hm, ?_, ?_⟩
    · intro x hx
      obtain ⟨i, hi1, rfl⟩ := List.mem_map.1 hx
      exact (hq i (List.mem_range.1 hi1)).2
    · intro k hk
      have hk' : k < len := by simpa using hk
      obtain ⟨b, off, spot⟩ := a
      have hspot : spot = none := by simpa [Addr.add] using World.cell?_spot (hq 0 (by omega)).1
      subst hspot
      have e1 := (hq k hk').1
      rw [Addr.add_lit] at e1
      exact ⟨b, off, rfl, World.block_lt_of_cell? _ _ e1, by simpa using e1⟩
end
end Go.Proofs.Ytoglgeinnocfjaa
/-
  A code as an argument; what ScaleCounts is asked of.
-/
namespace Go.Proofs.Ytoglgeinnocfjaa
open Go.RowKit
open Go.ChangeShapes Go.WideShapes Go.ChangeAt Go.Deep
end Go.Proofs.Ytoglgeinnocfjaa
/-
  Items compared.
-/
namespace Go.Proofs.Ytoglgeinnocfjaa
open Go.RowKit

set_option maxHeartbeats 800000 in
set_option maxRecDepth 100000 in
theorem equalItems_any (v u : Value) (xs ys : List Itm) (w : World) (h : Items w v xs) (h' : Items w u ys) :
    Calls Try.prog 109 #[v, u] w fun e w' => e = .returned (.bool (decide (xs = ys))) ∧ Below w.heap.size w w' := by
  obtain ⟨ao, cap, rfl, hlc, hcm, hok, hcell⟩ := h
  obtain ⟨ao', cap', rfl, hlc', hcm', hok', hcell'⟩ := h'
  have hg1 := item_neq
  have hg2 := item_guard
  go_enter Try.func109, Try.ntmps109
  by_cases hl : xs.length = ys.length
  · have hlb := eqLen_lit hl
    have HL := Lib.hid hl
    clear hl
    go_wp2
    go_loopw [5] (fun i wr => ∃ k : Nat, k ≤ xs.length ∧ i = .int .i64 k ∧ Hid (decide (xs = ys) = eqFrom k xs ys) ∧ Below w.heap.size w wr) (fun i _ => xs.length - (intOf i).toNat)
    case atStart => exact ⟨0, Nat.zero_le _, rfl, rfl, Below.refl _ _⟩
    case round =>
      obtain ⟨k, hk, rfl, HQ, hbl⟩ := hrel
      by_cases hlt : k < xs.length
      · obtain ⟨b, o, rfl, hb, h1, h2⟩ := hcell k hlt
        have hlt' : k < ys.length := by have := HL.out; omega
        obtain ⟨b', o', rfl, hb', h1', h2'⟩ := hcell' k hlt'
        have c1 := (hbl.cell (p := ⟨b, _, none⟩) hb).trans h1
        have c2 := (hbl.cell (p := ⟨b, _, none⟩) hb).trans h2
        have c3 := (hbl.cell (p := ⟨b', _, none⟩) hb').trans h1'
        have c4 := (hbl.cell (p := ⟨b', _, none⟩) hb').trans h2'
        have e1 := Lib.hid (eqFrom_step hlt hlt')
        have e2 := Lib.hid (eqI_parts xs[k] ys[k])
        clear h1 h2 h1' h2'
        go_wp2_with fail
        refine wp_region_still_tail 8 (by kernel_rfl) (by kernel_rfl) ?_
        simp only [List.take_succ_cons, List.take_zero, List.drop_succ_cons, List.drop_zero]
        repeat still_step
        refine wpStill_nil ?_
        change wpList _ _ _ _ _ wr.drew
        go_wp2
        · have ht : (!xs[k].fst.toList == ys[k].fst.toList) = true ∨ (!xs[k].snd == ys[k].snd) = true := by assumption
          go_ret
          refine ⟨ret_bool ?_, hbl.drew⟩
          have e3 : eqIB xs[k] ys[k] = false := by
            unfold eqIB
            rw [e2.out]
            rcases ht with ht | ht
            · simp only [Bool.not_eq_true'] at ht
              rw [ht, Bool.false_and]
            · simp only [Bool.not_eq_true'] at ht
              rw [ht, Bool.and_false]
          rw [HQ.out, e1.out, e3, Bool.false_and]
        · have ht : (!xs[k].fst.toList == ys[k].fst.toList) = false ∧ (!xs[k].snd == ys[k].snd) = false := by assumption
          have e3 : eqIB xs[k] ys[k] = true := by
            unfold eqIB
            rw [e2.out]
            simp only [Bool.not_eq_false'] at ht
            rw [ht.1, ht.2, Bool.true_and]
          have hq : Hid (decide (xs = ys) = eqFrom (k + 1) xs ys) := by unfold Hid; rw [HQ.out, e1.out, e3, Bool.true_and]
          clear ht c1 c2 c3 c4
          go_roundw
          case rel => exact ⟨k + 1, by omega, by go_num, hq, hbl.drew⟩
          case measure => simp [intOf]; omega
      · obtain rfl : k = xs.length := by omega
        go_wp2
        go_ret
        refine ⟨ret_bool ?_, hbl⟩
        rw [HQ.out]
        unfold eqFrom
        rw [List.drop_length, HL.out, List.drop_length]
        rfl
  · go_wp2
    go_ret
    refine ⟨ret_bool ?_, Below.refl _ _⟩
    symm
    rw [decide_eq_false_iff_not]
    rintro rfl
    exact hl rfl
end Go.Proofs.Ytoglgeinnocfjaa
/-
  Texts compared by the statements.
-/
namespace Go.Proofs.Ytoglgeinnocfjaa
open Go.RowKit
open Go.ChangeShapes Go.WideShapes Go.ChangeAt Go.Deep

set_option maxHeartbeats 400000 in
theorem equalTexts_any (v u : Value) (xs ys : List ByteArray) (w : World) (h : Texts w v xs) (h' : Texts w u ys) :
    Calls Try.prog 63 #[v, u] w fun e w' => e = .returned (.bool (decide (xs = ys))) ∧ Below w.heap.size w w' := by
  obtain ⟨ao, cap, rfl, hlc, hcm, hok, hcell⟩ := h
  obtain ⟨ao', cap', rfl, hlc', hcm', hok', hcell'⟩ := h'
  go_enter Try.func63, Try.ntmps63
  by_cases hl : xs.length = ys.length
  · have hlb := eqLen_lit hl
    have HL := Lib.hid hl
    clear hl
    go_wp2
    go_loopw [5] (fun i wr => ∃ k : Nat, k ≤ xs.length ∧ i = .int .i64 k ∧ Hid (decide (xs = ys) = eqFromT k xs ys) ∧ Below w.heap.size w wr) (fun i _ => xs.length - (intOf i).toNat)
    case atStart => exact ⟨0, Nat.zero_le _, rfl, rfl, Below.refl _ _⟩
    case round =>
      obtain ⟨k, hk, rfl, HQ, hbl⟩ := hrel
      by_cases hlt : k < xs.length
      · obtain ⟨b, o, rfl, hb, h1⟩ := hcell k hlt
        have hlt' : k < ys.length := by have := HL.out; omega
        obtain ⟨b', o', rfl, hb', h1'⟩ := hcell' k hlt'
        have c1 := (hbl.cell (p := ⟨b, _, none⟩) hb).trans h1
        have c3 := (hbl.cell (p := ⟨b', _, none⟩) hb').trans h1'
        by_cases ht : xs[k] = ys[k]
        · have e1 := Lib.hid (eqFromT_step hlt hlt')
          have hbq : (xs[k].toList == ys[k].toList) = true := by rw [beq_keys]; exact decide_eq_true ht
          go_wp2_with fail
          go_quiet (fail)
          go_wp2
          go_roundw
          case rel => exact ⟨k + 1, by omega, by go_num, by unfold Hid; rw [HQ.out, e1.out]; simp [ht], below_drewN hbl _⟩
          case measure => simp [intOf]; omega
        · have e1 := Lib.hid (eqFromT_step hlt hlt')
          have hbq : (xs[k].toList == ys[k].toList) = false := by rw [beq_keys]; exact decide_eq_false ht
          go_wp2_with fail
          go_quiet (fail)
          go_wp2
          go_ret
          refine ⟨ret_bool ?_, below_drewN hbl _⟩
          rw [HQ.out, e1.out]
          simp [ht]
      · obtain rfl : k = xs.length := by omega
        go_wp2
        go_ret
        refine ⟨ret_bool ?_, hbl⟩
        rw [HQ.out]
        unfold eqFromT
        rw [List.drop_length, HL.out, List.drop_length]
        rfl
  · go_wp2
    go_ret
    refine ⟨ret_bool ?_, Below.refl _ _⟩
    symm
    rw [decide_eq_false_iff_not]
    rintro rfl
    exact hl rfl

end Go.Proofs.Ytoglgeinnocfjaa
/-
  Contracts at other letters; what a drawn law compares.
-/
namespace Go.Proofs.Ytoglgeinnocfjaa
open Go.RowKit

set_option maxRecDepth 100000 in
theorem castI {f : Nat} {us : Array Value} {l l' : List Itm} {w : World} (h : Calls Try.prog f us w (NewI l w)) (e : l = l') : Calls Try.prog f us w (NewI l' w) := e ▸ h
set_option maxRecDepth 100000 in
theorem castL {f : Nat} {us : Array Value} {l l' : List Itm} {w : World} (h : Calls Try.prog f us w (NewL (fun v => v) l w)) (e : l = l') : Calls Try.prog f us w (NewL (fun v => v) l' w) := e ▸ h
set_option maxRecDepth 100000 in
theorem castT {f : Nat} {us : Array Value} {l l' : List ByteArray} {w : World} (h : Calls Try.prog f us w (NewT (fun v => v) l w)) (e : l = l') : Calls Try.prog f us w (NewT (fun v => v) l' w) := e ▸ h
set_option maxRecDepth 100000 in
theorem castI2 {f : Nat} {us : Array Value} {l l' : List Itm} {k k' : Bool} {w : World} (h : Calls Try.prog f us w (NewI2 l k w)) (e : l = l') (e' : k = k') : Calls Try.prog f us w (NewI2 l' k' w) := by subst e e'; exact h
set_option maxRecDepth 100000 in
theorem castT2 {f : Nat} {us : Array Value} {l l' : List ByteArray} {k k' : Bool} {w : World} (h : Calls Try.prog f us w (NewT2 l k w)) (e : l = l') (e' : k = k') : Calls Try.prog f us w (NewT2 l' k' w) := by subst e e'; exact h
set_option maxRecDepth 100000 in
theorem castQ {f : Nat} {us : Array Value} {a a' : Value} {w : World} (h : Calls Try.prog f us w (RetQ a w)) (e : a = a') : Calls Try.prog f us w (RetQ a' w) := e ▸ h
set_option maxRecDepth 100000 in
theorem castB {f : Nat} {us : Array Value} {a a' : Bool} {w : World} (h : Calls Try.prog f us w (RetQ (.bool a) w)) (e : a = a') : Calls Try.prog f us w (RetQ (.bool a') w) := e ▸ h
set_option maxRecDepth 100000 in
theorem castN {f : Nat} {us : Array Value} {a a' : Int} {w : World} (h : Calls Try.prog f us w (RetQ (.int .i64 a) w)) (e : a = a') : Calls Try.prog f us w (RetQ (.int .i64 a') w) := e ▸ h
set_option maxRecDepth 100000 in
theorem castNB {f : Nat} {us : Array Value} {a a' : Int} {k k' : Bool} {w : World} (h : Calls Try.prog f us w (RetQ (.tuple #[.int .i64 a, .bool k]) w)) (e : a = a') (e' : k = k') : Calls Try.prog f us w (RetQ (.tuple #[.int .i64 a', .bool k']) w) := by subst e e'; exact h

set_option maxRecDepth 100000 in
theorem castLI {f : Nat} {us : Array Value} {l l' : List Itm} {n n' : Int} {k k' : Bool} {w : World} (h : Calls Try.prog f us w (NewL (fun v => .tuple #[v, .int .i64 n, .bool k]) l w)) (e : l = l') (e' : n = n') (e'' : k = k') : Calls Try.prog f us w (NewL (fun v => .tuple #[v, .int .i64 n', .bool k']) l' w) := by subst e e' e''; exact h
theorem Items_nil {w : World} : Items w (.slice none 0 0) [] := (OwnI_nil 74 w 0).items
set_option maxRecDepth 100000 in
theorem equalI_T {W w : World} {L : List Thing} (H : Things W w L) {v u : Value} {xs : List Itm} (h : Items w v xs) (h' : Items w u xs) :
    Calls Try.prog 109 #[v, u] w fun e w' => e = .returned (.bool true) ∧ Things W w' L := by
  refine (equalItems_any v u xs xs w h h').mono ?_
  rintro e w' ⟨rfl, hb⟩
  exact ⟨by rw [decide_eq_true rfl], H.quiet hb⟩
set_option maxRecDepth 100000 in
theorem equalT_T {W w : World} {L : List Thing} (H : Things W w L) {v u : Value} {xs : List ByteArray} (h : Texts w v xs) (h' : Texts w u xs) :
    Calls Try.prog 63 #[v, u] w fun e w' => e = .returned (.bool true) ∧ Things W w' L := by
  refine (equalTexts_any v u xs xs w h h').mono ?_
  rintro e w' ⟨rfl, hb⟩
  exact ⟨by rw [decide_eq_true rfl], H.quiet hb⟩
theorem Items.cellAt {w : World} {ao : Option Addr} {n cap : Nat} {xs : List Itm} (h : Items w (.slice ao n cap) xs) {j : Nat} (hj : j < xs.length) :
    ∃ b o, ao = some ⟨b, o, none⟩ ∧ b < w.heap.size ∧ w.cell? ⟨b, o + j * 2, none⟩ = some (.string xs[j].1) ∧ w.cell? ⟨b, o + j * 2 + 1, none⟩ = some (.int .i64 xs[j].2) := by
  obtain ⟨ao', cap', e, _, _, _, hcell⟩ := h
  simp only [Value.slice.injEq] at e
  obtain ⟨rfl, _, rfl⟩ := e
  exact hcell j hj
theorem Items.shape {w : World} {v : Value} {xs : List Itm} (h : Items w v xs) : ∃ ao cap, v = .slice ao xs.length cap ∧ xs.length ≤ cap ∧ cap ≤ 9223372036854775807 := by
  obtain ⟨ao, cap, e, h1, h2, _⟩ := h
  exact ⟨ao, cap, e, h1, h2⟩
/-- A literal of items. -/
theorem Things.lit {W w : World} {L : List Thing} (H : Things W w L) (xs : List Itm) (vs : Array Value) (n : Nat) (hvs : vs = (cellsI xs).toArray) (hn : xs.length = n) (hl : n ≤ 100) (hok : okI xs) :
    Things W (w.alloc (.cells vs 74)) (ownT w.heap.size (w.alloc (.cells vs 74)).heap.size (.slice (some ⟨w.heap.size, 0, none⟩) n n) xs :: L) := by
  subst hn
  refine H.newI ⟨?_, hok⟩ ((Below.refl _ _).alloc (Nat.le_refl _) _)
  have h1 := World.ownsRow_lit (base := w.heap.size) (e := 74) (size := 2) w vs xs.length (Nat.le_refl _) (by unfold maxLen; omega) (by rw [hvs]; simp [cellsI_length])
  have e : vs.toList = cellsI xs := by rw [hvs]
  rw [e] at h1
  exact h1
end Go.Proofs.Ytoglgeinnocfjaa
/-
  A text in a list, and lists without a text twice, as statements ask for them.
-/
namespace Go.Proofs.Ytoglgeinnocfjaa
open Go.RowKit
open Go.ChangeShapes Go.WideShapes Go.ChangeAt Go.Deep

theorem Texts.takeA {w : World} {ao : Option Addr} {n cap : Nat} {xs : List ByteArray} (h : Texts w (.slice ao n cap) xs) {k : Nat} (hk : k ≤ xs.length) : Texts w (.slice ao k cap) (xs.take k) := by
  obtain ⟨ao', cap', hv, hlc, hcm, hok, hcell⟩ := h
  simp only [Value.slice.injEq] at hv
  obtain ⟨rfl, rfl, rfl⟩ := hv
  have hl : (xs.take k).length = k := by simp; omega
  refine ⟨ao, cap, by rw [hl], by omega, hcm, fun x hx => hok x (List.mem_of_mem_take hx), fun j hj => ?_⟩
  have hj' : j < xs.length := by omega
  obtain ⟨b, o, ha, hb, h1⟩ := hcell j hj'
  exact ⟨b, o, ha, hb, by simpa using h1⟩
theorem Texts.shape {w : World} {v : Value} {xs : List ByteArray} (h : Texts w v xs) : ∃ ao cap, v = .slice ao xs.length cap ∧ xs.length ≤ cap ∧ cap ≤ 9223372036854775807 := by
  obtain ⟨ao, cap, e, h1, h2, _⟩ := h
  exact ⟨ao, cap, e, h1, h2⟩
theorem Texts.dropA {w : World} {ao A : Option Addr} {n cap k : Nat} {xs : List ByteArray} (h : Texts w (.slice ao n cap) xs) (hk : k ≤ n) (hA : cap ≠ k → A = ao.map (fun x => x.add k)) : Texts w (.slice A (n - k) (cap - k)) (xs.drop k) := by
  obtain ⟨ao', cap', hv, hlc, hcm, hok, hcell⟩ := h
  simp only [Value.slice.injEq] at hv
  obtain ⟨rfl, rfl, rfl⟩ := hv
  refine ⟨A, cap - k, by rw [List.length_drop], by rw [List.length_drop]; omega, by omega, fun x hx => hok x (List.mem_of_mem_drop hx), fun j hj => ?_⟩
  rw [List.length_drop] at hj
  obtain ⟨b, o, ha, hb, h1⟩ := hcell (k + j) (by omega)
  refine ⟨b, o + k, ?_, hb, ?_⟩
  · rw [hA (by omega), ha]
    simp [Addr.add_lit]
  · rw [Nat.add_assoc, h1, List.getElem_drop]
theorem Texts_nil {w : World} : Texts w (.slice none 0 0) [] := Texts_none (by omega)
theorem Things.argT {W w : World} {L : List Thing} (H : Things W w L) {v : Value} {xs : List ByteArray} (h : Texts W v xs) : Texts w v xs := h.mono H.below (Nat.le_refl _)
def memT (xs : List ByteArray) (s : ByteArray) : Bool := xs.any fun x => decide (x = s)
theorem memT_iff {xs : List ByteArray} {s : ByteArray} : memT xs s = true ↔ s ∈ xs := by
  unfold memT
  rw [List.any_eq_true]
  constructor
  · rintro ⟨x, hx, e⟩
    rw [← of_decide_eq_true e]
    exact hx
  · intro h
    exact ⟨s, h, decide_eq_true rfl⟩
theorem memT_no {xs : List ByteArray} {s : ByteArray} : memT xs s = false ↔ s ∉ xs := by
  rw [← memT_iff, Bool.not_eq_true]
theorem mem_take_succ {xs : List ByteArray} {k : Nat} (h : k < xs.length) (s : ByteArray) : s ∈ xs.take (k + 1) ↔ s ∈ xs.take k ∨ s = xs[k] := by
  rw [List.take_succ_eq_append_getElem h, List.mem_append, List.mem_singleton]
theorem nodup_take_succ {xs : List ByteArray} {k : Nat} (h : k < xs.length) : (xs.take (k + 1)).Nodup ↔ (xs.take k).Nodup ∧ xs[k] ∉ xs.take k := by
  rw [List.take_succ_eq_append_getElem h, List.nodup_append]
  constructor
  · rintro ⟨h1, _, h3⟩
    exact ⟨h1, fun hm => h3 _ hm _ (by simp) rfl⟩
  · rintro ⟨h1, h2⟩
    exact ⟨h1, by simp, fun a ha b hb => by rw [List.mem_singleton.1 hb]; rintro rfl; exact h2 ha⟩

set_option maxHeartbeats 400000 in
set_option maxRecDepth 100000 in
theorem hasText_any (v : Value) (xs : List ByteArray) (s : ByteArray) (w : World) (h : Texts w v xs) :
    Calls Try.prog 65 #[v, .string s] w (RetQ (.bool (memT xs s)) w) := by
  obtain ⟨ao, cap, rfl, hlc, hcm, hok, hcell⟩ := h
  go_enter Try.func65, Try.ntmps65
  go_wp2
  go_loopw [5] (fun i wr => ∃ k : Nat, i = .int .i64 k ∧ k ≤ xs.length ∧ Hid (s ∉ xs.take k) ∧ Below w.heap.size w wr) (fun i _ => xs.length - (intOf i).toNat)
  case atStart => exact ⟨0, rfl, Nat.zero_le _, Lib.hid (by simp), Below.refl _ _⟩
  case round =>
    obtain ⟨k, rfl, hk, HN, hbl⟩ := hrel
    by_cases hlt : k < xs.length
    · obtain ⟨b, o, rfl, hb, h1⟩ := hcell k hlt
      have c1 := (hbl.cell (p := ⟨b, _, none⟩) hb).trans h1
      by_cases ht : xs[k] = s
      · have hbq : (xs[k].toList == s.toList) = true := by rw [beq_keys]; exact decide_eq_true ht
        have hm : s ∈ xs := by rw [← ht]; exact List.getElem_mem hlt
        clear ht
        go_wp2
        go_ret
        exact ⟨ret_bool (by rw [memT_iff.2 hm]), hbl⟩
      · have hbq : (xs[k].toList == s.toList) = false := by rw [beq_keys]; exact decide_eq_false ht
        have HN2 : Hid (s ∉ xs.take (k + 1)) := fun hm => by
          rcases (mem_take_succ hlt s).1 hm with h | h
          · exact HN.out h
          · exact ht h.symm
        clear ht
        go_wp2
        go_roundw
        case rel => exact ⟨k + 1, by go_num, by omega, HN2, hbl⟩
        case measure => simp [intOf]; omega
    · obtain rfl : k = xs.length := by omega
      go_wp2
      go_ret
      refine ⟨ret_bool ?_, hbl⟩
      have := HN.out
      rw [List.take_length] at this
      rw [memT_no.2 this]

end Go.Proofs.Ytoglgeinnocfjaa
