/-
  OpenB, Draw1, EqualItems, EqT, Cst, RdT, HasT.
-/
import Derived.Deep.RegionHeld3
import Derived.Deep.Slices
import Derived.Test.YtlclhdolcokipaaH4
import Derived.Test.YtlclhdolcokipaaH7
import Derived.Test.YtlclhdolcokipaaH8
import Derived.Test.YtlclhdolcokipaaH10
import Derived.Test.YtlclhdolcokipaaH11
/-
  A code as an argument.
-/
namespace Go.Proofs.Ytlclhdolcokipaa
open Go.RowKit
open Go.ChangeShapes Go.WideShapes Go.ChangeAt Go.Deep

section
variable {H : Type} {enc : TypeId × Value → H}
set_option maxRecDepth 100000 in
theorem open_bytes {W : World} {base : Nat} {v : Value} {d : DataW H} {p : List MemPlace} (hv : Value.okWide Try.prog W .any base 22 v) (h : DataW.Trod enc Try.prog W 0 (fun _ => true) true 22 v d p) : ∃ xs, Bytes W v xs := by
  obtain ⟨a0, len, cap, rfl⟩ := okWide_slice Try.underlying22 hv
  obtain ⟨fuel, hf⟩ := h
  rcases open_slice1 Try.underlying22 (by kernel_rfl) hf with ⟨hcs, _⟩ | ⟨a, len', cap', m, n, V, D, Pl, hcs, _, hl, hm, hmm, hx, hi⟩
  · simp [Value.cells] at hcs
    obtain ⟨rfl, rfl, rfl⟩ := hcs
    exact ⟨[], none, 0, rfl, Nat.le_refl _, by omega, fun x hx => by simp at hx, fun k hk => by simp at hk⟩
  · simp [Value.cells] at hcs
    obtain ⟨rfl, rfl, rfl⟩ := hcs
    have hlm : len ≤ m := by rw [hmm]; split <;> omega
    have each : ∀ i, i < len → ∃ s : Int, W.cell? (a.add i) = some (.int .u8 s) ∧ 0 ≤ s ∧ s ≤ 255 := by
      intro i hi'
      obtain ⟨c0, t0⟩ := hi i (by omega)
      obtain ⟨q, e0, _, hq⟩ := DataW.trod_int Try.underlying5 t0
      simp at e0
      have hb : 0 ≤ q ∧ q ≤ 255 := by simpa [Lit.wf, IntKind.min, IntKind.max, IntKind.signed, IntKind.bits] using hq
      exact ⟨q, by rw [c0, e0], hb.1, hb.2⟩
    obtain ⟨q, hq⟩ := choose_lt each
    refine ⟨(List.range len).map q, some a, cap, by simp, by simpa using hl, by unfold maxLen at hm; exact hm, ?_, ?_⟩
    · intro x hx
      obtain ⟨i, hi1, rfl⟩ := List.mem_map.1 hx
      exact (hq i (List.mem_range.1 hi1)).2
    · intro k hk
      have hk' : k < len := by simpa using hk
      obtain ⟨b, off, spot⟩ := a
      have hspot : spot = none := by simpa [Addr.add] using World.cell?_spot (hq 0 (by omega)).1
      subst hspot
      have e1 := (hq k hk').1
      rw [Addr.add_lit] at e1
      exact ⟨b, off, rfl, World.block_lt_of_cell? _ _ e1, by simpa using e1⟩
end
end Go.Proofs.Ytlclhdolcokipaa
/-
  A code as an argument; what ScaleCounts is asked of.
-/
namespace Go.Proofs.Ytlclhdolcokipaa
open Go.RowKit
open Go.ChangeShapes Go.WideShapes Go.ChangeAt Go.Deep
end Go.Proofs.Ytlclhdolcokipaa
/-
  Items compared.
-/
namespace Go.Proofs.Ytlclhdolcokipaa
open Go.RowKit

set_option maxHeartbeats 800000 in
set_option maxRecDepth 100000 in
theorem equalItems_any (v u : Value) (xs ys : List Itm) (w : World) (h : Items w v xs) (h' : Items w u ys) :
    Calls Try.prog 22 #[v, u] w fun e w' => e = .returned (.bool (decide (xs = ys))) ∧ Below w.heap.size w w' := by
  obtain ⟨ao, cap, rfl, hlc, hcm, hok, hcell⟩ := h
  obtain ⟨ao', cap', rfl, hlc', hcm', hok', hcell'⟩ := h'
  have hg1 := item_neq
  have hg2 := item_guard
  go_enter Try.func22, Try.ntmps22
  by_cases hl : xs.length = ys.length
  · have hlb := eqLen_lit hl
    have HL := Lib.hid hl
    clear hl
    go_wp2
    go_loopw [5] (fun i wr => ∃ k : Nat, k ≤ xs.length ∧ i = .int .i64 k ∧ Hid (decide (xs = ys) = eqFrom k xs ys) ∧ Below w.heap.size w wr) (fun i _ => xs.length - (intOf i).toNat)
    case atStart => exact ⟨0, Nat.zero_le _, rfl, rfl, Below.refl _ _⟩
    case round =>
      obtain ⟨k, hk, rfl, HQ, hbl⟩ := hrel
      by_cases hlt : k < xs.length
      · obtain ⟨b, o, rfl, hb, h1, h2⟩ := hcell k hlt
        have hlt' : k < ys.length := by have := HL.out; omega
        obtain ⟨b', o', rfl, hb', h1', h2'⟩ := hcell' k hlt'
        have c1 := (hbl.cell (p := ⟨b, _, none⟩) hb).trans h1
        have c2 := (hbl.cell (p := ⟨b, _, none⟩) hb).trans h2
        have c3 := (hbl.cell (p := ⟨b', _, none⟩) hb').trans h1'
        have c4 := (hbl.cell (p := ⟨b', _, none⟩) hb').trans h2'
        have e1 := Lib.hid (eqFrom_step hlt hlt')
        have e2 := Lib.hid (eqI_parts xs[k] ys[k])
        clear h1 h2 h1' h2'
        go_wp2_with fail
        refine wp_region_still_tail 8 (by kernel_rfl) (by kernel_rfl) ?_
        simp only [List.take_succ_cons, List.take_zero, List.drop_succ_cons, List.drop_zero]
        repeat still_step
        refine wpStill_nil ?_
        change wpList _ _ _ _ _ wr.drew
        go_wp2
        · have ht : (!xs[k].fst.toList == ys[k].fst.toList) = true ∨ (!xs[k].snd == ys[k].snd) = true := by assumption
          go_ret
          refine ⟨ret_bool ?_, hbl.drew⟩
          have e3 : eqIB xs[k] ys[k] = false := by
            unfold eqIB
            rw [e2.out]
            rcases ht with ht | ht
            · simp only [Bool.not_eq_true'] at ht
              rw [ht, Bool.false_and]
            · simp only [Bool.not_eq_true'] at ht
              rw [ht, Bool.and_false]
          rw [HQ.out, e1.out, e3, Bool.false_and]
        · have ht : (!xs[k].fst.toList == ys[k].fst.toList) = false ∧ (!xs[k].snd == ys[k].snd) = false := by assumption
          have e3 : eqIB xs[k] ys[k] = true := by
            unfold eqIB
            rw [e2.out]
            simp only [Bool.not_eq_false'] at ht
            rw [ht.1, ht.2, Bool.true_and]
          have hq : Hid (decide (xs = ys) = eqFrom (k + 1) xs ys) := by unfold Hid; rw [HQ.out, e1.out, e3, Bool.true_and]
          clear ht c1 c2 c3 c4
          go_roundw
          case rel => exact ⟨k + 1, by omega, by go_num, hq, hbl.drew⟩
          case measure => simp [intOf]; omega
      · obtain rfl : k = xs.length := by omega
        go_wp2
        go_ret
        refine ⟨ret_bool ?_, hbl⟩
        rw [HQ.out]
        unfold eqFrom
        rw [List.drop_length, HL.out, List.drop_length]
        rfl
  · go_wp2
    go_ret
    refine ⟨ret_bool ?_, Below.refl _ _⟩
    symm
    rw [decide_eq_false_iff_not]
    rintro rfl
    exact hl rfl
end Go.Proofs.Ytlclhdolcokipaa
/-
  Texts compared by the statements.
-/
namespace Go.Proofs.Ytlclhdolcokipaa
open Go.RowKit
open Go.ChangeShapes Go.WideShapes Go.ChangeAt Go.Deep

set_option maxHeartbeats 400000 in
theorem equalTexts_any (v u : Value) (xs ys : List ByteArray) (w : World) (h : Texts w v xs) (h' : Texts w u ys) :
    Calls Try.prog 34 #[v, u] w fun e w' => e = .returned (.bool (decide (xs = ys))) ∧ Below w.heap.size w w' := by
  obtain ⟨ao, cap, rfl, hlc, hcm, hok, hcell⟩ := h
  obtain ⟨ao', cap', rfl, hlc', hcm', hok', hcell'⟩ := h'
  go_enter Try.func34, Try.ntmps34
  by_cases hl : xs.length = ys.length
  · have hlb := eqLen_lit hl
    have HL := Lib.hid hl
    clear hl
    go_wp2
    go_loopw [5] (fun i wr => ∃ k : Nat, k ≤ xs.length ∧ i = .int .i64 k ∧ Hid (decide (xs = ys) = eqFromT k xs ys) ∧ Below w.heap.size w wr) (fun i _ => xs.length - (intOf i).toNat)
    case atStart => exact ⟨0, Nat.zero_le _, rfl, rfl, Below.refl _ _⟩
    case round =>
      obtain ⟨k, hk, rfl, HQ, hbl⟩ := hrel
      by_cases hlt : k < xs.length
      · obtain ⟨b, o, rfl, hb, h1⟩ := hcell k hlt
        have hlt' : k < ys.length := by have := HL.out; omega
        obtain ⟨b', o', rfl, hb', h1'⟩ := hcell' k hlt'
        have c1 := (hbl.cell (p := ⟨b, _, none⟩) hb).trans h1
        have c3 := (hbl.cell (p := ⟨b', _, none⟩) hb').trans h1'
        by_cases ht : xs[k] = ys[k]
        · have e1 := Lib.hid (eqFromT_step hlt hlt')
          have hbq : (xs[k].toList == ys[k].toList) = true := by rw [beq_keys]; exact decide_eq_true ht
          go_wp2_with fail
          go_quiet (fail)
          go_wp2
          go_roundw
          case rel => exact ⟨k + 1, by omega, by go_num, by unfold Hid; rw [HQ.out, e1.out]; simp [ht], below_drewN hbl _⟩
          case measure => simp [intOf]; omega
        · have e1 := Lib.hid (eqFromT_step hlt hlt')
          have hbq : (xs[k].toList == ys[k].toList) = false := by rw [beq_keys]; exact decide_eq_false ht
          go_wp2_with fail
          go_quiet (fail)
          go_wp2
          go_ret
          refine ⟨ret_bool ?_, below_drewN hbl _⟩
          rw [HQ.out, e1.out]
          simp [ht]
      · obtain rfl : k = xs.length := by omega
        go_wp2
        go_ret
        refine ⟨ret_bool ?_, hbl⟩
        rw [HQ.out]
        unfold eqFromT
        rw [List.drop_length, HL.out, List.drop_length]
        rfl
  · go_wp2
    go_ret
    refine ⟨ret_bool ?_, Below.refl _ _⟩
    symm
    rw [decide_eq_false_iff_not]
    rintro rfl
    exact hl rfl

end Go.Proofs.Ytlclhdolcokipaa
/-
  Contracts at other letters; what a drawn law compares.
-/
namespace Go.Proofs.Ytlclhdolcokipaa
open Go.RowKit

set_option maxRecDepth 100000 in
theorem castI {f : Nat} {us : Array Value} {l l' : List Itm} {w : World} (h : Calls Try.prog f us w (NewI l w)) (e : l = l') : Calls Try.prog f us w (NewI l' w) := e ▸ h
set_option maxRecDepth 100000 in
theorem castL {f : Nat} {us : Array Value} {l l' : List Itm} {w : World} (h : Calls Try.prog f us w (NewL (fun v => v) l w)) (e : l = l') : Calls Try.prog f us w (NewL (fun v => v) l' w) := e ▸ h
set_option maxRecDepth 100000 in
theorem castT {f : Nat} {us : Array Value} {l l' : List ByteArray} {w : World} (h : Calls Try.prog f us w (NewT (fun v => v) l w)) (e : l = l') : Calls Try.prog f us w (NewT (fun v => v) l' w) := e ▸ h
set_option maxRecDepth 100000 in
theorem castI2 {f : Nat} {us : Array Value} {l l' : List Itm} {k k' : Bool} {w : World} (h : Calls Try.prog f us w (NewI2 l k w)) (e : l = l') (e' : k = k') : Calls Try.prog f us w (NewI2 l' k' w) := by subst e e'; exact h
set_option maxRecDepth 100000 in
theorem castT2 {f : Nat} {us : Array Value} {l l' : List ByteArray} {k k' : Bool} {w : World} (h : Calls Try.prog f us w (NewT2 l k w)) (e : l = l') (e' : k = k') : Calls Try.prog f us w (NewT2 l' k' w) := by subst e e'; exact h
set_option maxRecDepth 100000 in
theorem castQ {f : Nat} {us : Array Value} {a a' : Value} {w : World} (h : Calls Try.prog f us w (RetQ a w)) (e : a = a') : Calls Try.prog f us w (RetQ a' w) := e ▸ h
set_option maxRecDepth 100000 in
theorem castB {f : Nat} {us : Array Value} {a a' : Bool} {w : World} (h : Calls Try.prog f us w (RetQ (.bool a) w)) (e : a = a') : Calls Try.prog f us w (RetQ (.bool a') w) := e ▸ h
set_option maxRecDepth 100000 in
theorem castN {f : Nat} {us : Array Value} {a a' : Int} {w : World} (h : Calls Try.prog f us w (RetQ (.int .i64 a) w)) (e : a = a') : Calls Try.prog f us w (RetQ (.int .i64 a') w) := e ▸ h
set_option maxRecDepth 100000 in
theorem castNB {f : Nat} {us : Array Value} {a a' : Int} {k k' : Bool} {w : World} (h : Calls Try.prog f us w (RetQ (.tuple #[.int .i64 a, .bool k]) w)) (e : a = a') (e' : k = k') : Calls Try.prog f us w (RetQ (.tuple #[.int .i64 a', .bool k']) w) := by subst e e'; exact h

set_option maxRecDepth 100000 in
theorem castLI {f : Nat} {us : Array Value} {l l' : List Itm} {n n' : Int} {k k' : Bool} {w : World} (h : Calls Try.prog f us w (NewL (fun v => .tuple #[v, .int .i64 n, .bool k]) l w)) (e : l = l') (e' : n = n') (e'' : k = k') : Calls Try.prog f us w (NewL (fun v => .tuple #[v, .int .i64 n', .bool k']) l' w) := by subst e e' e''; exact h
theorem Items_nil {w : World} : Items w (.slice none 0 0) [] := (OwnI_nil 43 w 0).items
set_option maxRecDepth 100000 in
theorem equalI_T {W w : World} {L : List Thing} (H : Things W w L) {v u : Value} {xs : List Itm} (h : Items w v xs) (h' : Items w u xs) :
    Calls Try.prog 22 #[v, u] w fun e w' => e = .returned (.bool true) ∧ Things W w' L := by
  refine (equalItems_any v u xs xs w h h').mono ?_
  rintro e w' ⟨rfl, hb⟩
  exact ⟨by rw [decide_eq_true rfl], H.quiet hb⟩
set_option maxRecDepth 100000 in
theorem equalT_T {W w : World} {L : List Thing} (H : Things W w L) {v u : Value} {xs : List ByteArray} (h : Texts w v xs) (h' : Texts w u xs) :
    Calls Try.prog 34 #[v, u] w fun e w' => e = .returned (.bool true) ∧ Things W w' L := by
  refine (equalTexts_any v u xs xs w h h').mono ?_
  rintro e w' ⟨rfl, hb⟩
  exact ⟨by rw [decide_eq_true rfl], H.quiet hb⟩
theorem Items.cellAt {w : World} {ao : Option Addr} {n cap : Nat} {xs : List Itm} (h : Items w (.slice ao n cap) xs) {j : Nat} (hj : j < xs.length) :
    ∃ b o, ao = some ⟨b, o, none⟩ ∧ b < w.heap.size ∧ w.cell? ⟨b, o + j * 2, none⟩ = some (.string xs[j].1) ∧ w.cell? ⟨b, o + j * 2 + 1, none⟩ = some (.int .i64 xs[j].2) := by
  obtain ⟨ao', cap', e, _, _, _, hcell⟩ := h
  simp only [Value.slice.injEq] at e
  obtain ⟨rfl, _, rfl⟩ := e
  exact hcell j hj
theorem Items.shape {w : World} {v : Value} {xs : List Itm} (h : Items w v xs) : ∃ ao cap, v = .slice ao xs.length cap ∧ xs.length ≤ cap ∧ cap ≤ 9223372036854775807 := by
  obtain ⟨ao, cap, e, h1, h2, _⟩ := h
  exact ⟨ao, cap, e, h1, h2⟩
/-- A literal of items. -/
theorem Things.lit {W w : World} {L : List Thing} (H : Things W w L) (xs : List Itm) (vs : Array Value) (n : Nat) (hvs : vs = (cellsI xs).toArray) (hn : xs.length = n) (hl : n ≤ 100) (hok : okI xs) :
    Things W (w.alloc (.cells vs 43)) (ownT w.heap.size (w.alloc (.cells vs 43)).heap.size (.slice (some ⟨w.heap.size, 0, none⟩) n n) xs :: L) := by
  subst hn
  refine H.newI ⟨?_, hok⟩ ((Below.refl _ _).alloc (Nat.le_refl _) _)
  have h1 := World.ownsRow_lit (base := w.heap.size) (e := 43) (size := 2) w vs xs.length (Nat.le_refl _) (by unfold maxLen; omega) (by rw [hvs]; simp [cellsI_length])
  have e : vs.toList = cellsI xs := by rw [hvs]
  rw [e] at h1
  exact h1
end Go.Proofs.Ytlclhdolcokipaa
/-
  Texts drawn from a reader.
-/
namespace Go.Proofs.Ytlclhdolcokipaa
open Go.RowKit
open Go.ChangeShapes Go.WideShapes Go.ChangeAt Go.Deep

theorem OwnT.keeps {r : Nat} {w w' : World} {B : Nat} {v : Value} {xs : List ByteArray} (h : OwnT w B v xs) (hr : r < B) (hk : Keeps (RK r w) w w') : OwnT w' B v xs := ⟨own_keeps h.1 hr hk, h.2⟩
theorem okT_set {l : List ByteArray} (h : okT l) (k : Nat) (s : ByteArray) (hs : s.size ≤ 9223372036854775807) : okT (l.set k s) := fun y hy => by
  rcases List.mem_or_eq_of_mem_set hy with hy | rfl
  · exact h y hy
  · exact hs

set_option maxHeartbeats 3200000 in
theorem someTexts_any (r P : Nat) (w : World) (h : Reader w r P) (hP : P ≤ 1000000) :
    Calls Try.prog 83 #[.pointer (some ⟨r, 0, none⟩)] w fun e w' => ∃ v ts, e = .returned v ∧ ts.length ≤ 41 ∧ OwnT w' w.heap.size v ts ∧ Keeps (RK r w) w w' := by
  have hrlt := h.lt
  have hb0 : Below w.heap.size w (w.alloc (.cells #[] 9)) := (Below.refl _ _).alloc (Nat.le_refl _) _
  have hlit : OwnT (w.alloc (.cells #[] 9)) w.heap.size (.slice (some ⟨w.heap.size, 0, none⟩) 0 0) [] :=
    ⟨World.ownsRow_lit (base := w.heap.size) (e := 9) (size := 1) w #[] 0 (Nat.le_refl _) (by unfold maxLen; omega) rfl, fun x hx => by simp at hx⟩
  obtain ⟨i0, hi0, hz0, hz1, hz2⟩ := info_parts Try.infoS
  go_enter Try.func83, Try.ntmps83
  go_wp2_with fail
  refine (one_lit_at (w.heap.size + 1) r P [4, 6, 3, 8, 2, 0, 12, 41] (w.alloc (.cells #[] 9)) (by simp) (h.below hb0) (by omega) (by decide) (by decide) rfl rfl).mono ?_
  rintro e w1 ⟨n, hn, rfl, hr1, hk1⟩
  have hn8 : 0 ≤ n ∧ n ≤ 41 := by simp at hn; omega
  obtain ⟨q0, rfl⟩ := Int.eq_ofNat_of_zero_le hn8.1
  have hk1' := RK.trans (RK.of_below hb0) hk1
  have hlit1 := hlit.keeps hrlt hk1
  clear hn hlit hk1
  go_wp2
  go_loopw [3, 4] (fun x i wr => ∃ (ts : List ByteArray) (q : Nat), i = .int .i64 q ∧ ts.length + q ≤ 41 ∧ OwnT wr w.heap.size x ts ∧ Reader wr r (P + 1 + (41 - q)) ∧ Keeps (RK r w) w wr) (fun _ i _ => (intOf i).toNat)
  case atStart => exact ⟨[], q0, rfl, by simp; omega, hlit1, hr1.mono (by omega), hk1'⟩
  case round =>
    clear hlit1 hr1 hk1' h
    obtain ⟨ts, q, rfl, hq8, hown, hr, hk⟩ := hrel
    obtain ⟨xo, xcap, rfl, _, _⟩ := own_slice hown.1
    by_cases hq : 0 < q
    · go_wp2_with fail
      refine (of_lit r _ [⟨#[97]⟩, ⟨#[98]⟩, ⟨#[99]⟩, ⟨#[97]⟩, ⟨#[97, 98]⟩, ⟨#[100]⟩] wr hr (by omega) (by decide) (by decide) rfl rfl).mono ?_
      rintro e w2 ⟨s, hs, rfl, hr2, hk2⟩
      have hs2 := short_mem (by rfl) hs
      have hown2 := hown.keeps hrlt hk2
      have hkk2 := RK.trans hk hk2
      have hsz2 : w.heap.size ≤ w2.heap.size := hkk2.size
      clear hs hr hk2 hk hown
      go_wp2_with (at_builtin; refine wpList_append_own _ rfl _ _ 47 rfl w.heap.size 9 i0 (.string ⟨#[]⟩) 1 16 Try.underlying47 hi0 hz0 hz1 hz2 rfl (by decide) (.slice xo ts.length xcap) ts.length (cellsT ts) rfl (hown2.1.alloc _) ⟨w2.heap.size, 0, none⟩ 1 1 [.string s] rfl rfl (cell_one_new _ _ _) (by intro u hu; simp at hu; subst hu; rfl) (by unfold maxLen; omega) (by omega) (by simp; omega) ?_; intro v' w5 hown5 hgrow5 hnil5)
      have hrow5 : OwnT w5 w.heap.size v' (ts ++ [s]) := ⟨by
        have e1 : cellsT (ts ++ [s]) = cellsT ts ++ [.string s] := by simp [cellsT]
        rw [List.length_append, e1]; exact hown5, fun x hx => by
        rcases List.mem_append.1 hx with hx | hx
        · exact hown2.2 x hx
        · rw [List.mem_singleton.1 hx]; exact hs2⟩
      have hbb : Below w2.heap.size w2 (w2.alloc (.cells #[.string s] 9)) := (Below.refl _ _).alloc (Nat.le_refl _) _
      have hkk5 : Keeps (RK r w) w w5 := by
        refine (RK.alloc hkk2 _).trans ⟨hgrow5.os, hgrow5.tape, hgrow5.output, hgrow5.size, fun j hj => hgrow5.block j (by simp; have := hj.1; omega) (fun e => ?_)⟩
        have := (hown2.1.lt j e.symm).1
        have := hj.1
        omega
      have hr5 : Reader w5 r (P + 1 + (41 - q) + 1) := (hr2.below hbb).grown_to hgrow5 (fun j e => by have := (hown2.1.lt j e).1; omega)
      clear hown5 hgrow5 hnil5 hown2 hkk2 hr2 hbb
      go_roundw
      case rel => exact ⟨_, q - 1, by go_num, by rw [List.length_append]; simp; omega, hrow5, hr5.mono (by omega), hkk5⟩
      case measure => simp [intOf]; omega
    · obtain rfl : q = 0 := by omega
      by_cases hz : 0 < ts.length
      · have hcmp : (0 : Int) < (ts.length : Int) := by omega
        obtain ⟨g, cap', e, hgc, hgB⟩ := own_shape hown.1 hz
        simp only [Value.slice.injEq] at e
        obtain ⟨rfl, _, rfl⟩ := e
        go_wp2_with fail
        refine (pick_any r _ 24 wr hr (by omega) (by omega) (by omega)).mono ?_
        rintro e w3 ⟨c, rfl, hc, hr3, hk3⟩
        have hown3 := hown.keeps hrlt hk3
        have hkk3 := RK.trans hk hk3
        clear hown hk hk3 hr
        by_cases h0 : c = 0
        · subst h0
          go_wp2_with fail
          refine (pick_any r _ ts.length w3 hr3 (by omega) (by omega) (by omega)).mono ?_
          rintro e w4 ⟨k, rfl, hkl, hr4, hk4⟩
          have hlt : k < ts.length := by omega
          have hown4 := hown3.keeps hrlt hk4
          have hkk4 := RK.trans hkk3 hk4
          clear hown3 hkk3 hk4 hr3
          go_wp2_with fail
          refine (of_lit r _ [⟨#[]⟩, ⟨#[65]⟩, ⟨#[97, 98, 99, 100, 101]⟩] w4 hr4 (by omega) (by decide) (by decide) rfl rfl).mono ?_
          rintro e w5 ⟨s, hs, rfl, hr5, hk5⟩
          have hs2 := short_mem (by rfl) hs
          have hrow5 := (hown4.keeps hrlt hk5).1
          have hkk5 := RK.trans hkk4 hk5
          obtain ⟨u, c1⟩ := row_cell hrow5 (j := k) (by omega)
          have f1 := hrow5.frozenAt k
          have hst := (hrow5.stored k (.string s)).1
          have e1 : (cellsT ts).set k (.string s) = cellsT (ts.set k s) := by simp [cellsT, List.map_set]
          rw [e1] at hst
          clear hs e1
          go_wp2
          go_ret
          exact ⟨_, ts.set k s, rfl, by rw [List.length_set]; omega, ⟨by rw [List.length_set]; exact hst, okT_set hown4.2 k s hs2⟩, RK.set hkk5 hgB _⟩
        · have hb0 : ((c : Int) == 0) = false := by rw [beq_eq_false_iff_ne]; omega
          go_wp2
          go_ret
          exact ⟨_, ts, rfl, by omega, hown3, hkk3⟩
      · have hcmp : ¬ (0 : Int) < (ts.length : Int) := by omega
        go_wp2
        go_ret
        exact ⟨_, rfl, ts, by omega, hown, hk⟩
end Go.Proofs.Ytlclhdolcokipaa
/-
  A text in a list, and lists without a text twice, as statements ask for them.
-/
namespace Go.Proofs.Ytlclhdolcokipaa
open Go.RowKit
open Go.ChangeShapes Go.WideShapes Go.ChangeAt Go.Deep

theorem Texts.takeA {w : World} {ao : Option Addr} {n cap : Nat} {xs : List ByteArray} (h : Texts w (.slice ao n cap) xs) {k : Nat} (hk : k ≤ xs.length) : Texts w (.slice ao k cap) (xs.take k) := by
  obtain ⟨ao', cap', hv, hlc, hcm, hok, hcell⟩ := h
  simp only [Value.slice.injEq] at hv
  obtain ⟨rfl, rfl, rfl⟩ := hv
  have hl : (xs.take k).length = k := by simp; omega
  refine ⟨ao, cap, by rw [hl], by omega, hcm, fun x hx => hok x (List.mem_of_mem_take hx), fun j hj => ?_⟩
  have hj' : j < xs.length := by omega
  obtain ⟨b, o, ha, hb, h1⟩ := hcell j hj'
  exact ⟨b, o, ha, hb, by simpa using h1⟩
theorem Texts.shape {w : World} {v : Value} {xs : List ByteArray} (h : Texts w v xs) : ∃ ao cap, v = .slice ao xs.length cap ∧ xs.length ≤ cap ∧ cap ≤ 9223372036854775807 := by
  obtain ⟨ao, cap, e, h1, h2, _⟩ := h
  exact ⟨ao, cap, e, h1, h2⟩
theorem Texts.dropA {w : World} {ao A : Option Addr} {n cap k : Nat} {xs : List ByteArray} (h : Texts w (.slice ao n cap) xs) (hk : k ≤ n) (hA : cap ≠ k → A = ao.map (fun x => x.add k)) : Texts w (.slice A (n - k) (cap - k)) (xs.drop k) := by
  obtain ⟨ao', cap', hv, hlc, hcm, hok, hcell⟩ := h
  simp only [Value.slice.injEq] at hv
  obtain ⟨rfl, rfl, rfl⟩ := hv
  refine ⟨A, cap - k, by rw [List.length_drop], by rw [List.length_drop]; omega, by omega, fun x hx => hok x (List.mem_of_mem_drop hx), fun j hj => ?_⟩
  rw [List.length_drop] at hj
  obtain ⟨b, o, ha, hb, h1⟩ := hcell (k + j) (by omega)
  refine ⟨b, o + k, ?_, hb, ?_⟩
  · rw [hA (by omega), ha]
    simp [Addr.add_lit]
  · rw [Nat.add_assoc, h1, List.getElem_drop]
theorem Texts_nil {w : World} : Texts w (.slice none 0 0) [] := Texts_none (by omega)
theorem Things.argT {W w : World} {L : List Thing} (H : Things W w L) {v : Value} {xs : List ByteArray} (h : Texts W v xs) : Texts w v xs := h.mono H.below (Nat.le_refl _)
def memT (xs : List ByteArray) (s : ByteArray) : Bool := xs.any fun x => decide (x = s)
theorem memT_iff {xs : List ByteArray} {s : ByteArray} : memT xs s = true ↔ s ∈ xs := by
  unfold memT
  rw [List.any_eq_true]
  constructor
  · rintro ⟨x, hx, e⟩
    rw [← of_decide_eq_true e]
    exact hx
  · intro h
    exact ⟨s, h, decide_eq_true rfl⟩
theorem memT_no {xs : List ByteArray} {s : ByteArray} : memT xs s = false ↔ s ∉ xs := by
  rw [← memT_iff, Bool.not_eq_true]
theorem mem_take_succ {xs : List ByteArray} {k : Nat} (h : k < xs.length) (s : ByteArray) : s ∈ xs.take (k + 1) ↔ s ∈ xs.take k ∨ s = xs[k] := by
  rw [List.take_succ_eq_append_getElem h, List.mem_append, List.mem_singleton]
theorem nodup_take_succ {xs : List ByteArray} {k : Nat} (h : k < xs.length) : (xs.take (k + 1)).Nodup ↔ (xs.take k).Nodup ∧ xs[k] ∉ xs.take k := by
  rw [List.take_succ_eq_append_getElem h, List.nodup_append]
  constructor
  · rintro ⟨h1, _, h3⟩
    exact ⟨h1, fun hm => h3 _ hm _ (by simp) rfl⟩
  · rintro ⟨h1, h2⟩
    exact ⟨h1, by simp, fun a ha b hb => by rw [List.mem_singleton.1 hb]; rintro rfl; exact h2 ha⟩

end Go.Proofs.Ytlclhdolcokipaa
