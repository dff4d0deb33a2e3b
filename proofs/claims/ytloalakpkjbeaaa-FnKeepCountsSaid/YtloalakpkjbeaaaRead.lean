/-
  The reader of a code, from which the statements' inputs are drawn: nothing is said but that numbers are drawn in their bounds.
-/
import Derived.Test.YtloalakpkjbeaaaStr
import Derived.Test.YtloalakpkjbeaaaKeep
import Derived.Laws.Bits64
namespace Go.Proofs.Ytloalakpkjbeaaa
open Go.RowKit

def okByt (bs : List Int) : Prop := ∀ x ∈ bs, 0 ≤ x ∧ x ≤ 255
/-- The slice v reads as the bytes bs. -/
def Bytes (w : World) (v : Value) (bs : List Int) : Prop :=
  ∃ ao cap, v = .slice ao bs.length cap ∧ bs.length ≤ cap ∧ cap ≤ 9223372036854775807 ∧ okByt bs ∧
    ∀ k (_ : k < bs.length), ∃ b o, ao = some ⟨b, o, none⟩ ∧ b < w.heap.size ∧ w.cell? ⟨b, o + k, none⟩ = some (.int .u8 bs[k])
theorem Bytes.kept {w w' : World} {v : Value} {bs : List Int} {K : Nat → Prop} (h : Bytes w v bs) (hk : Keeps K w w') (hv : 0 < bs.length → ∀ g, v.ownBlock = some g → K g) : Bytes w' v bs := by
  obtain ⟨ao, cap, rfl, hl, hc, hok, hcell⟩ := h
  refine ⟨ao, cap, rfl, hl, hc, hok, fun k hlt => ?_⟩
  obtain ⟨b, o, ha, hs, h1⟩ := hcell k hlt
  subst ha
  exact ⟨b, o, rfl, Nat.lt_of_lt_of_le hs hk.size, (hk.cell (a := ⟨b, _, none⟩) (hv (by omega) b rfl)).trans h1⟩

/-- All blocks of w but r. -/
def RK (r : Nat) (w : World) : Nat → Prop := fun j => j < w.heap.size ∧ j ≠ r
theorem RK.trans {r : Nat} {w w' w'' : World} (h : Keeps (RK r w) w w') (h' : Keeps (RK r w') w' w'') : Keeps (RK r w) w w'' :=
  h.trans (h'.mono fun _ hk => ⟨Nat.lt_of_lt_of_le hk.1 h.size, hk.2⟩)

/-- Block r is a reader, no further than P. -/
def Reader (w : World) (r : Nat) (P : Nat) : Prop :=
  ∃ (v : Value) (bs : List Int) (p : Nat), w.heap[r]? = some (.cells #[v, .int .i64 p] 71 (0, 0)) ∧ Bytes w v bs ∧ bs.length ≤ 2000 ∧ (0 < bs.length → ∀ g, v.ownBlock = some g → g < r) ∧ p ≤ P

theorem bits_xor_nonneg {a b : Int} (ha : 0 ≤ a) (ha' : a < 4611686018427387904) (hb : 0 ≤ b) (hb' : b < 4611686018427387904) : 0 ≤ bits .xor .i64 a b := by
  obtain ⟨x, rfl⟩ := Int.eq_ofNat_of_zero_le ha
  obtain ⟨y, rfl⟩ := Int.eq_ofNat_of_zero_le hb
  have hx : x ^^^ y < 2 ^ 62 := Nat.xor_lt_two_pow (by omega) (by omega)
  have h1 : (BitVec.ofInt 64 (x : Int)).toNat = x := by
    rw [BitVec.ofInt_natCast, BitVec.toNat_ofNat]; exact Nat.mod_eq_of_lt (by omega)
  have h2 : (BitVec.ofInt 64 (y : Int)).toNat = y := by
    rw [BitVec.ofInt_natCast, BitVec.toNat_ofNat]; exact Nat.mod_eq_of_lt (by omega)
  show 0 ≤ IntKind.i64.wrap ((BitVec.ofInt 64 (x : Int) ^^^ BitVec.ofInt 64 (y : Int)).toNat : Int)
  rw [BitVec.toNat_xor, h1, h2, IntWalk.i64_in _ (by omega)]
  omega

theorem Bytes.lt {w : World} {v : Value} {bs : List Int} (h : Bytes w v bs) (hl : 0 < bs.length) {g : Nat} (hg : v.ownBlock = some g) : g < w.heap.size := by
  obtain ⟨ao, cap, rfl, _, _, _, hcell⟩ := h
  obtain ⟨b, o, e, hb, _⟩ := hcell 0 hl
  subst e
  cases hg
  exact hb
theorem reader_made {w : World} {v : Value} {bs : List Int} (hb : Bytes w v bs) (hl : bs.length ≤ 2000) : Reader (w.alloc (.cells #[v, .int .i64 0] 71)) w.heap.size 0 := by
  refine ⟨v, bs, 0, heap_alloc_new _ _, ?_, hl, ?_, Nat.le_refl _⟩
  · exact hb.kept (K := (· < w.heap.size)) ((Keeps.refl _ w).alloc (fun _ h => h) _) (fun h0 g hg => hb.lt h0 hg)
  · intro h0 g e
    exact hb.lt h0 e

set_option maxHeartbeats 1600000 in
theorem newReader_any (v : Value) (bs : List Int) (w : World) (h : Bytes w v bs) :
    Calls Try.prog 56 #[v] w fun e w' => ∃ r, e = .returned (.pointer (some ⟨r, 0, none⟩)) ∧ w.heap.size ≤ r ∧ Reader w' r 0 ∧ Below w.heap.size w w' := by
  have h0 := h
  obtain ⟨ao, cap, rfl, hl, hc, hok, hcell⟩ := h
  go_enter Try.func56, Try.ntmps56
  by_cases hn : (2000 : Int) < (bs.length : Int)
  · have h1 : (2000 : Nat) ≤ cap := by omega
    have h2 : (bs.take 2000).length = 2000 := by rw [List.length_take]; omega
    have hB : Bytes w (.slice ao 2000 cap) (bs.take 2000) := by
      refine ⟨ao, cap, by rw [h2], by omega, hc, fun x hx => hok x (List.mem_of_mem_take hx), fun k hk => ?_⟩
      obtain ⟨b, o, e, hb, hcl⟩ := hcell k (by omega)
      exact ⟨b, o, e, hb, by rw [List.getElem_take]; exact hcl⟩
    go_wp2
    go_ret
    exact ⟨_, rfl, Nat.le_refl _, reader_made hB (by omega), (Below.refl _ _).alloc (Nat.le_refl _) _⟩
  · go_wp2
    go_ret
    exact ⟨_, rfl, Nat.le_refl _, reader_made h0 (by omega), (Below.refl _ _).alloc (Nat.le_refl _) _⟩

/-- One number drawn. -/
theorem reader_moved {w : World} {r P p : Nat} {v : Value} {bs : List Int} (hblk : w.heap[r]? = some (.cells #[v, .int .i64 p] 71 (0, 0))) (hB : Bytes w v bs) (hb2 : bs.length ≤ 2000) (hvr : 0 < bs.length → ∀ g, v.ownBlock = some g → g < r) (hp : p ≤ P) (n : Nat) :
    Reader ((w.setCell ⟨r, 1, none⟩ (.int .i64 ((p : Int) + 1))).drewN n) r (P + 1) ∧ Keeps (RK r w) w ((w.setCell ⟨r, 1, none⟩ (.int .i64 ((p : Int) + 1))).drewN n) := by
  have hk : Keeps (RK r w) w (w.setCell ⟨r, 1, none⟩ (.int .i64 ((p : Int) + 1))) := (Keeps.refl _ w).setCell (fun h => h.2 rfl) _
  have hk' : Keeps (RK r w) w ((w.setCell ⟨r, 1, none⟩ (.int .i64 ((p : Int) + 1))).drewN n) := ⟨hk.os, hk.tape, hk.output, hk.size, hk.block⟩
  exact ⟨⟨v, bs, p + 1, two_set1 hblk _, hB.kept hk' (fun h0 g hg => ⟨hB.lt h0 hg, fun e => by have := hvr h0 g hg; omega⟩), hb2, hvr, by omega⟩, hk'⟩

set_option maxHeartbeats 3200000 in
set_option maxRecDepth 100000 in
theorem pick_any (r P : Nat) (n : Int) (w : World) (h : Reader w r P) (hP : P ≤ 100000000) (h1 : 1 ≤ n) (h2 : n ≤ 1000000) :
    Calls Try.prog 83 #[.pointer (some ⟨r, 0, none⟩), .int .i64 n] w fun e w' => ∃ x : Nat, e = .returned (.int .i64 x) ∧ (x : Int) < n ∧ Reader w' r (P + 1) ∧ Keeps (RK r w) w w' := by
  obtain ⟨v, bs, p, hblk, hB, hb2, hvr, hp⟩ := h
  have HM := fun m => reader_moved hblk hB hb2 hvr hp m
  obtain ⟨ao, cap, rfl, hl, hc, hok, hcell⟩ := hB
  have c0 := two_cell0 hblk
  have c1 := two_cell1 hblk
  have f1 := two_free hblk 1
  go_enter Try.func83, Try.ntmps83
  by_cases hz : bs.length = 0
  · have hzb : ((bs.length : Int) == 0) = true := by rw [hz]; rfl
    go_wp2
    go_ret
    exact ⟨0, rfl, by omega, HM 0⟩
  · have hzb : ((bs.length : Int) == 0) = false := by rw [beq_eq_false_iff_ne]; omega
    by_cases hlt : p < bs.length
    · obtain ⟨b, o, rfl, hb, hcl⟩ := hcell p hlt
      have hne : b ≠ r := fun e => by have := hvr (by omega) b rfl; omega
      have hby := hok _ (List.getElem_mem hlt)
      have hm1 : 0 ≤ bs[p] % n := Int.emod_nonneg _ (by omega)
      have hm2 : bs[p] % n < n := Int.emod_lt_of_pos _ (by omega)
      go_wp2
      go_ret
      exact ⟨(bs[p] % n).toNat, ret_int (by omega), by omega, HM 0⟩
    · have hq1 : 0 ≤ (p : Int) % (bs.length : Int) := Int.emod_nonneg _ (by omega)
      have hq2 : (p : Int) % (bs.length : Int) < (bs.length : Int) := Int.emod_lt_of_pos _ (by omega)
      have hs1 : 0 ≤ ((p : Int) * 7 + 3) % (bs.length : Int) := Int.emod_nonneg _ (by omega)
      have hs2 : ((p : Int) * 7 + 3) % (bs.length : Int) < (bs.length : Int) := Int.emod_lt_of_pos _ (by omega)
      obtain ⟨q, hq⟩ : ∃ q : Nat, (p : Int) % (bs.length : Int) = q := ⟨((p : Int) % (bs.length : Int)).toNat, by omega⟩
      obtain ⟨s, hs⟩ : ∃ s : Nat, ((p : Int) * 7 + 3) % (bs.length : Int) = s := ⟨(((p : Int) * 7 + 3) % (bs.length : Int)).toNat, by omega⟩
      obtain ⟨b, o, rfl, hb, hcl⟩ := hcell q (by omega)
      obtain ⟨b', o', e', _, hcl'⟩ := hcell s (by omega)
      cases e'
      have hne : b ≠ r := fun e => by have := hvr (by omega) b rfl; omega
      have hbq := hok _ (List.getElem_mem (show q < bs.length by omega))
      have hbs := hok _ (List.getElem_mem (show s < bs.length by omega))
      have hd1 : 0 ≤ (p : Int) / (bs.length : Int) := Int.ediv_nonneg (by omega) (by omega)
      have hd2 : (p : Int) / (bs.length : Int) ≤ p := Int.ediv_le_self _ (by omega)
      obtain ⟨d, hd⟩ : ∃ d : Int, (p : Int) / (bs.length : Int) = d := ⟨_, rfl⟩
      rw [hd] at hd1 hd2
      have HM' := Lib.hid HM
      clear hcell hblk hvr HM
      go_wp2_with fail
      go_quiet (fail)
      obtain ⟨X, hX⟩ : ∃ X : Int, X = bs[q] * 131 + bs[s] * 1117 + (p : Int) * 29 + d * 53 := ⟨_, rfl⟩
      rw [← hX]
      have hX0 : 0 ≤ X := by omega
      have hX1 : X < 1000000000000 := by omega
      have hY := bits_xor_nonneg (a := X) (b := X / 64) hX0 (by omega) (by omega) (by omega)
      have hm1 : 0 ≤ bits .xor .i64 X (X / 64) % n := Int.emod_nonneg _ (by omega)
      have hm2 : bits .xor .i64 X (X / 64) % n < n := Int.emod_lt_of_pos _ (by omega)
      clear hX
      go_wp2
      go_ret
      exact ⟨(bits .xor .i64 X (X / 64) % n).toNat, ret_int (by omega), by omega, HM'.out _⟩
end Go.Proofs.Ytloalakpkjbeaaa
