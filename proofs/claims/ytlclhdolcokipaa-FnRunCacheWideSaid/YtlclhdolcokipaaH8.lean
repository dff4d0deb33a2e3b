/-
  Read, Read2, RdK, Read3, Read4.
-/
import Derived.Laws.Bits64
import Derived.Test.YtlclhdolcokipaaH5
import Derived.Test.YtlclhdolcokipaaH7
/-
  The reader of a code, from which the statements' inputs are drawn: nothing is said but that numbers are drawn in their bounds.
-/
namespace Go.Proofs.Ytlclhdolcokipaa
open Go.RowKit

def okByt (bs : List Int) : Prop := ∀ x ∈ bs, 0 ≤ x ∧ x ≤ 255
/-- The slice v reads as the bytes bs. -/
def Bytes (w : World) (v : Value) (bs : List Int) : Prop :=
  ∃ ao cap, v = .slice ao bs.length cap ∧ bs.length ≤ cap ∧ cap ≤ 9223372036854775807 ∧ okByt bs ∧
    ∀ k (_ : k < bs.length), ∃ b o, ao = some ⟨b, o, none⟩ ∧ b < w.heap.size ∧ w.cell? ⟨b, o + k, none⟩ = some (.int .u8 bs[k])
theorem Bytes.kept {w w' : World} {v : Value} {bs : List Int} {K : Nat → Prop} (h : Bytes w v bs) (hk : Keeps K w w') (hv : 0 < bs.length → ∀ g, v.ownBlock = some g → K g) : Bytes w' v bs := by
  obtain ⟨ao, cap, rfl, hl, hc, hok, hcell⟩ := h
  refine ⟨ao, cap, rfl, hl, hc, hok, fun k hlt => ?_⟩
  obtain ⟨b, o, ha, hs, h1⟩ := hcell k hlt
  subst ha
  exact ⟨b, o, rfl, Nat.lt_of_lt_of_le hs hk.size, (hk.cell (a := ⟨b, _, none⟩) (hv (by omega) b rfl)).trans h1⟩

/-- All blocks of w but r. -/
def RK (r : Nat) (w : World) : Nat → Prop := fun j => j < w.heap.size ∧ j ≠ r
theorem RK.trans {r : Nat} {w w' w'' : World} (h : Keeps (RK r w) w w') (h' : Keeps (RK r w') w' w'') : Keeps (RK r w) w w'' :=
  h.trans (h'.mono fun _ hk => ⟨Nat.lt_of_lt_of_le hk.1 h.size, hk.2⟩)

/-- Block r is a reader, no further than P. -/
def Reader (w : World) (r : Nat) (P : Nat) : Prop :=
  ∃ (v : Value) (bs : List Int) (p : Nat), w.heap[r]? = some (.cells #[v, .int .i64 p] 133 (0, 0)) ∧ Bytes w v bs ∧ bs.length ≤ 2000 ∧ (0 < bs.length → ∀ g, v.ownBlock = some g → g < r) ∧ p ≤ P

theorem bits_xor_nonneg {a b : Int} (ha : 0 ≤ a) (ha' : a < 4611686018427387904) (hb : 0 ≤ b) (hb' : b < 4611686018427387904) : 0 ≤ bits .xor .i64 a b := by
  obtain ⟨x, rfl⟩ := Int.eq_ofNat_of_zero_le ha
  obtain ⟨y, rfl⟩ := Int.eq_ofNat_of_zero_le hb
  have hx : x ^^^ y < 2 ^ 62 := Nat.xor_lt_two_pow (by omega) (by omega)
  have h1 : (BitVec.ofInt 64 (x : Int)).toNat = x := by
    rw [BitVec.ofInt_natCast, BitVec.toNat_ofNat]; exact Nat.mod_eq_of_lt (by omega)
  have h2 : (BitVec.ofInt 64 (y : Int)).toNat = y := by
    rw [BitVec.ofInt_natCast, BitVec.toNat_ofNat]; exact Nat.mod_eq_of_lt (by omega)
  show 0 ≤ IntKind.i64.wrap ((BitVec.ofInt 64 (x : Int) ^^^ BitVec.ofInt 64 (y : Int)).toNat : Int)
  rw [BitVec.toNat_xor, h1, h2, IntWalk.i64_in _ (by omega)]
  omega

theorem Bytes.lt {w : World} {v : Value} {bs : List Int} (h : Bytes w v bs) (hl : 0 < bs.length) {g : Nat} (hg : v.ownBlock = some g) : g < w.heap.size := by
  obtain ⟨ao, cap, rfl, _, _, _, hcell⟩ := h
  obtain ⟨b, o, e, hb, _⟩ := hcell 0 hl
  subst e
  cases hg
  exact hb
theorem reader_made {w : World} {v : Value} {bs : List Int} (hb : Bytes w v bs) (hl : bs.length ≤ 2000) : Reader (w.alloc (.cells #[v, .int .i64 0] 133)) w.heap.size 0 := by
  refine ⟨v, bs, 0, heap_alloc_new _ _, ?_, hl, ?_, Nat.le_refl _⟩
  · exact hb.kept (K := (· < w.heap.size)) ((Keeps.refl _ w).alloc (fun _ h => h) _) (fun h0 g hg => hb.lt h0 hg)
  · intro h0 g e
    exact hb.lt h0 e

set_option maxHeartbeats 1600000 in
set_option maxRecDepth 100000 in
theorem newReader_any (v : Value) (bs : List Int) (w : World) (h : Bytes w v bs) :
    Calls Try.prog 58 #[v] w fun e w' => ∃ r, e = .returned (.pointer (some ⟨r, 0, none⟩)) ∧ w.heap.size ≤ r ∧ Reader w' r 0 ∧ Below w.heap.size w w' := by
  have h0 := h
  obtain ⟨ao, cap, rfl, hl, hc, hok, hcell⟩ := h
  go_enter Try.func58, Try.ntmps58
  by_cases hn : (2000 : Int) < (bs.length : Int)
  · have h1 : (2000 : Nat) ≤ cap := by omega
    have h2 : (bs.take 2000).length = 2000 := by rw [List.length_take]; omega
    have hB : Bytes w (.slice ao 2000 cap) (bs.take 2000) := by
      refine ⟨ao, cap, by rw [h2], by omega, hc, fun x hx => hok x (List.mem_of_mem_take hx), fun k hk => ?_⟩
      obtain ⟨b, o, e, hb, hcl⟩ := hcell k (by omega)
      exact ⟨b, o, e, hb, by rw [List.getElem_take]; exact hcl⟩
    go_wp2
    go_ret
    exact ⟨_, rfl, Nat.le_refl _, reader_made hB (by omega), (Below.refl _ _).alloc (Nat.le_refl _) _⟩
  · go_wp2
    go_ret
    exact ⟨_, rfl, Nat.le_refl _, reader_made h0 (by omega), (Below.refl _ _).alloc (Nat.le_refl _) _⟩

/-- One number drawn. -/
theorem reader_moved {w : World} {r P p : Nat} {v : Value} {bs : List Int} (hblk : w.heap[r]? = some (.cells #[v, .int .i64 p] 133 (0, 0))) (hB : Bytes w v bs) (hb2 : bs.length ≤ 2000) (hvr : 0 < bs.length → ∀ g, v.ownBlock = some g → g < r) (hp : p ≤ P) (n : Nat) :
    Reader ((w.setCell ⟨r, 1, none⟩ (.int .i64 ((p : Int) + 1))).drewN n) r (P + 1) ∧ Keeps (RK r w) w ((w.setCell ⟨r, 1, none⟩ (.int .i64 ((p : Int) + 1))).drewN n) := by
  have hk : Keeps (RK r w) w (w.setCell ⟨r, 1, none⟩ (.int .i64 ((p : Int) + 1))) := (Keeps.refl _ w).setCell (fun h => h.2 rfl) _
  have hk' : Keeps (RK r w) w ((w.setCell ⟨r, 1, none⟩ (.int .i64 ((p : Int) + 1))).drewN n) := ⟨hk.os, hk.tape, hk.output, hk.size, hk.block⟩
  exact ⟨⟨v, bs, p + 1, two_set1 hblk _, hB.kept hk' (fun h0 g hg => ⟨hB.lt h0 hg, fun e => by have := hvr h0 g hg; omega⟩), hb2, hvr, by omega⟩, hk'⟩

set_option maxHeartbeats 3200000 in
set_option maxRecDepth 100000 in
theorem pick_any (r P : Nat) (n : Int) (w : World) (h : Reader w r P) (hP : P ≤ 100000000) (h1 : 1 ≤ n) (h2 : n ≤ 1000000) :
    Calls Try.prog 108 #[.pointer (some ⟨r, 0, none⟩), .int .i64 n] w fun e w' => ∃ x : Nat, e = .returned (.int .i64 x) ∧ (x : Int) < n ∧ Reader w' r (P + 1) ∧ Keeps (RK r w) w w' := by
  obtain ⟨v, bs, p, hblk, hB, hb2, hvr, hp⟩ := h
  have HM := fun m => reader_moved hblk hB hb2 hvr hp m
  obtain ⟨ao, cap, rfl, hl, hc, hok, hcell⟩ := hB
  have c0 := two_cell0 hblk
  have c1 := two_cell1 hblk
  have f1 := two_free hblk 1
  go_enter Try.func108, Try.ntmps108
  by_cases hz : bs.length = 0
  · have hzb : ((bs.length : Int) == 0) = true := by rw [hz]; rfl
    go_wp2
    go_ret
    exact ⟨0, rfl, by omega, HM 0⟩
  · have hzb : ((bs.length : Int) == 0) = false := by rw [beq_eq_false_iff_ne]; omega
    by_cases hlt : p < bs.length
    · obtain ⟨b, o, rfl, hb, hcl⟩ := hcell p hlt
      have hne : b ≠ r := fun e => by have := hvr (by omega) b rfl; omega
      have hby := hok _ (List.getElem_mem hlt)
      have hm1 : 0 ≤ bs[p] % n := Int.emod_nonneg _ (by omega)
      have hm2 : bs[p] % n < n := Int.emod_lt_of_pos _ (by omega)
      go_wp2
      go_ret
      exact ⟨(bs[p] % n).toNat, ret_int (by omega), by omega, HM 0⟩
    · have hq1 : 0 ≤ (p : Int) % (bs.length : Int) := Int.emod_nonneg _ (by omega)
      have hq2 : (p : Int) % (bs.length : Int) < (bs.length : Int) := Int.emod_lt_of_pos _ (by omega)
      have hs1 : 0 ≤ ((p : Int) * 7 + 3) % (bs.length : Int) := Int.emod_nonneg _ (by omega)
      have hs2 : ((p : Int) * 7 + 3) % (bs.length : Int) < (bs.length : Int) := Int.emod_lt_of_pos _ (by omega)
      obtain ⟨q, hq⟩ : ∃ q : Nat, (p : Int) % (bs.length : Int) = q := ⟨((p : Int) % (bs.length : Int)).toNat, by omega⟩
      obtain ⟨s, hs⟩ : ∃ s : Nat, ((p : Int) * 7 + 3) % (bs.length : Int) = s := ⟨(((p : Int) * 7 + 3) % (bs.length : Int)).toNat, by omega⟩
      obtain ⟨b, o, rfl, hb, hcl⟩ := hcell q (by omega)
      obtain ⟨b', o', e', _, hcl'⟩ := hcell s (by omega)
      cases e'
      have hne : b ≠ r := fun e => by have := hvr (by omega) b rfl; omega
      have hbq := hok _ (List.getElem_mem (show q < bs.length by omega))
      have hbs := hok _ (List.getElem_mem (show s < bs.length by omega))
      have hd1 : 0 ≤ (p : Int) / (bs.length : Int) := Int.ediv_nonneg (by omega) (by omega)
      have hd2 : (p : Int) / (bs.length : Int) ≤ p := Int.ediv_le_self _ (by omega)
      obtain ⟨d, hd⟩ : ∃ d : Int, (p : Int) / (bs.length : Int) = d := ⟨_, rfl⟩
      rw [hd] at hd1 hd2
      have HM' := Lib.hid HM
      clear hcell hblk hvr HM
      go_wp2_with fail
      go_quiet (fail)
      obtain ⟨X, hX⟩ : ∃ X : Int, X = bs[q] * 131 + bs[s] * 1117 + (p : Int) * 29 + d * 53 := ⟨_, rfl⟩
      rw [← hX]
      have hX0 : 0 ≤ X := by omega
      have hX1 : X < 1000000000000 := by omega
      have hY := bits_xor_nonneg (a := X) (b := X / 64) hX0 (by omega) (by omega) (by omega)
      have hm1 : 0 ≤ bits .xor .i64 X (X / 64) % n := Int.emod_nonneg _ (by omega)
      have hm2 : bits .xor .i64 X (X / 64) % n < n := Int.emod_lt_of_pos _ (by omega)
      clear hX
      go_wp2
      go_ret
      exact ⟨(bits .xor .i64 X (X / 64) % n).toNat, ret_int (by omega), by omega, HM'.out _⟩
end Go.Proofs.Ytlclhdolcokipaa
/-
  What is drawn from a reader: one of some numbers, one of some texts; keys and counts.
-/
namespace Go.Proofs.Ytlclhdolcokipaa
open Go.RowKit

/-- The slice v, elsewhere than in block r, holds the values xs, one cell each. -/
def Holds1 (r : Nat) (w : World) (v : Value) (xs : List Value) : Prop :=
  ∃ b o cap, v = .slice (some ⟨b, o, none⟩) xs.length cap ∧ xs.length ≤ cap ∧ cap ≤ 9223372036854775807 ∧ b < w.heap.size ∧ b ≠ r ∧ ∀ k u, xs[k]? = some u → w.cell? ⟨b, o + k, none⟩ = some u
theorem Holds1.kept {r : Nat} {w w' : World} {v : Value} {xs : List Value} (h : Holds1 r w v xs) (hk : Keeps (RK r w) w w') : Holds1 r w' v xs := by
  obtain ⟨b, o, cap, rfl, h1, h2, hb, hne, hc⟩ := h
  exact ⟨b, o, cap, rfl, h1, h2, Nat.lt_of_lt_of_le hb hk.size, hne, fun k u hu => (hk.cell (a := ⟨b, _, none⟩) ⟨hb, hne⟩).trans (hc k u hu)⟩
theorem holds_lit (r : Nat) (w : World) (xs : List Value) (E : Nat) (hr : r < w.heap.size) (hl : xs.length ≤ 1000) : Holds1 r (w.alloc (.cells xs.toArray E)) (.slice (some ⟨w.heap.size, 0, none⟩) xs.length xs.length) xs := by
  refine ⟨w.heap.size, 0, xs.length, rfl, Nat.le_refl _, by omega, by simp, by omega, fun k u hu => ?_⟩
  rw [cell_of_row _ w.heap.size (0 + k) xs.toArray E (0, 0) (heap_alloc_new _ _)]
  simpa using hu
theorem Reader.lt {w : World} {r P : Nat} (h : Reader w r P) : r < w.heap.size := by
  obtain ⟨v, bs, p, hb, _⟩ := h
  exact lt_of_block hb
theorem Reader.mono {w : World} {r P P' : Nat} (h : Reader w r P) (hp : P ≤ P') : Reader w r P' := by
  obtain ⟨v, bs, p, h1, h2, h3, h4, h5⟩ := h
  exact ⟨v, bs, p, h1, h2, h3, h4, Nat.le_trans h5 hp⟩
theorem Reader.below {w w' : World} {r P : Nat} (h : Reader w r P) (hb : Below w.heap.size w w') : Reader w' r P := by
  obtain ⟨v, bs, p, h1, h2, h3, h4, h5⟩ := h
  exact ⟨v, bs, p, (hb.block r (lt_of_block h1)).trans h1, h2.kept (K := (· < w.heap.size)) (Keeps.of_below hb (fun _ h => h)) (fun h0 g hg => h2.lt h0 hg), h3, h4, h5⟩
theorem RK.of_below {r : Nat} {w w' : World} (hb : Below w.heap.size w w') : Keeps (RK r w) w w' := Keeps.of_below hb (fun _ h => h.1)

set_option maxHeartbeats 800000 in
set_option maxRecDepth 100000 in
theorem one_any (r P : Nat) (v : Value) (ns : List Int) (w : World) (h : Reader w r P) (hP : P ≤ 100000000) (hv : Holds1 r w v (ns.map (Value.int .i64))) (h0 : 0 < ns.length) (h1 : ns.length ≤ 1000) :
    Calls Try.prog 73 #[.pointer (some ⟨r, 0, none⟩), v] w fun e w' => ∃ x, x ∈ ns ∧ e = .returned (.int .i64 x) ∧ Reader w' r (P + 1) ∧ Keeps (RK r w) w w' := by
  have HV := Lib.hid hv
  obtain ⟨b, o, cap, rfl, hl, hc, hb, hne, hcell⟩ := hv
  rw [List.length_map] at hl
  have el : (ns.map (Value.int .i64)).length = ns.length := List.length_map _
  rw [el] at HV ⊢
  go_enter Try.func73, Try.ntmps73
  go_wp2_with fail
  refine (pick_any r P ns.length w h hP (by omega) (by omega)).mono ?_
  rintro e w1 ⟨x, rfl, hx, hr1, hk1⟩
  have hx' : x < ns.length := by omega
  have c1 : w1.cell? ⟨b, o + x, none⟩ = some (.int .i64 ns[x]) := (hk1.cell (a := ⟨b, o + x, none⟩) ⟨hb, hne⟩).trans (hcell x _ (by simp [hx']))
  have hm := List.getElem_mem hx'
  clear hcell
  go_wp2
  go_ret
  exact ⟨_, hm, rfl, hr1, hk1⟩

set_option maxHeartbeats 800000 in
set_option maxRecDepth 100000 in
theorem of_any (r P : Nat) (v : Value) (ns : List ByteArray) (w : World) (h : Reader w r P) (hP : P ≤ 100000000) (hv : Holds1 r w v (ns.map Value.string)) (h0 : 0 < ns.length) (h1 : ns.length ≤ 1000) :
    Calls Try.prog 125 #[.pointer (some ⟨r, 0, none⟩), v] w fun e w' => ∃ x, x ∈ ns ∧ e = .returned (.string x) ∧ Reader w' r (P + 1) ∧ Keeps (RK r w) w w' := by
  have HV := Lib.hid hv
  obtain ⟨b, o, cap, rfl, hl, hc, hb, hne, hcell⟩ := hv
  rw [List.length_map] at hl
  have el : (ns.map Value.string).length = ns.length := List.length_map _
  rw [el] at HV ⊢
  go_enter Try.func125, Try.ntmps125
  go_wp2_with fail
  refine (pick_any r P ns.length w h hP (by omega) (by omega)).mono ?_
  rintro e w1 ⟨x, rfl, hx, hr1, hk1⟩
  have hx' : x < ns.length := by omega
  have c1 : w1.cell? ⟨b, o + x, none⟩ = some (.string ns[x]) := (hk1.cell (a := ⟨b, o + x, none⟩) ⟨hb, hne⟩).trans (hcell x _ (by simp [hx']))
  have hm := List.getElem_mem hx'
  clear hcell
  go_wp2
  go_ret
  exact ⟨_, hm, rfl, hr1, hk1⟩

/-- A drawn text. -/
def DrawS (r P : Nat) (w : World) (e : Ending) (w' : World) : Prop := ∃ s : ByteArray, s.size ≤ 9223372036854775807 ∧ e = .returned (.string s) ∧ Reader w' r P ∧ Keeps (RK r w) w w'
/-- A drawn number. -/
def DrawN (r P : Nat) (w : World) (e : Ending) (w' : World) : Prop := ∃ x : Int, (-10000 ≤ x ∧ x ≤ 10000) ∧ e = .returned (.int .i64 x) ∧ Reader w' r P ∧ Keeps (RK r w) w w'

set_option maxRecDepth 100000 in
theorem of_lit (r P : Nat) (ns : List ByteArray) (w : World) (h : Reader w r P) (hP : P ≤ 100000000) (h0 : 0 < ns.length) (h1 : ns.length ≤ 1000) {n : Nat} (hn : ns.length = n) {vs : Array Value} (hvs : (ns.map Value.string).toArray = vs) :
    Calls Try.prog 125 #[.pointer (some ⟨r, 0, none⟩), .slice (some ⟨w.heap.size, 0, none⟩) n n] (w.alloc (.cells vs 9)) fun e w' => ∃ x, x ∈ ns ∧ e = .returned (.string x) ∧ Reader w' r (P + 1) ∧ Keeps (RK r w) w w' := by
  subst hvs hn
  have hb : Below w.heap.size w (w.alloc (.cells (ns.map Value.string).toArray 9)) := (Below.refl _ _).alloc (Nat.le_refl _) _
  have hv := holds_lit r w (ns.map Value.string) 9 h.lt (by rw [List.length_map]; exact h1)
  rw [List.length_map] at hv
  refine (of_any r P _ ns _ (h.below hb) hP hv h0 h1).mono ?_
  rintro e w' ⟨x, hx, rfl, hr, hk⟩
  exact ⟨x, hx, rfl, hr, RK.trans (RK.of_below hb) hk⟩
set_option maxRecDepth 100000 in
theorem one_lit (r P : Nat) (ns : List Int) (w : World) (h : Reader w r P) (hP : P ≤ 100000000) (h0 : 0 < ns.length) (h1 : ns.length ≤ 1000) {n : Nat} (hn : ns.length = n) {vs : Array Value} (hvs : (ns.map (Value.int .i64)).toArray = vs) :
    Calls Try.prog 73 #[.pointer (some ⟨r, 0, none⟩), .slice (some ⟨w.heap.size, 0, none⟩) n n] (w.alloc (.cells vs 3)) fun e w' => ∃ x, x ∈ ns ∧ e = .returned (.int .i64 x) ∧ Reader w' r (P + 1) ∧ Keeps (RK r w) w w' := by
  subst hvs hn
  have hb : Below w.heap.size w (w.alloc (.cells (ns.map (Value.int .i64)).toArray 3)) := (Below.refl _ _).alloc (Nat.le_refl _) _
  have hv := holds_lit r w (ns.map (Value.int .i64)) 3 h.lt (by rw [List.length_map]; exact h1)
  rw [List.length_map] at hv
  refine (one_any r P _ ns _ (h.below hb) hP hv h0 h1).mono ?_
  rintro e w' ⟨x, hx, rfl, hr, hk⟩
  exact ⟨x, hx, rfl, hr, RK.trans (RK.of_below hb) hk⟩

def shortB (ns : List ByteArray) : Bool := ns.all fun s => decide (s.size ≤ 100)
theorem short_mem {ns : List ByteArray} (h : shortB ns = true) {s : ByteArray} (hs : s ∈ ns) : s.size ≤ 9223372036854775807 := by
  have := List.all_eq_true.1 h s hs
  simp at this
  omega
def nearB (ns : List Int) : Bool := ns.all fun x => decide (-10000 ≤ x) && decide (x ≤ 10000)
theorem near_mem {ns : List Int} (h : nearB ns = true) {x : Int} (hx : x ∈ ns) : -10000 ≤ x ∧ x ≤ 10000 := by
  have := List.all_eq_true.1 h x hx
  simpa using this

set_option maxHeartbeats 800000 in
set_option maxRecDepth 100000 in
theorem aKey_any (r P : Nat) (w : World) (h : Reader w r P) (hP : P ≤ 100000000) :
    Calls Try.prog 136 #[.pointer (some ⟨r, 0, none⟩)] w (DrawS r (P + 1) w) := by
  go_enter Try.func136, Try.ntmps136
  go_wp2_with fail
  refine (of_lit r P [⟨#[97]⟩, ⟨#[98]⟩, ⟨#[99]⟩, ⟨#[100]⟩, ⟨#[101]⟩, ⟨#[97, 98]⟩, ⟨#[102]⟩, ⟨#[103]⟩, ⟨#[104]⟩] w h hP (by decide) (by decide) rfl rfl).mono ?_
  rintro e w1 ⟨x, hx, rfl, hr1, hk1⟩
  have hs := short_mem (by rfl) hx
  clear hx
  go_wp2
  go_ret
  exact ⟨x, hs, rfl, hr1, hk1⟩

set_option maxHeartbeats 800000 in
set_option maxRecDepth 100000 in
theorem aCount_any (r P : Nat) (w : World) (h : Reader w r P) (hP : P ≤ 100000000) :
    Calls Try.prog 143 #[.pointer (some ⟨r, 0, none⟩)] w (DrawN r (P + 1) w) := by
  go_enter Try.func143, Try.ntmps143
  go_wp2_with fail
  refine (one_lit r P [1, 2, 3, 0, -1, 5, -2, 4] w h hP (by decide) (by decide) rfl rfl).mono ?_
  rintro e w1 ⟨x, hx, rfl, hr1, hk1⟩
  have hs := near_mem (by rfl) hx
  clear hx
  go_wp2
  go_ret
  exact ⟨x, hs, rfl, hr1, hk1⟩

set_option maxHeartbeats 800000 in
set_option maxRecDepth 100000 in
theorem anyKey_any (r P : Nat) (w : World) (h : Reader w r P) (hP : P ≤ 10000000) :
    Calls Try.prog 111 #[.pointer (some ⟨r, 0, none⟩)] w (DrawS r (P + 2) w) := by
  go_enter Try.func111, Try.ntmps111
  go_wp2_with fail
  refine (pick_any r P 16 w h (by omega) (by omega) (by omega)).mono ?_
  rintro e w1 ⟨x, rfl, hx, hr1, hk1⟩
  by_cases h0 : x = 0
  · subst h0
    go_wp2_with fail
    refine (of_lit r (P + 1) [⟨#[]⟩, ⟨#[65]⟩, ⟨#[97, 98, 99, 100, 101]⟩, ⟨#[97, 49]⟩, ⟨#[97, 98, 99, 100]⟩] w1 hr1 (by omega) (by decide) (by decide) rfl rfl).mono ?_
    rintro e w2 ⟨x, hx, rfl, hr2, hk2⟩
    have hs := short_mem (by rfl) hx
    clear hx
    go_wp2
    go_ret
    exact ⟨x, hs, rfl, hr2, RK.trans hk1 hk2⟩
  · have hz : ((x : Int) == 0) = false := by rw [beq_eq_false_iff_ne]; omega
    go_wp2_with fail
    refine (aKey_any r (P + 1) w1 hr1 (by omega)).mono ?_
    rintro e w2 ⟨s, hs, rfl, hr2, hk2⟩
    go_wp2
    go_ret
    exact ⟨s, hs, rfl, hr2, RK.trans hk1 hk2⟩
end Go.Proofs.Ytlclhdolcokipaa
/-
  What stays while numbers are drawn from a reader.
-/
namespace Go.Proofs.Ytlclhdolcokipaa
open Go.RowKit

theorem own_keeps {r : Nat} {w w' : World} {B E S n : Nat} {v : Value} {xs : List Value} (h : w.ownsRow B E S v n xs) (hr : r < B) (hk : Keeps (RK r w) w w') : w'.ownsRow B E S v n xs :=
  hk.own h (fun g hg => by have := own_range h hg; exact ⟨this.2, by omega⟩)
theorem RK.alloc {r : Nat} {w wr : World} (h : Keeps (RK r w) w wr) (o : Go.Obj) : Keeps (RK r w) w (wr.alloc o) := h.alloc (fun _ hk => hk.1) o

theorem cells_two_at {w : World} {g : Nat} (hg : w.heap.size = g) (a b : Value) (E : TypeId) : ∀ (j : Nat) (u : Value), [a, b][j]? = some u → (w.alloc (.cells #[a, b] E)).cell? ((⟨g, 0, none⟩ : Addr).add j) = some u := by
  subst hg
  exact cells_two_new w a b E
theorem Reader.grown_to {w w' : World} {r P : Nat} {row : Option Nat} (h : Reader w r P) (hg : w.grownBy w' row) (hr : ∀ j, row = some j → r < j) : Reader w' r P := by
  obtain ⟨v, bs, p, h1, h2, h3, h4, h5⟩ := h
  have hk : Keeps (fun j => j < w.heap.size ∧ j ≤ r) w w' := ⟨hg.os, hg.tape, hg.output, hg.size, fun j hj => hg.block j hj.1 (fun e => by have := hr j e.symm; have := hj.2; omega)⟩
  exact ⟨v, bs, p, (hk.block r ⟨lt_of_block h1, Nat.le_refl _⟩).trans h1, h2.kept hk (fun h0 g hg' => ⟨h2.lt h0 hg', by have := h4 h0 g hg'; omega⟩), h3, h4, h5⟩
set_option maxRecDepth 100000 in
theorem one_lit_at (g : Nat) (r P : Nat) (ns : List Int) (w : World) (hg : w.heap.size = g) (h : Reader w r P) (hP : P ≤ 100000000) (h0 : 0 < ns.length) (h1 : ns.length ≤ 1000) {n : Nat} (hn : ns.length = n) {vs : Array Value} (hvs : (ns.map (Value.int .i64)).toArray = vs) :
    Calls Try.prog 73 #[.pointer (some ⟨r, 0, none⟩), .slice (some ⟨g, 0, none⟩) n n] (w.alloc (.cells vs 3)) fun e w' => ∃ x, x ∈ ns ∧ e = .returned (.int .i64 x) ∧ Reader w' r (P + 1) ∧ Keeps (RK r w) w w' := by
  subst hg
  exact one_lit r P ns w h hP h0 h1 hn hvs

theorem RK.set {r : Nat} {w wr : World} (h : Keeps (RK r w) w wr) {a : Addr} (ha : w.heap.size ≤ a.block) (u : Value) : Keeps (RK r w) w (wr.setCell a u) := h.setCell (fun hk => by have := hk.1; omega) u
theorem Reader.set {w : World} {r P : Nat} (h : Reader w r P) {a : Addr} (ha : r < a.block) (u : Value) : Reader (w.setCell a u) r P := by
  obtain ⟨v, bs, p, h1, h2, h3, h4, h5⟩ := h
  have hk : Keeps (fun j => j < w.heap.size ∧ j ≤ r) w (w.setCell a u) := (Keeps.refl _ w).setCell (fun hj => by have := hj.2; omega) u
  exact ⟨v, bs, p, (hk.block r ⟨lt_of_block h1, Nat.le_refl _⟩).trans h1, h2.kept hk (fun h0 g hg' => ⟨h2.lt h0 hg', by have := h4 h0 g hg'; omega⟩), h3, h4, h5⟩

end Go.Proofs.Ytlclhdolcokipaa
/-
  Items drawn from a reader.
-/
namespace Go.Proofs.Ytlclhdolcokipaa
open Go.RowKit

/-- Drawn items: a row of the call's own. -/
def DrawI (r P m : Nat) (w : World) (e : Ending) (w' : World) : Prop :=
  ∃ v xs, e = .returned v ∧ xs.length ≤ m ∧ OwnI 43 w' w.heap.size v xs ∧ Reader w' r P ∧ Keeps (RK r w) w w'
set_option maxRecDepth 100000 in
theorem OwnI.keeps {E r : Nat} {w w' : World} {B : Nat} {v : Value} {xs : List Itm} (h : OwnI E w B v xs) (hr : r < B) (hk : Keeps (RK r w) w w') : OwnI E w' B v xs := ⟨own_keeps h.1 hr hk, h.2⟩
set_option maxHeartbeats 800000 in
set_option maxRecDepth 100000 in
theorem goodItems_any (r P : Nat) (w : World) (h : Reader w r P) (hP : P ≤ 10000000) :
    Calls Try.prog 135 #[.pointer (some ⟨r, 0, none⟩)] w (DrawI r (P + 17) 8 w) := by
  have hrlt := h.lt
  have hb0 : Below w.heap.size w (w.alloc (.cells #[] 43)) := (Below.refl _ _).alloc (Nat.le_refl _) _
  have hlit : OwnI 43 (w.alloc (.cells #[] 43)) w.heap.size (.slice (some ⟨w.heap.size, 0, none⟩) 0 0) [] :=
    ⟨World.ownsRow_lit (base := w.heap.size) (e := 43) (size := 2) w #[] 0 (Nat.le_refl _) (by unfold maxLen; omega) rfl, fun x hx => by simp at hx⟩
  obtain ⟨i0, hi0, hz0, hz1, hz2⟩ := info_parts Try.infoI
  go_enter Try.func135, Try.ntmps135
  go_wp2_with fail
  refine (one_lit_at (w.heap.size + 1) r P [3, 4, 2, 5, 1, 0, 8] (w.alloc (.cells #[] 43)) (by simp) (h.below hb0) (by omega) (by decide) (by decide) rfl rfl).mono ?_
  rintro e w1 ⟨n, hn, rfl, hr1, hk1⟩
  have hn8 : 0 ≤ n ∧ n ≤ 8 := by simp at hn; omega
  obtain ⟨q0, rfl⟩ := Int.eq_ofNat_of_zero_le hn8.1
  have hk1' := RK.trans (RK.of_below hb0) hk1
  have hlit1 := hlit.keeps hrlt hk1
  clear hn hlit hk1
  go_wp2
  go_loopw [3, 4] (fun x i wr => ∃ (xs : List Itm) (q : Nat), i = .int .i64 q ∧ xs.length + q ≤ 8 ∧ OwnI 43 wr w.heap.size x xs ∧ Reader wr r (P + 1 + 2 * (8 - q)) ∧ Keeps (RK r w) w wr) (fun _ i _ => (intOf i).toNat)
  case atStart => exact ⟨[], q0, rfl, by simp; omega, hlit1, hr1.mono (by omega), hk1'⟩
  case round =>
    clear hlit1 hr1 hk1' h
    obtain ⟨xs, q, rfl, hq8, hown, hr, hk⟩ := hrel
    by_cases hq : 0 < q
    · go_wp2_with fail
      refine (aKey_any r _ wr hr (by omega)).mono ?_
      rintro e w2 ⟨s, hs, rfl, hr2, hk2⟩
      have hown2 := hown.keeps hrlt hk2
      have hkk2 := RK.trans hk hk2
      clear hr hk2 hk hown
      go_wp2_with fail
      refine (aCount_any r _ w2 hr2 (by omega)).mono ?_
      rintro e w3 ⟨c, hc, rfl, hr3, hk3⟩
      have hown3 := hown2.keeps hrlt hk3
      have hkk3 := RK.trans hkk2 hk3
      clear hr2 hk3 hkk2 hown2
      have hsz3 : w.heap.size ≤ w3.heap.size := hkk3.size
      have hI := Lib.hid ((hown3.below ((Below.refl w3.heap.size w3).alloc (Nat.le_refl _) (.cells #[.string s, .int .i64 c] 43)) (Nat.le_refl _)).items)
      obtain ⟨xo, xcap, rfl, _, _⟩ := own_slice hown3.1
      go_wp2_with fail
      refine (place_any _ xs s _ hI.out).mono ?_
      rintro e w4 ⟨rfl, rfl⟩
      by_cases hp : placeI xs s 0 < 0
      · go_wp2_with (at_builtin; refine wpList_append_own _ rfl _ _ 23 rfl w.heap.size 43 i0 (.agg #[.string ⟨#[]⟩, .int .i64 0]) 2 24 Try.underlying23 hi0 hz0 hz1 hz2 rfl (by decide) (.slice xo xs.length xcap) xs.length (cellsI xs) rfl ((hown3.1.alloc _).alloc _) ⟨w3.heap.size + 1, 0, none⟩ 1 1 [.string s, .int .i64 c] rfl rfl (cells_two_at (by simp) _ _ _) (by intro u hu; simp at hu; rcases hu with rfl | rfl <;> rfl) (by unfold maxLen; omega) (by omega) (by simp; omega) ?_; intro v' w5 hown5 hgrow5 hnil5)
        have hrow5 : OwnI 43 w5 w.heap.size v' (xs ++ [(s, c)]) := ⟨by rw [List.length_append, cellsI_snoc]; exact hown5, fun x hx => by
          rcases List.mem_append.1 hx with hx | hx
          · exact hown3.2 x hx
          · rw [List.mem_singleton.1 hx]; exact ⟨hs, by show _ ≤ c; omega, by show c ≤ _; omega⟩⟩
        have hbb : Below w3.heap.size w3 ((w3.alloc (.cells #[.string s, .int .i64 c] 43)).alloc (.cells #[.string s, .int .i64 c] 43)) := ((Below.refl _ _).alloc (Nat.le_refl _) _).alloc (by simp) _
        have hkk5 : Keeps (RK r w) w w5 := by
          refine (RK.alloc (RK.alloc hkk3 _) _).trans ⟨hgrow5.os, hgrow5.tape, hgrow5.output, hgrow5.size, fun j hj => hgrow5.block j (by simp; have := hj.1; omega) (fun e => ?_)⟩
          have := (hown3.1.lt j e.symm).1
          have := hj.1
          omega
        have hr5 : Reader w5 r (P + 1 + 2 * (8 - q) + 1 + 1) := (hr3.below hbb).grown_to hgrow5 (fun j e => by have := (hown3.1.lt j e).1; omega)
        clear hown5 hgrow5 hnil5 hown3 hkk3 hr3 hI hbb
        go_roundw
        case rel => exact ⟨_, q - 1, by go_num, by rw [List.length_append]; simp; omega, hrow5, hr5.mono (by omega), hkk5⟩
        case measure => simp [intOf]; omega
      · go_wp2
        go_roundw
        case rel => exact ⟨xs, q - 1, by go_num, by omega, ⟨(hown3.1.alloc _), hown3.2⟩, (hr3.below ((Below.refl _ _).alloc (Nat.le_refl _) _)).mono (by omega), RK.alloc hkk3 _⟩
        case measure => simp [intOf]; omega
    · obtain rfl : q = 0 := by omega
      go_wp2
      go_ret
      exact ⟨_, xs, rfl, by omega, hown, hr.mono (by omega), hk⟩
end Go.Proofs.Ytlclhdolcokipaa
/-
  Items drawn that may be invalid.
-/
namespace Go.Proofs.Ytlclhdolcokipaa
open Go.RowKit

theorem okI_set {l : List Itm} (h : okI l) (k : Nat) (x : Itm) (hs : x.1.size ≤ 9223372036854775807) (h1 : -10000 ≤ x.2 ∧ x.2 ≤ 10000) : okI (l.set k x) := fun y hy => by
  rcases List.mem_or_eq_of_mem_set hy with hy | rfl
  · exact h y hy
  · exact ⟨hs, by omega, by omega⟩
theorem okI_setN {l : List Itm} (h : okI l) {k : Nat} (hk : k < l.length) (n : Int) (h1 : -10000 ≤ n ∧ n ≤ 10000) : okI (l.set k (l[k].1, n)) := okI_set h k _ (h _ (List.getElem_mem hk)).1 h1
theorem okI_setK {l : List Itm} (h : okI l) {k : Nat} (hk : k < l.length) (s : ByteArray) (hs : s.size ≤ 9223372036854775807) : okI (l.set k (s, l[k].2)) := fun y hy => by
  rcases List.mem_or_eq_of_mem_set hy with hy | rfl
  · exact h y hy
  · exact ⟨hs, (h _ (List.getElem_mem hk)).2⟩

set_option maxHeartbeats 1600000 in
set_option maxRecDepth 100000 in
theorem someItems_any (r P : Nat) (w : World) (h : Reader w r P) (hP : P ≤ 1000000) :
    Calls Try.prog 109 #[.pointer (some ⟨r, 0, none⟩)] w (DrawI r (P + 21) 9 w) := by
  have hrlt := h.lt
  go_enter Try.func109, Try.ntmps109
  go_wp2_with fail
  refine (goodItems_any r P w h (by omega)).mono ?_
  rintro e w1 ⟨v, xs, rfl, hl, hown, hr1, hk1⟩
  by_cases hz : 0 < xs.length
  · have hcmp : (0 : Int) < (xs.length : Int) := by omega
    obtain ⟨g, cap, rfl, hgc, hgB⟩ := own_shape hown.1 hz
    go_wp2_with fail
    refine (pick_any r _ xs.length w1 hr1 (by omega) (by omega) (by omega)).mono ?_
    rintro e w2 ⟨k, rfl, hk, hr2, hk2⟩
    have hlt : k < xs.length := by omega
    have hown2 := hown.keeps hrlt hk2
    have hkk2 := RK.trans hk1 hk2
    clear hown hk1 hk2 hr1
    go_wp2_with fail
    refine (pick_any r _ 30 w2 hr2 (by omega) (by omega) (by omega)).mono ?_
    rintro e w3 ⟨c, rfl, hc, hr3, hk3⟩
    have hown3 := hown2.keeps hrlt hk3
    have hkk3 := RK.trans hkk2 hk3
    clear hown2 hk3 hr2 hkk2
    have hgr : r < g := by omega
    have hok := hown3.2
    by_cases h0 : c = 0
    · subst h0
      go_wp2_with fail
      refine (anyKey_any r _ w3 hr3 (by omega)).mono ?_
      rintro e w4 ⟨s, hs, rfl, hr4, hk4⟩
      have hrow4 := (hown3.keeps hrlt hk4).1
      have hkk4 := RK.trans hkk3 hk4
      have c1 := row_cell_at hrow4 (cells_at hlt).1
      have f1 := hrow4.frozenAt (k * 2)
      have hst := (hrow4.stored (k * 2) (.string s)).1
      rw [cellsI_setKey xs k hlt s] at hst
      go_wp2
      go_ret
      exact ⟨_, xs.set k (s, xs[k].2), rfl, by rw [List.length_set]; omega, ⟨by rw [List.length_set]; exact hst, okI_setK hok hlt s hs⟩, (hr4.mono (by omega)).set hgr _, RK.set hkk4 hgB _⟩
    · by_cases h1 : c = 1
      · subst h1
        go_wp2_with fail
        refine (one_lit r _ [10000, -10000, 9999, -9999] w3 hr3 (by omega) (by decide) (by decide) rfl rfl).mono ?_
        rintro e w4 ⟨x, hx, rfl, hr4, hk4⟩
        have hx2 := near_mem (by rfl) hx
        have hrow4 := (hown3.keeps hrlt hk4).1
        have hkk4 := RK.trans hkk3 hk4
        obtain ⟨u, c1⟩ := row_cell hrow4 (j := k * 2 + 1) (by omega)
        have f1 := hrow4.frozenAt (k * 2 + 1)
        have hst := row_number hrow4 hlt x
        clear hx
        go_wp2
        go_ret
        exact ⟨_, xs.set k (xs[k].1, x), rfl, by rw [List.length_set]; omega, ⟨by rw [List.length_set]; exact hst, okI_setN hok hlt x hx2⟩, (hr4.mono (by omega)).set hgr _, RK.set hkk4 hgB _⟩
      · have hb0 : ((c : Int) == 0) = false := by rw [beq_eq_false_iff_ne]; omega
        have hb1 : ((c : Int) == 1) = false := by rw [beq_eq_false_iff_ne]; omega
        by_cases h2 : c = 2
        · subst h2
          obtain ⟨i0, hi0, hz0, hz1, hz2⟩ := info_parts Try.infoI
          have c1 := row_cell_at hown3.1 (cells_at hlt).1
          have c2 := row_cell_at hown3.1 (cells_at hlt).2
          have hsz3 : w.heap.size ≤ w3.heap.size := hkk3.size
          go_wp2_with (at_builtin; refine wpList_append_own _ rfl _ _ 23 rfl w.heap.size 43 i0 (.agg #[.string ⟨#[]⟩, .int .i64 0]) 2 24 Try.underlying23 hi0 hz0 hz1 hz2 rfl (by decide) (.slice (some ⟨g, 0, none⟩) xs.length cap) xs.length (cellsI xs) rfl (hown3.1.alloc _) ⟨w3.heap.size, 0, none⟩ 1 1 [.string xs[k].1, .int .i64 xs[k].2] rfl rfl (cells_two_new _ _ _ _) (by intro u hu; simp at hu; rcases hu with rfl | rfl <;> rfl) (by unfold maxLen; omega) (by omega) (by simp; omega) ?_; intro v' w5 hown5 hgrow5 hnil5)
          have hbb : Below w3.heap.size w3 (w3.alloc (.cells #[.string xs[k].1, .int .i64 xs[k].2] 43)) := (Below.refl _ _).alloc (Nat.le_refl _) _
          have hkk5 : Keeps (RK r w) w w5 := by
            refine (RK.alloc hkk3 _).trans ⟨hgrow5.os, hgrow5.tape, hgrow5.output, hgrow5.size, fun j hj => hgrow5.block j (by simp; have := hj.1; omega) (fun e => ?_)⟩
            have := (hown3.1.lt j e.symm).1
            have := hj.1
            omega
          have hr5 : Reader w5 r _ := (hr3.below hbb).grown_to hgrow5 (fun j e => by have := (hown3.1.lt j e).1; omega)
          go_ret
          exact ⟨_, xs ++ [xs[k]], rfl, by simp; omega, ⟨by rw [List.length_append, cellsI_snoc]; exact hown5, fun y hy => by
            rcases List.mem_append.1 hy with hy | hy
            · exact hok y hy
            · rw [List.mem_singleton.1 hy]; exact hok _ (List.getElem_mem hlt)⟩, hr5.mono (by omega), hkk5⟩
        · have hb2 : ((c : Int) == 2) = false := by rw [beq_eq_false_iff_ne]; omega
          go_wp2
          go_ret
          exact ⟨_, xs, rfl, by omega, hown3, hr3.mono (by omega), hkk3⟩
  · have hcmp : ¬ (0 : Int) < (xs.length : Int) := by omega
    obtain ⟨xo, xcap, rfl, _, _⟩ := own_slice hown.1
    go_wp2
    go_ret
    exact ⟨_, xs, rfl, by omega, hown, hr1.mono (by omega), hk1⟩
end Go.Proofs.Ytlclhdolcokipaa
