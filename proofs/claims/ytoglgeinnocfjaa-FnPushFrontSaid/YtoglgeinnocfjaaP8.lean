/-
  Read, Read2, RdK, RdG.
-/
import Derived.Laws.Bits64
import Derived.Test.YtoglgeinnocfjaaP5
import Derived.Test.YtoglgeinnocfjaaP7
/-
  The reader of a code, from which the statements' inputs are drawn: nothing is said but that numbers are drawn in their bounds.
-/
namespace Go.Proofs.Ytoglgeinnocfjaa
open Go.RowKit

def okByt (bs : List Int) : Prop := ∀ x ∈ bs, 0 ≤ x ∧ x ≤ 255
/-- The slice v reads as the bytes bs. -/
def Bytes (w : World) (v : Value) (bs : List Int) : Prop :=
  ∃ ao cap, v = .slice ao bs.length cap ∧ bs.length ≤ cap ∧ cap ≤ 9223372036854775807 ∧ okByt bs ∧
    ∀ k (_ : k < bs.length), ∃ b o, ao = some ⟨b, o, none⟩ ∧ b < w.heap.size ∧ w.cell? ⟨b, o + k, none⟩ = some (.int .u8 bs[k])
theorem Bytes.kept {w w' : World} {v : Value} {bs : List Int} {K : Nat → Prop} (h : Bytes w v bs) (hk : Keeps K w w') (hv : 0 < bs.length → ∀ g, v.ownBlock = some g → K g) : Bytes w' v bs := by
  obtain ⟨ao, cap, rfl, hl, hc, hok, hcell⟩ := h
  refine ⟨ao, cap, rfl, hl, hc, hok, fun k hlt => ?_⟩
  obtain ⟨b, o, ha, hs, h1⟩ := hcell k hlt
  subst ha
  exact ⟨b, o, rfl, Nat.lt_of_lt_of_le hs hk.size, (hk.cell (a := ⟨b, _, none⟩) (hv (by omega) b rfl)).trans h1⟩

/-- All blocks of w but r. -/
def RK (r : Nat) (w : World) : Nat → Prop := fun j => j < w.heap.size ∧ j ≠ r
theorem RK.trans {r : Nat} {w w' w'' : World} (h : Keeps (RK r w) w w') (h' : Keeps (RK r w') w' w'') : Keeps (RK r w) w w'' :=
  h.trans (h'.mono fun _ hk => ⟨Nat.lt_of_lt_of_le hk.1 h.size, hk.2⟩)

/-- Block r is a reader, no further than P. -/
def Reader (w : World) (r : Nat) (P : Nat) : Prop :=
  ∃ (v : Value) (bs : List Int) (p : Nat), w.heap[r]? = some (.cells #[v, .int .i64 p] 124 (0, 0)) ∧ Bytes w v bs ∧ bs.length ≤ 2000 ∧ (0 < bs.length → ∀ g, v.ownBlock = some g → g < r) ∧ p ≤ P

theorem bits_xor_nonneg {a b : Int} (ha : 0 ≤ a) (ha' : a < 4611686018427387904) (hb : 0 ≤ b) (hb' : b < 4611686018427387904) : 0 ≤ bits .xor .i64 a b := by
  obtain ⟨x, rfl⟩ := Int.eq_ofNat_of_zero_le ha
  obtain ⟨y, rfl⟩ := Int.eq_ofNat_of_zero_le hb
  have hx : x ^^^ y < 2 ^ 62 := Nat.xor_lt_two_pow (by omega) (by omega)
  have h1 : (BitVec.ofInt 64 (x : Int)).toNat = x := by
    rw [BitVec.ofInt_natCast, BitVec.toNat_ofNat]; exact Nat.mod_eq_of_lt (by omega)
  have h2 : (BitVec.ofInt 64 (y : Int)).toNat = y := by
    rw [BitVec.ofInt_natCast, BitVec.toNat_ofNat]; exact Nat.mod_eq_of_lt (by omega)
  show 0 ≤ IntKind.i64.wrap ((BitVec.ofInt 64 (x : Int) ^^^ BitVec.ofInt 64 (y : Int)).toNat : Int)
  rw [BitVec.toNat_xor, h1, h2, IntWalk.i64_in _ (by omega)]
  omega

theorem Bytes.lt {w : World} {v : Value} {bs : List Int} (h : Bytes w v bs) (hl : 0 < bs.length) {g : Nat} (hg : v.ownBlock = some g) : g < w.heap.size := by
  obtain ⟨ao, cap, rfl, _, _, _, hcell⟩ := h
  obtain ⟨b, o, e, hb, _⟩ := hcell 0 hl
  subst e
  cases hg
  exact hb
theorem reader_made {w : World} {v : Value} {bs : List Int} (hb : Bytes w v bs) (hl : bs.length ≤ 2000) : Reader (w.alloc (.cells #[v, .int .i64 0] 124)) w.heap.size 0 := by
  refine ⟨v, bs, 0, heap_alloc_new _ _, ?_, hl, ?_, Nat.le_refl _⟩
  · exact hb.kept (K := (· < w.heap.size)) ((Keeps.refl _ w).alloc (fun _ h => h) _) (fun h0 g hg => hb.lt h0 hg)
  · intro h0 g e
    exact hb.lt h0 e

set_option maxHeartbeats 1600000 in
set_option maxRecDepth 100000 in
theorem newReader_any (v : Value) (bs : List Int) (w : World) (h : Bytes w v bs) :
    Calls Try.prog 73 #[v] w fun e w' => ∃ r, e = .returned (.pointer (some ⟨r, 0, none⟩)) ∧ w.heap.size ≤ r ∧ Reader w' r 0 ∧ Below w.heap.size w w' := by
  have h0 := h
  obtain ⟨ao, cap, rfl, hl, hc, hok, hcell⟩ := h
  go_enter Try.func73, Try.ntmps73
  by_cases hn : (2000 : Int) < (bs.length : Int)
  · have h1 : (2000 : Nat) ≤ cap := by omega
    have h2 : (bs.take 2000).length = 2000 := by rw [List.length_take]; omega
    have hB : Bytes w (.slice ao 2000 cap) (bs.take 2000) := by
      refine ⟨ao, cap, by rw [h2], by omega, hc, fun x hx => hok x (List.mem_of_mem_take hx), fun k hk => ?_⟩
      obtain ⟨b, o, e, hb, hcl⟩ := hcell k (by omega)
      exact ⟨b, o, e, hb, by rw [List.getElem_take]; exact hcl⟩
    go_wp2
    go_ret
    exact ⟨_, rfl, Nat.le_refl _, reader_made hB (by omega), (Below.refl _ _).alloc (Nat.le_refl _) _⟩
  · go_wp2
    go_ret
    exact ⟨_, rfl, Nat.le_refl _, reader_made h0 (by omega), (Below.refl _ _).alloc (Nat.le_refl _) _⟩

/-- One number drawn. -/
theorem reader_moved {w : World} {r P p : Nat} {v : Value} {bs : List Int} (hblk : w.heap[r]? = some (.cells #[v, .int .i64 p] 124 (0, 0))) (hB : Bytes w v bs) (hb2 : bs.length ≤ 2000) (hvr : 0 < bs.length → ∀ g, v.ownBlock = some g → g < r) (hp : p ≤ P) (n : Nat) :
    Reader ((w.setCell ⟨r, 1, none⟩ (.int .i64 ((p : Int) + 1))).drewN n) r (P + 1) ∧ Keeps (RK r w) w ((w.setCell ⟨r, 1, none⟩ (.int .i64 ((p : Int) + 1))).drewN n) := by
  have hk : Keeps (RK r w) w (w.setCell ⟨r, 1, none⟩ (.int .i64 ((p : Int) + 1))) := (Keeps.refl _ w).setCell (fun h => h.2 rfl) _
  have hk' : Keeps (RK r w) w ((w.setCell ⟨r, 1, none⟩ (.int .i64 ((p : Int) + 1))).drewN n) := ⟨hk.os, hk.tape, hk.output, hk.size, hk.block⟩
  exact ⟨⟨v, bs, p + 1, two_set1 hblk _, hB.kept hk' (fun h0 g hg => ⟨hB.lt h0 hg, fun e => by have := hvr h0 g hg; omega⟩), hb2, hvr, by omega⟩, hk'⟩

set_option maxHeartbeats 3200000 in
set_option maxRecDepth 100000 in
theorem pick_any (r P : Nat) (n : Int) (w : World) (h : Reader w r P) (hP : P ≤ 100000000) (h1 : 1 ≤ n) (h2 : n ≤ 1000000) :
    Calls Try.prog 89 #[.pointer (some ⟨r, 0, none⟩), .int .i64 n] w fun e w' => ∃ x : Nat, e = .returned (.int .i64 x) ∧ (x : Int) < n ∧ Reader w' r (P + 1) ∧ Keeps (RK r w) w w' := by
  obtain ⟨v, bs, p, hblk, hB, hb2, hvr, hp⟩ := h
  have HM := fun m => reader_moved hblk hB hb2 hvr hp m
  obtain ⟨ao, cap, rfl, hl, hc, hok, hcell⟩ := hB
  have c0 := two_cell0 hblk
  have c1 := two_cell1 hblk
  have f1 := two_free hblk 1
  go_enter Try.func89, Try.ntmps89
  by_cases hz : bs.length = 0
  · have hzb : ((bs.length : Int) == 0) = true := by rw [hz]; rfl
    go_wp2
    go_ret
    exact ⟨0, rfl, by omega, HM 0⟩
  · have hzb : ((bs.length : Int) == 0) = false := by rw [beq_eq_false_iff_ne]; omega
    by_cases hlt : p < bs.length
    · obtain ⟨b, o, rfl, hb, hcl⟩ := hcell p hlt
      have hne : b ≠ r := fun e => by have := hvr (by omega) b rfl; omega
      have hby := hok _ (List.getElem_mem hlt)
      have hm1 : 0 ≤ bs[p] % n := Int.emod_nonneg _ (by omega)
      have hm2 : bs[p] % n < n := Int.emod_lt_of_pos _ (by omega)
      go_wp2
      go_ret
      exact ⟨(bs[p] % n).toNat, ret_int (by omega), by omega, HM 0⟩
    · have hq1 : 0 ≤ (p : Int) % (bs.length : Int) := Int.emod_nonneg _ (by omega)
      have hq2 : (p : Int) % (bs.length : Int) < (bs.length : Int) := Int.emod_lt_of_pos _ (by omega)
      have hs1 : 0 ≤ ((p : Int) * 7 + 3) % (bs.length : Int) := Int.emod_nonneg _ (by omega)
      have hs2 : ((p : Int) * 7 + 3) % (bs.length : Int) < (bs.length : Int) := Int.emod_lt_of_pos _ (by omega)
      obtain ⟨q, hq⟩ : ∃ q : Nat, (p : Int) % (bs.length : Int) = q := ⟨((p : Int) % (bs.length : Int)).toNat, by omega⟩
      obtain ⟨s, hs⟩ : ∃ s : Nat, ((p : Int) * 7 + 3) % (bs.length : Int) = s := ⟨(((p : Int) * 7 + 3) % (bs.length : Int)).toNat, by omega⟩
      obtain ⟨b, o, rfl, hb, hcl⟩ := hcell q (by omega)
      obtain ⟨b', o', e', _, hcl'⟩ := hcell s (by omega)
      cases e'
      have hne : b ≠ r := fun e => by have := hvr (by omega) b rfl; omega
      have hbq := hok _ (List.getElem_mem (show q < bs.length by omega))
      have hbs := hok _ (List.getElem_mem (show s < bs.length by omega))
      have hd1 : 0 ≤ (p : Int) / (bs.length : Int) := Int.ediv_nonneg (by omega) (by omega)
      have hd2 : (p : Int) / (bs.length : Int) ≤ p := Int.ediv_le_self _ (by omega)
      obtain ⟨d, hd⟩ : ∃ d : Int, (p : Int) / (bs.length : Int) = d := ⟨_, rfl⟩
      rw [hd] at hd1 hd2
      have HM' := Lib.hid HM
      clear hcell hblk hvr HM
      go_wp2_with fail
      go_quiet (fail)
      obtain ⟨X, hX⟩ : ∃ X : Int, X = bs[q] * 131 + bs[s] * 1117 + (p : Int) * 29 + d * 53 := ⟨_, rfl⟩
      rw [← hX]
      have hX0 : 0 ≤ X := by omega
      have hX1 : X < 1000000000000 := by omega
      have hY := bits_xor_nonneg (a := X) (b := X / 64) hX0 (by omega) (by omega) (by omega)
      have hm1 : 0 ≤ bits .xor .i64 X (X / 64) % n := Int.emod_nonneg _ (by omega)
      have hm2 : bits .xor .i64 X (X / 64) % n < n := Int.emod_lt_of_pos _ (by omega)
      clear hX
      go_wp2
      go_ret
      exact ⟨(bits .xor .i64 X (X / 64) % n).toNat, ret_int (by omega), by omega, HM'.out _⟩
end Go.Proofs.Ytoglgeinnocfjaa
/-
  What is drawn from a reader: one of some numbers, one of some texts; keys and counts.
-/
namespace Go.Proofs.Ytoglgeinnocfjaa
open Go.RowKit

/-- The slice v, elsewhere than in block r, holds the values xs, one cell each. -/
def Holds1 (r : Nat) (w : World) (v : Value) (xs : List Value) : Prop :=
  ∃ b o cap, v = .slice (some ⟨b, o, none⟩) xs.length cap ∧ xs.length ≤ cap ∧ cap ≤ 9223372036854775807 ∧ b < w.heap.size ∧ b ≠ r ∧ ∀ k u, xs[k]? = some u → w.cell? ⟨b, o + k, none⟩ = some u
theorem Holds1.kept {r : Nat} {w w' : World} {v : Value} {xs : List Value} (h : Holds1 r w v xs) (hk : Keeps (RK r w) w w') : Holds1 r w' v xs := by
  obtain ⟨b, o, cap, rfl, h1, h2, hb, hne, hc⟩ := h
  exact ⟨b, o, cap, rfl, h1, h2, Nat.lt_of_lt_of_le hb hk.size, hne, fun k u hu => (hk.cell (a := ⟨b, _, none⟩) ⟨hb, hne⟩).trans (hc k u hu)⟩
theorem holds_lit (r : Nat) (w : World) (xs : List Value) (E : Nat) (hr : r < w.heap.size) (hl : xs.length ≤ 1000) : Holds1 r (w.alloc (.cells xs.toArray E)) (.slice (some ⟨w.heap.size, 0, none⟩) xs.length xs.length) xs := by
  refine ⟨w.heap.size, 0, xs.length, rfl, Nat.le_refl _, by omega, by simp, by omega, fun k u hu => ?_⟩
  rw [cell_of_row _ w.heap.size (0 + k) xs.toArray E (0, 0) (heap_alloc_new _ _)]
  simpa using hu
theorem Reader.lt {w : World} {r P : Nat} (h : Reader w r P) : r < w.heap.size := by
  obtain ⟨v, bs, p, hb, _⟩ := h
  exact lt_of_block hb
theorem Reader.mono {w : World} {r P P' : Nat} (h : Reader w r P) (hp : P ≤ P') : Reader w r P' := by
  obtain ⟨v, bs, p, h1, h2, h3, h4, h5⟩ := h
  exact ⟨v, bs, p, h1, h2, h3, h4, Nat.le_trans h5 hp⟩
theorem Reader.below {w w' : World} {r P : Nat} (h : Reader w r P) (hb : Below w.heap.size w w') : Reader w' r P := by
  obtain ⟨v, bs, p, h1, h2, h3, h4, h5⟩ := h
  exact ⟨v, bs, p, (hb.block r (lt_of_block h1)).trans h1, h2.kept (K := (· < w.heap.size)) (Keeps.of_below hb (fun _ h => h)) (fun h0 g hg => h2.lt h0 hg), h3, h4, h5⟩
theorem RK.of_below {r : Nat} {w w' : World} (hb : Below w.heap.size w w') : Keeps (RK r w) w w' := Keeps.of_below hb (fun _ h => h.1)

set_option maxHeartbeats 800000 in
set_option maxRecDepth 100000 in
theorem one_any (r P : Nat) (v : Value) (ns : List Int) (w : World) (h : Reader w r P) (hP : P ≤ 100000000) (hv : Holds1 r w v (ns.map (Value.int .i64))) (h0 : 0 < ns.length) (h1 : ns.length ≤ 1000) :
    Calls Try.prog 91 #[.pointer (some ⟨r, 0, none⟩), v] w fun e w' => ∃ x, x ∈ ns ∧ e = .returned (.int .i64 x) ∧ Reader w' r (P + 1) ∧ Keeps (RK r w) w w' := by
  have HV := Lib.hid hv
  obtain ⟨b, o, cap, rfl, hl, hc, hb, hne, hcell⟩ := hv
  rw [List.length_map] at hl
  have el : (ns.map (Value.int .i64)).length = ns.length := List.length_map _
  rw [el] at HV ⊢
  go_enter Try.func91, Try.ntmps91
  go_wp2_with fail
  refine (pick_any r P ns.length w h hP (by omega) (by omega)).mono ?_
  rintro e w1 ⟨x, rfl, hx, hr1, hk1⟩
  have hx' : x < ns.length := by omega
  have c1 : w1.cell? ⟨b, o + x, none⟩ = some (.int .i64 ns[x]) := (hk1.cell (a := ⟨b, o + x, none⟩) ⟨hb, hne⟩).trans (hcell x _ (by simp [hx']))
  have hm := List.getElem_mem hx'
  clear hcell
  go_wp2
  go_ret
  exact ⟨_, hm, rfl, hr1, hk1⟩

set_option maxHeartbeats 800000 in
set_option maxRecDepth 100000 in
theorem of_any (r P : Nat) (v : Value) (ns : List ByteArray) (w : World) (h : Reader w r P) (hP : P ≤ 100000000) (hv : Holds1 r w v (ns.map Value.string)) (h0 : 0 < ns.length) (h1 : ns.length ≤ 1000) :
    Calls Try.prog 140 #[.pointer (some ⟨r, 0, none⟩), v] w fun e w' => ∃ x, x ∈ ns ∧ e = .returned (.string x) ∧ Reader w' r (P + 1) ∧ Keeps (RK r w) w w' := by
  have HV := Lib.hid hv
  obtain ⟨b, o, cap, rfl, hl, hc, hb, hne, hcell⟩ := hv
  rw [List.length_map] at hl
  have el : (ns.map Value.string).length = ns.length := List.length_map _
  rw [el] at HV ⊢
  go_enter Try.func140, Try.ntmps140
  go_wp2_with fail
  refine (pick_any r P ns.length w h hP (by omega) (by omega)).mono ?_
  rintro e w1 ⟨x, rfl, hx, hr1, hk1⟩
  have hx' : x < ns.length := by omega
  have c1 : w1.cell? ⟨b, o + x, none⟩ = some (.string ns[x]) := (hk1.cell (a := ⟨b, o + x, none⟩) ⟨hb, hne⟩).trans (hcell x _ (by simp [hx']))
  have hm := List.getElem_mem hx'
  clear hcell
  go_wp2
  go_ret
  exact ⟨_, hm, rfl, hr1, hk1⟩

/-- A drawn text. -/
def DrawS (r P : Nat) (w : World) (e : Ending) (w' : World) : Prop := ∃ s : ByteArray, s.size ≤ 9223372036854775807 ∧ e = .returned (.string s) ∧ Reader w' r P ∧ Keeps (RK r w) w w'
/-- A drawn number. -/
def DrawN (r P : Nat) (w : World) (e : Ending) (w' : World) : Prop := ∃ x : Int, (-10000 ≤ x ∧ x ≤ 10000) ∧ e = .returned (.int .i64 x) ∧ Reader w' r P ∧ Keeps (RK r w) w w'

set_option maxRecDepth 100000 in
theorem of_lit (r P : Nat) (ns : List ByteArray) (w : World) (h : Reader w r P) (hP : P ≤ 100000000) (h0 : 0 < ns.length) (h1 : ns.length ≤ 1000) {n : Nat} (hn : ns.length = n) {vs : Array Value} (hvs : (ns.map Value.string).toArray = vs) :
    Calls Try.prog 140 #[.pointer (some ⟨r, 0, none⟩), .slice (some ⟨w.heap.size, 0, none⟩) n n] (w.alloc (.cells vs 9)) fun e w' => ∃ x, x ∈ ns ∧ e = .returned (.string x) ∧ Reader w' r (P + 1) ∧ Keeps (RK r w) w w' := by
  subst hvs hn
  have hb : Below w.heap.size w (w.alloc (.cells (ns.map Value.string).toArray 9)) := (Below.refl _ _).alloc (Nat.le_refl _) _
  have hv := holds_lit r w (ns.map Value.string) 9 h.lt (by rw [List.length_map]; exact h1)
  rw [List.length_map] at hv
  refine (of_any r P _ ns _ (h.below hb) hP hv h0 h1).mono ?_
  rintro e w' ⟨x, hx, rfl, hr, hk⟩
  exact ⟨x, hx, rfl, hr, RK.trans (RK.of_below hb) hk⟩
set_option maxRecDepth 100000 in
theorem one_lit (r P : Nat) (ns : List Int) (w : World) (h : Reader w r P) (hP : P ≤ 100000000) (h0 : 0 < ns.length) (h1 : ns.length ≤ 1000) {n : Nat} (hn : ns.length = n) {vs : Array Value} (hvs : (ns.map (Value.int .i64)).toArray = vs) :
    Calls Try.prog 91 #[.pointer (some ⟨r, 0, none⟩), .slice (some ⟨w.heap.size, 0, none⟩) n n] (w.alloc (.cells vs 3)) fun e w' => ∃ x, x ∈ ns ∧ e = .returned (.int .i64 x) ∧ Reader w' r (P + 1) ∧ Keeps (RK r w) w w' := by
  subst hvs hn
  have hb : Below w.heap.size w (w.alloc (.cells (ns.map (Value.int .i64)).toArray 3)) := (Below.refl _ _).alloc (Nat.le_refl _) _
  have hv := holds_lit r w (ns.map (Value.int .i64)) 3 h.lt (by rw [List.length_map]; exact h1)
  rw [List.length_map] at hv
  refine (one_any r P _ ns _ (h.below hb) hP hv h0 h1).mono ?_
  rintro e w' ⟨x, hx, rfl, hr, hk⟩
  exact ⟨x, hx, rfl, hr, RK.trans (RK.of_below hb) hk⟩

def shortB (ns : List ByteArray) : Bool := ns.all fun s => decide (s.size ≤ 100)
theorem short_mem {ns : List ByteArray} (h : shortB ns = true) {s : ByteArray} (hs : s ∈ ns) : s.size ≤ 9223372036854775807 := by
  have := List.all_eq_true.1 h s hs
  simp at this
  omega
def nearB (ns : List Int) : Bool := ns.all fun x => decide (-10000 ≤ x) && decide (x ≤ 10000)
theorem near_mem {ns : List Int} (h : nearB ns = true) {x : Int} (hx : x ∈ ns) : -10000 ≤ x ∧ x ≤ 10000 := by
  have := List.all_eq_true.1 h x hx
  simpa using this

set_option maxHeartbeats 800000 in
set_option maxRecDepth 100000 in
theorem aKey_any (r P : Nat) (w : World) (h : Reader w r P) (hP : P ≤ 100000000) :
    Calls Try.prog 141 #[.pointer (some ⟨r, 0, none⟩)] w (DrawS r (P + 1) w) := by
  go_enter Try.func141, Try.ntmps141
  go_wp2_with fail
  refine (of_lit r P [⟨#[97]⟩, ⟨#[98]⟩, ⟨#[99]⟩, ⟨#[100]⟩, ⟨#[101]⟩, ⟨#[97, 98]⟩, ⟨#[102]⟩, ⟨#[103]⟩, ⟨#[104]⟩] w h hP (by decide) (by decide) rfl rfl).mono ?_
  rintro e w1 ⟨x, hx, rfl, hr1, hk1⟩
  have hs := short_mem (by rfl) hx
  clear hx
  go_wp2
  go_ret
  exact ⟨x, hs, rfl, hr1, hk1⟩

set_option maxHeartbeats 800000 in
set_option maxRecDepth 100000 in
theorem aCount_any (r P : Nat) (w : World) (h : Reader w r P) (hP : P ≤ 100000000) :
    Calls Try.prog 149 #[.pointer (some ⟨r, 0, none⟩)] w (DrawN r (P + 1) w) := by
  go_enter Try.func149, Try.ntmps149
  go_wp2_with fail
  refine (one_lit r P [1, 2, 3, 0, -1, 5, -2, 4] w h hP (by decide) (by decide) rfl rfl).mono ?_
  rintro e w1 ⟨x, hx, rfl, hr1, hk1⟩
  have hs := near_mem (by rfl) hx
  clear hx
  go_wp2
  go_ret
  exact ⟨x, hs, rfl, hr1, hk1⟩

set_option maxHeartbeats 800000 in
set_option maxRecDepth 100000 in
theorem anyKey_any (r P : Nat) (w : World) (h : Reader w r P) (hP : P ≤ 10000000) :
    Calls Try.prog 127 #[.pointer (some ⟨r, 0, none⟩)] w (DrawS r (P + 2) w) := by
  go_enter Try.func127, Try.ntmps127
  go_wp2_with fail
  refine (pick_any r P 16 w h (by omega) (by omega) (by omega)).mono ?_
  rintro e w1 ⟨x, rfl, hx, hr1, hk1⟩
  by_cases h0 : x = 0
  · subst h0
    go_wp2_with fail
    refine (of_lit r (P + 1) [⟨#[]⟩, ⟨#[65]⟩, ⟨#[97, 98, 99, 100, 101]⟩, ⟨#[97, 49]⟩, ⟨#[97, 98, 99, 100]⟩] w1 hr1 (by omega) (by decide) (by decide) rfl rfl).mono ?_
    rintro e w2 ⟨x, hx, rfl, hr2, hk2⟩
    have hs := short_mem (by rfl) hx
    clear hx
    go_wp2
    go_ret
    exact ⟨x, hs, rfl, hr2, RK.trans hk1 hk2⟩
  · have hz : ((x : Int) == 0) = false := by rw [beq_eq_false_iff_ne]; omega
    go_wp2_with fail
    refine (aKey_any r (P + 1) w1 hr1 (by omega)).mono ?_
    rintro e w2 ⟨s, hs, rfl, hr2, hk2⟩
    go_wp2
    go_ret
    exact ⟨s, hs, rfl, hr2, RK.trans hk1 hk2⟩
end Go.Proofs.Ytoglgeinnocfjaa
/-
  What stays while numbers are drawn from a reader.
-/
namespace Go.Proofs.Ytoglgeinnocfjaa
open Go.RowKit

theorem own_keeps {r : Nat} {w w' : World} {B E S n : Nat} {v : Value} {xs : List Value} (h : w.ownsRow B E S v n xs) (hr : r < B) (hk : Keeps (RK r w) w w') : w'.ownsRow B E S v n xs :=
  hk.own h (fun g hg => by have := own_range h hg; exact ⟨this.2, by omega⟩)
theorem RK.alloc {r : Nat} {w wr : World} (h : Keeps (RK r w) w wr) (o : Go.Obj) : Keeps (RK r w) w (wr.alloc o) := h.alloc (fun _ hk => hk.1) o

theorem cells_two_at {w : World} {g : Nat} (hg : w.heap.size = g) (a b : Value) (E : TypeId) : ∀ (j : Nat) (u : Value), [a, b][j]? = some u → (w.alloc (.cells #[a, b] E)).cell? ((⟨g, 0, none⟩ : Addr).add j) = some u := by
  subst hg
  exact cells_two_new w a b E
theorem Reader.grown_to {w w' : World} {r P : Nat} {row : Option Nat} (h : Reader w r P) (hg : w.grownBy w' row) (hr : ∀ j, row = some j → r < j) : Reader w' r P := by
  obtain ⟨v, bs, p, h1, h2, h3, h4, h5⟩ := h
  have hk : Keeps (fun j => j < w.heap.size ∧ j ≤ r) w w' := ⟨hg.os, hg.tape, hg.output, hg.size, fun j hj => hg.block j hj.1 (fun e => by have := hr j e.symm; have := hj.2; omega)⟩
  exact ⟨v, bs, p, (hk.block r ⟨lt_of_block h1, Nat.le_refl _⟩).trans h1, h2.kept hk (fun h0 g hg' => ⟨h2.lt h0 hg', by have := h4 h0 g hg'; omega⟩), h3, h4, h5⟩
set_option maxRecDepth 100000 in
theorem one_lit_at (g : Nat) (r P : Nat) (ns : List Int) (w : World) (hg : w.heap.size = g) (h : Reader w r P) (hP : P ≤ 100000000) (h0 : 0 < ns.length) (h1 : ns.length ≤ 1000) {n : Nat} (hn : ns.length = n) {vs : Array Value} (hvs : (ns.map (Value.int .i64)).toArray = vs) :
    Calls Try.prog 91 #[.pointer (some ⟨r, 0, none⟩), .slice (some ⟨g, 0, none⟩) n n] (w.alloc (.cells vs 3)) fun e w' => ∃ x, x ∈ ns ∧ e = .returned (.int .i64 x) ∧ Reader w' r (P + 1) ∧ Keeps (RK r w) w w' := by
  subst hg
  exact one_lit r P ns w h hP h0 h1 hn hvs

theorem RK.set {r : Nat} {w wr : World} (h : Keeps (RK r w) w wr) {a : Addr} (ha : w.heap.size ≤ a.block) (u : Value) : Keeps (RK r w) w (wr.setCell a u) := h.setCell (fun hk => by have := hk.1; omega) u
theorem Reader.set {w : World} {r P : Nat} (h : Reader w r P) {a : Addr} (ha : r < a.block) (u : Value) : Reader (w.setCell a u) r P := by
  obtain ⟨v, bs, p, h1, h2, h3, h4, h5⟩ := h
  have hk : Keeps (fun j => j < w.heap.size ∧ j ≤ r) w (w.setCell a u) := (Keeps.refl _ w).setCell (fun hj => by have := hj.2; omega) u
  exact ⟨v, bs, p, (hk.block r ⟨lt_of_block h1, Nat.le_refl _⟩).trans h1, h2.kept hk (fun h0 g hg' => ⟨h2.lt h0 hg', by have := h4 h0 g hg'; omega⟩), h3, h4, h5⟩

end Go.Proofs.Ytoglgeinnocfjaa
/-
  What stays while a row grows under a reader.
-/
namespace Go.Proofs.Ytoglgeinnocfjaa
open Go.RowKit

theorem RK.grown {r : Nat} {w w3 w5 : World} {v : Value} {B E S n : Nat} {xs : List Value} (h : Keeps (RK r w) w w3) (o : Go.Obj) (hown : w3.ownsRow B E S v n xs) (hB : w.heap.size ≤ B) (hg : (w3.alloc o).grownBy w5 v.ownBlock) : Keeps (RK r w) w w5 := by
  refine (RK.alloc h o).trans ⟨hg.os, hg.tape, hg.output, hg.size, fun j hj => hg.block j (by simp; have := hj.1; have := h.size; omega) (fun e => ?_)⟩
  have := (hown.lt j e.symm).1
  have := hj.1
  omega
theorem Reader.grown3 {r P : Nat} {w3 w5 : World} {v : Value} {B E S n : Nat} {xs : List Value} (h : Reader w3 r P) (o : Go.Obj) (hown : w3.ownsRow B E S v n xs) (hB : r < B) (hg : (w3.alloc o).grownBy w5 v.ownBlock) : Reader w5 r P :=
  (h.below ((Below.refl _ _).alloc (Nat.le_refl _) o)).grown_to hg (fun j e => by have := (hown.lt j e).1; omega)
end Go.Proofs.Ytoglgeinnocfjaa
