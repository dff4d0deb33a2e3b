/-
  What is drawn from a reader: one of some numbers, one of some texts; keys and counts.
-/
import Derived.Test.YtloalakpkjbeaaaRead
namespace Go.Proofs.Ytloalakpkjbeaaa
open Go.RowKit

/-- The slice v, elsewhere than in block r, holds the values xs, one cell each. -/
def Holds1 (r : Nat) (w : World) (v : Value) (xs : List Value) : Prop :=
  ∃ b o cap, v = .slice (some ⟨b, o, none⟩) xs.length cap ∧ xs.length ≤ cap ∧ cap ≤ 9223372036854775807 ∧ b < w.heap.size ∧ b ≠ r ∧ ∀ k u, xs[k]? = some u → w.cell? ⟨b, o + k, none⟩ = some u
theorem Holds1.kept {r : Nat} {w w' : World} {v : Value} {xs : List Value} (h : Holds1 r w v xs) (hk : Keeps (RK r w) w w') : Holds1 r w' v xs := by
  obtain ⟨b, o, cap, rfl, h1, h2, hb, hne, hc⟩ := h
  exact ⟨b, o, cap, rfl, h1, h2, Nat.lt_of_lt_of_le hb hk.size, hne, fun k u hu => (hk.cell (a := ⟨b, _, none⟩) ⟨hb, hne⟩).trans (hc k u hu)⟩
theorem holds_lit (r : Nat) (w : World) (xs : List Value) (E : Nat) (hr : r < w.heap.size) (hl : xs.length ≤ 1000) : Holds1 r (w.alloc (.cells xs.toArray E)) (.slice (some ⟨w.heap.size, 0, none⟩) xs.length xs.length) xs := by
  refine ⟨w.heap.size, 0, xs.length, rfl, Nat.le_refl _, by omega, by simp, by omega, fun k u hu => ?_⟩
  rw [cell_of_row _ w.heap.size (0 + k) xs.toArray E (0, 0) (heap_alloc_new _ _)]
  simpa using hu
theorem Reader.lt {w : World} {r P : Nat} (h : Reader w r P) : r < w.heap.size := by
  obtain ⟨v, bs, p, hb, _⟩ := h
  exact lt_of_block hb
theorem Reader.mono {w : World} {r P P' : Nat} (h : Reader w r P) (hp : P ≤ P') : Reader w r P' := by
  obtain ⟨v, bs, p, h1, h2, h3, h4, h5⟩ := h
  exact ⟨v, bs, p, h1, h2, h3, h4, Nat.le_trans h5 hp⟩
theorem Reader.below {w w' : World} {r P : Nat} (h : Reader w r P) (hb : Below w.heap.size w w') : Reader w' r P := by
  obtain ⟨v, bs, p, h1, h2, h3, h4, h5⟩ := h
  exact ⟨v, bs, p, (hb.block r (lt_of_block h1)).trans h1, h2.kept (K := (· < w.heap.size)) (Keeps.of_below hb (fun _ h => h)) (fun h0 g hg => h2.lt h0 hg), h3, h4, h5⟩
theorem RK.of_below {r : Nat} {w w' : World} (hb : Below w.heap.size w w') : Keeps (RK r w) w w' := Keeps.of_below hb (fun _ h => h.1)

set_option maxHeartbeats 800000 in
theorem one_any (r P : Nat) (v : Value) (ns : List Int) (w : World) (h : Reader w r P) (hP : P ≤ 100000000) (hv : Holds1 r w v (ns.map (Value.int .i64))) (h0 : 0 < ns.length) (h1 : ns.length ≤ 1000) :
    Calls Try.prog 85 #[.pointer (some ⟨r, 0, none⟩), v] w fun e w' => ∃ x, x ∈ ns ∧ e = .returned (.int .i64 x) ∧ Reader w' r (P + 1) ∧ Keeps (RK r w) w w' := by
  have HV := Lib.hid hv
  obtain ⟨b, o, cap, rfl, hl, hc, hb, hne, hcell⟩ := hv
  rw [List.length_map] at hl
  have el : (ns.map (Value.int .i64)).length = ns.length := List.length_map _
  rw [el] at HV ⊢
  go_enter Try.func85, Try.ntmps85
  go_wp2_with fail
  refine (pick_any r P ns.length w h hP (by omega) (by omega)).mono ?_
  rintro e w1 ⟨x, rfl, hx, hr1, hk1⟩
  have hx' : x < ns.length := by omega
  have c1 : w1.cell? ⟨b, o + x, none⟩ = some (.int .i64 ns[x]) := (hk1.cell (a := ⟨b, o + x, none⟩) ⟨hb, hne⟩).trans (hcell x _ (by simp [hx']))
  have hm := List.getElem_mem hx'
  clear hcell
  go_wp2
  go_ret
  exact ⟨_, hm, rfl, hr1, hk1⟩

set_option maxHeartbeats 800000 in
theorem of_any (r P : Nat) (v : Value) (ns : List ByteArray) (w : World) (h : Reader w r P) (hP : P ≤ 100000000) (hv : Holds1 r w v (ns.map Value.string)) (h0 : 0 < ns.length) (h1 : ns.length ≤ 1000) :
    Calls Try.prog 96 #[.pointer (some ⟨r, 0, none⟩), v] w fun e w' => ∃ x, x ∈ ns ∧ e = .returned (.string x) ∧ Reader w' r (P + 1) ∧ Keeps (RK r w) w w' := by
  have HV := Lib.hid hv
  obtain ⟨b, o, cap, rfl, hl, hc, hb, hne, hcell⟩ := hv
  rw [List.length_map] at hl
  have el : (ns.map Value.string).length = ns.length := List.length_map _
  rw [el] at HV ⊢
  go_enter Try.func96, Try.ntmps96
  go_wp2_with fail
  refine (pick_any r P ns.length w h hP (by omega) (by omega)).mono ?_
  rintro e w1 ⟨x, rfl, hx, hr1, hk1⟩
  have hx' : x < ns.length := by omega
  have c1 : w1.cell? ⟨b, o + x, none⟩ = some (.string ns[x]) := (hk1.cell (a := ⟨b, o + x, none⟩) ⟨hb, hne⟩).trans (hcell x _ (by simp [hx']))
  have hm := List.getElem_mem hx'
  clear hcell
  go_wp2
  go_ret
  exact ⟨_, hm, rfl, hr1, hk1⟩

/-- A drawn text. -/
def DrawS (r P : Nat) (w : World) (e : Ending) (w' : World) : Prop := ∃ s : ByteArray, s.size ≤ 9223372036854775807 ∧ e = .returned (.string s) ∧ Reader w' r P ∧ Keeps (RK r w) w w'
/-- A drawn number. -/
def DrawN (r P : Nat) (w : World) (e : Ending) (w' : World) : Prop := ∃ x : Int, (-10000 ≤ x ∧ x ≤ 10000) ∧ e = .returned (.int .i64 x) ∧ Reader w' r P ∧ Keeps (RK r w) w w'

theorem of_lit (r P : Nat) (ns : List ByteArray) (w : World) (h : Reader w r P) (hP : P ≤ 100000000) (h0 : 0 < ns.length) (h1 : ns.length ≤ 1000) {n : Nat} (hn : ns.length = n) {vs : Array Value} (hvs : (ns.map Value.string).toArray = vs) :
    Calls Try.prog 96 #[.pointer (some ⟨r, 0, none⟩), .slice (some ⟨w.heap.size, 0, none⟩) n n] (w.alloc (.cells vs 9)) fun e w' => ∃ x, x ∈ ns ∧ e = .returned (.string x) ∧ Reader w' r (P + 1) ∧ Keeps (RK r w) w w' := by
  subst hvs hn
  have hb : Below w.heap.size w (w.alloc (.cells (ns.map Value.string).toArray 9)) := (Below.refl _ _).alloc (Nat.le_refl _) _
  have hv := holds_lit r w (ns.map Value.string) 9 h.lt (by rw [List.length_map]; exact h1)
  rw [List.length_map] at hv
  refine (of_any r P _ ns _ (h.below hb) hP hv h0 h1).mono ?_
  rintro e w' ⟨x, hx, rfl, hr, hk⟩
  exact ⟨x, hx, rfl, hr, RK.trans (RK.of_below hb) hk⟩
theorem one_lit (r P : Nat) (ns : List Int) (w : World) (h : Reader w r P) (hP : P ≤ 100000000) (h0 : 0 < ns.length) (h1 : ns.length ≤ 1000) {n : Nat} (hn : ns.length = n) {vs : Array Value} (hvs : (ns.map (Value.int .i64)).toArray = vs) :
    Calls Try.prog 85 #[.pointer (some ⟨r, 0, none⟩), .slice (some ⟨w.heap.size, 0, none⟩) n n] (w.alloc (.cells vs 3)) fun e w' => ∃ x, x ∈ ns ∧ e = .returned (.int .i64 x) ∧ Reader w' r (P + 1) ∧ Keeps (RK r w) w w' := by
  subst hvs hn
  have hb : Below w.heap.size w (w.alloc (.cells (ns.map (Value.int .i64)).toArray 3)) := (Below.refl _ _).alloc (Nat.le_refl _) _
  have hv := holds_lit r w (ns.map (Value.int .i64)) 3 h.lt (by rw [List.length_map]; exact h1)
  rw [List.length_map] at hv
  refine (one_any r P _ ns _ (h.below hb) hP hv h0 h1).mono ?_
  rintro e w' ⟨x, hx, rfl, hr, hk⟩
  exact ⟨x, hx, rfl, hr, RK.trans (RK.of_below hb) hk⟩

def shortB (ns : List ByteArray) : Bool := ns.all fun s => decide (s.size ≤ 100)
theorem short_mem {ns : List ByteArray} (h : shortB ns = true) {s : ByteArray} (hs : s ∈ ns) : s.size ≤ 9223372036854775807 := by
  have := List.all_eq_true.1 h s hs
  simp at this
  omega
def nearB (ns : List Int) : Bool := ns.all fun x => decide (-10000 ≤ x) && decide (x ≤ 10000)
theorem near_mem {ns : List Int} (h : nearB ns = true) {x : Int} (hx : x ∈ ns) : -10000 ≤ x ∧ x ≤ 10000 := by
  have := List.all_eq_true.1 h x hx
  simpa using this

set_option maxHeartbeats 800000 in
theorem aKey_any (r P : Nat) (w : World) (h : Reader w r P) (hP : P ≤ 100000000) :
    Calls Try.prog 95 #[.pointer (some ⟨r, 0, none⟩)] w (DrawS r (P + 1) w) := by
  go_enter Try.func95, Try.ntmps95
  go_wp2_with fail
  refine (of_lit r P [⟨#[97]⟩, ⟨#[98]⟩, ⟨#[99]⟩, ⟨#[100]⟩, ⟨#[101]⟩, ⟨#[97, 98]⟩, ⟨#[102]⟩, ⟨#[103]⟩, ⟨#[104]⟩] w h hP (by decide) (by decide) rfl rfl).mono ?_
  rintro e w1 ⟨x, hx, rfl, hr1, hk1⟩
  have hs := short_mem (by rfl) hx
  clear hx
  go_wp2
  go_ret
  exact ⟨x, hs, rfl, hr1, hk1⟩

set_option maxHeartbeats 800000 in
theorem aCount_any (r P : Nat) (w : World) (h : Reader w r P) (hP : P ≤ 100000000) :
    Calls Try.prog 92 #[.pointer (some ⟨r, 0, none⟩)] w (DrawN r (P + 1) w) := by
  go_enter Try.func92, Try.ntmps92
  go_wp2_with fail
  refine (one_lit r P [1, 2, 3, 0, -1, 5, -2, 4] w h hP (by decide) (by decide) rfl rfl).mono ?_
  rintro e w1 ⟨x, hx, rfl, hr1, hk1⟩
  have hs := near_mem (by rfl) hx
  clear hx
  go_wp2
  go_ret
  exact ⟨x, hs, rfl, hr1, hk1⟩

set_option maxHeartbeats 800000 in
theorem anyKey_any (r P : Nat) (w : World) (h : Reader w r P) (hP : P ≤ 10000000) :
    Calls Try.prog 84 #[.pointer (some ⟨r, 0, none⟩)] w (DrawS r (P + 2) w) := by
  go_enter Try.func84, Try.ntmps84
  go_wp2_with fail
  refine (pick_any r P 16 w h (by omega) (by omega) (by omega)).mono ?_
  rintro e w1 ⟨x, rfl, hx, hr1, hk1⟩
  by_cases h0 : x = 0
  · subst h0
    go_wp2_with fail
    refine (of_lit r (P + 1) [⟨#[]⟩, ⟨#[65]⟩, ⟨#[97, 98, 99, 100, 101]⟩, ⟨#[97, 49]⟩, ⟨#[97, 98, 99, 100]⟩] w1 hr1 (by omega) (by decide) (by decide) rfl rfl).mono ?_
    rintro e w2 ⟨x, hx, rfl, hr2, hk2⟩
    have hs := short_mem (by rfl) hx
    clear hx
    go_wp2
    go_ret
    exact ⟨x, hs, rfl, hr2, RK.trans hk1 hk2⟩
  · have hz : ((x : Int) == 0) = false := by rw [beq_eq_false_iff_ne]; omega
    go_wp2_with fail
    refine (aKey_any r (P + 1) w1 hr1 (by omega)).mono ?_
    rintro e w2 ⟨s, hs, rfl, hr2, hk2⟩
    go_wp2
    go_ret
    exact ⟨s, hs, rfl, hr2, RK.trans hk1 hk2⟩
end Go.Proofs.Ytloalakpkjbeaaa
