/-
  Row2, Row3, RowP, DqS2, DqW, DqT.
-/
import Derived.Deep.RegionLaw
import Derived.Test.YthhjfhdcfegdfaaP10
import Derived.Test.YthhjfhdcfegdfaaP12
/-
  The program's row: numbers put behind, numbers put ahead, a limit.
-/
namespace Go.Proofs.Ythhjfhdcfegdfaa
open Go.RowKit Go.Deep

theorem cellsN_splice (cs xs : List Int) (o : Nat) : cellsN (splice cs o xs) = splice (cellsN cs) o (cellsN xs) := by
  simp [cellsN, splice]
theorem rowCells_splice {cs xs : List Int} {f e : Nat} (hc : cs.length = 30) (h : e + xs.length ≤ 30) : splice (rowCells cs f e) e (cellsN xs) = rowCells (splice cs e xs) f e := by
  unfold rowCells
  rw [cellsN_splice]
  unfold splice
  have h1 : (cellsN cs).length = 30 := by rw [cellsN_length, hc]
  have h2 : (cellsN xs).length = xs.length := cellsN_length xs
  rw [List.take_append_of_le_length (by omega), List.drop_append_of_le_length (by omega)]
  simp [List.append_assoc]
theorem belowAny {g : Nat} {w : World} {k : Nat} : Below g w (w.drewN k) := ⟨rfl, rfl, rfl, Nat.le_refl _, fun _ _ => rfl⟩
theorem Nums.src {w : World} {ao : Option Addr} {n cap : Nat} {xs : List Int} (h : Nums w (.slice ao n cap) xs) (hp : 0 < (cellsN xs).length) : ∃ ad, ao = some ad ∧ ∀ j v, (cellsN xs)[j]? = some v → w.cell? (ad.add j) = some v := by
  rw [cellsN_length] at hp
  have h' := h
  obtain ⟨ao', cap', e, _, _, _, hcell⟩ := h'
  simp only [Value.slice.injEq] at e
  obtain ⟨rfl, rfl, rfl⟩ := e
  obtain ⟨b, o, rfl, _⟩ := hcell 0 hp
  exact ⟨_, rfl, h.news⟩

/-! ### a new row -/
def blk10 : List Int := List.replicate 10 (-10000)
/-- A new row of numbers. -/
def newRowN (xs : List Int) : List Int := blk10 ++ xs ++ List.replicate (20 - xs.length) (-10000)
theorem splice_new {xs : List Int} (h : xs.length ≤ 20) : splice (List.replicate 30 (-10000)) 10 xs = newRowN xs := by
  unfold splice newRowN blk10
  rw [List.take_replicate, List.drop_replicate, List.append_assoc]
  congr 3
  omega
theorem blank_step {k : Nat} (hk : k < 30) : (List.replicate k (-10000 : Int) ++ List.replicate (30 - k) 0).set k (-10000) = List.replicate (k + 1) (-10000) ++ List.replicate (30 - (k + 1)) 0 := by
  rw [List.set_append_right _ _ (by simp), List.length_replicate, Nat.sub_self, show 30 - k = (30 - (k + 1)) + 1 by omega, List.replicate_succ, List.set_cons_zero, List.replicate_succ', List.append_assoc]
  rfl

end Go.Proofs.Ythhjfhdcfegdfaa
/-
  The program's row: a limit, numbers put ahead, what it holds.
-/
namespace Go.Proofs.Ythhjfhdcfegdfaa
open Go.RowKit Go.Deep

def keepL (f e : Nat) (m : Int) : Nat := if m = -1 then f else max f (e - m.toNat)
def keepF (f e : Nat) (m : Int) : Nat := if m = -1 then e else min e (f + m.toNat)
/-! ### numbers put ahead -/
def frontN (cs : List Int) (f : Nat) (xs : List Int) : List Int := cs.take (f - xs.length) ++ (xs.reverse ++ cs.drop f)
theorem frontN_nil (cs : List Int) (f : Nat) : frontN cs f [] = cs := by simp [frontN]
theorem frontN_step {cs xs : List Int} {f k : Nat} (hk : k < xs.length) (hf : k < f) (hc : f ≤ cs.length) : (frontN cs f (xs.take k)).set (f - (k + 1)) xs[k] = frontN cs f (xs.take (k + 1)) := by
  unfold frontN
  have h1 : (xs.take k).length = k := by simp; omega
  have h2 : (xs.take (k + 1)).length = k + 1 := by simp; omega
  rw [h1, h2, show f - k = (f - (k + 1)) + 1 by omega, List.take_succ_eq_append_getElem (l := cs) (by omega), List.append_assoc, List.set_append_right _ _ (by simp; omega)]
  rw [show f - (k + 1) - (cs.take (f - (k + 1))).length = 0 by simp; omega, List.singleton_append, List.set_cons_zero, List.take_succ_eq_append_getElem hk, List.reverse_append]
  rfl

/-! ### what the row holds -/
def itemsR (cs : List Int) (f e : Nat) : List Int := (cs.take e).drop f
theorem itemsR_length {cs : List Int} {f e : Nat} (h : cs.length = 30) (he : e ≤ 30) : (itemsR cs f e).length = e - f := by
  unfold itemsR
  simp
  omega
end Go.Proofs.Ythhjfhdcfegdfaa
/-
  What rows hold; no program.
-/
namespace Go.Proofs.Ythhjfhdcfegdfaa
open Go.RowKit

theorem okN_rep (n : Nat) : okN (List.replicate n (-10000)) := fun x hx => by
  rw [(List.mem_replicate.1 hx).2]
  omega
theorem okN_new {xs : List Int} (h : okN xs) : okN (newRowN xs) := okN_append (okN_append (okN_rep 10) h) (okN_rep _)
theorem blk10_length : blk10.length = 10 := by simp [blk10]
theorem new_append {xs ys : List Int} (h : xs.length + ys.length ≤ 20) : splice (newRowN xs) (10 + xs.length) ys = newRowN (xs ++ ys) := by
  unfold splice newRowN
  have h1 : (blk10 ++ xs).length = 10 + xs.length := by rw [List.length_append, blk10_length]
  rw [List.take_append_of_le_length (by omega), List.take_of_length_le (by omega), List.drop_append, h1, List.drop_of_length_le (by omega), List.drop_replicate, List.nil_append]
  rw [← List.append_assoc, ← List.append_assoc, List.length_append]
  congr 2
  omega
theorem items_new {zs : List Int} {a b : Nat} (hb : b ≤ zs.length) : itemsR (newRowN zs) (10 + a) (10 + b) = (zs.take b).drop a := by
  unfold itemsR newRowN
  rw [List.append_assoc, List.take_append, blk10_length, List.take_of_length_le (by rw [blk10_length]; omega), show 10 + b - 10 = b by omega, List.take_append_of_le_length hb, List.drop_append, blk10_length, List.drop_of_length_le (by rw [blk10_length]; omega), show 10 + a - 10 = a by omega]
  rfl
theorem items_last {zs : List Int} {m : Int} (h0 : -1 ≤ m) : itemsR (newRowN zs) (keepL 10 (10 + zs.length) m) (10 + zs.length) = fitB zs m := by
  have h : ∃ d, d ≤ zs.length ∧ keepL 10 (10 + zs.length) m = 10 + d ∧ fitB zs m = zs.drop d := by
    unfold keepL fitB
    by_cases h1 : m = -1
    · exact ⟨0, Nat.zero_le _, by rw [if_pos h1], by rw [if_neg (by omega)]; rfl⟩
    · rw [if_neg h1]
      by_cases h2 : m < zs.length
      · exact ⟨zs.length - m.toNat, by omega, by omega, by rw [if_pos ⟨by omega, h2⟩]⟩
      · exact ⟨0, Nat.zero_le _, by omega, by rw [if_neg (by omega)]; rfl⟩
  obtain ⟨d, _, e1, e2⟩ := h
  rw [e1, e2, items_new (Nat.le_refl _), List.take_length]
theorem items_front {xs ys : List Int} {e : Nat} (hk : ys.length ≤ 10) (h1 : 10 - ys.length ≤ e) (h2 : e ≤ 10 + xs.length) : itemsR (frontN (newRowN xs) 10 ys) (10 - ys.length) e = (ys.reverse ++ xs).take (e - (10 - ys.length)) := by
  unfold itemsR frontN newRowN
  have e1 : ((blk10 ++ xs ++ List.replicate (20 - xs.length) (-10000 : Int)).take (10 - ys.length)).length = 10 - ys.length := by
    rw [List.length_take, List.length_append, List.length_append, blk10_length]
    omega
  have e2 : (blk10 ++ xs ++ List.replicate (20 - xs.length) (-10000 : Int)).drop 10 = xs ++ List.replicate (20 - xs.length) (-10000) := by
    rw [List.append_assoc, List.drop_append, blk10_length, List.drop_of_length_le (by rw [blk10_length]; omega)]
    rfl
  rw [e2, List.take_append, e1, List.take_of_length_le (by rw [e1]; exact h1), List.drop_append, e1, List.drop_of_length_le (by rw [e1]; omega), Nat.sub_self, List.drop_zero, List.nil_append, ← List.append_assoc, List.take_append_of_le_length]
  rw [List.length_append, List.length_reverse]
  omega
theorem items_first {xs ys : List Int} {m : Int} (hk : ys.length ≤ 10) (h0 : -1 ≤ m) : itemsR (frontN (newRowN xs) 10 ys) (10 - ys.length) (keepF (10 - ys.length) (10 + xs.length) m) = fitF (ys.reverse ++ xs) m := by
  have hb : keepF (10 - ys.length) (10 + xs.length) m ≤ 10 + xs.length ∧ 10 - ys.length ≤ keepF (10 - ys.length) (10 + xs.length) m := by
    unfold keepF
    split <;> omega
  rw [items_front hk hb.2 hb.1]
  unfold keepF fitF
  by_cases h1 : m = -1
  · rw [if_pos h1, if_neg (by omega), List.take_of_length_le]
    rw [List.length_append, List.length_reverse]
    omega
  · rw [if_neg h1]
    by_cases h2 : m < (ys.reverse ++ xs).length
    · rw [if_pos ⟨by omega, h2⟩]
      rw [List.length_append, List.length_reverse] at h2
      congr 1
      omega
    · rw [if_neg (by omega), List.take_of_length_le]
      rw [List.length_append, List.length_reverse] at h2 ⊢
      omega
theorem front_length {xs ys : List Int} (hn : xs.length ≤ 20) (hk : ys.length ≤ 10) : (frontN (newRowN xs) 10 ys).length = 30 := by
  unfold frontN newRowN
  simp [blk10]
  omega
theorem okN_front {cs ys : List Int} {f : Nat} (h : okN cs) (h' : okN ys) : okN (frontN cs f ys) := okN_append (okN_take h _) (okN_append (fun x hx => h' x (List.mem_reverse.1 hx)) (okN_drop h _))
theorem new_nil : newRowN [] = List.replicate 30 (-10000) := by decide +kernel

/-- A list if something holds; a number if something holds. -/
def ifN (b : Bool) (xs : List Int) : List Int := if b = true then xs else []
def ifI (b : Bool) (n : Int) : Int := if b = true then n else 0
theorem ifN_le {b : Bool} {xs : List Int} (h : b = true → xs.length ≤ 10) : (ifN b xs).length ≤ 10000000 := by
  unfold ifN
  split
  · rename_i hb
    have := h hb
    omega
  · simp
theorem fitB_len {xs : List Int} {m : Int} (_h0 : 0 ≤ m) : ((fitB xs m).length : Int) ≤ m ∨ fitB xs m = xs := by
  unfold fitB
  split
  · left
    rw [List.length_drop]
    omega
  · exact .inr rfl
end Go.Proofs.Ythhjfhdcfegdfaa
/-
  The model's small functions over numbers, second part: the first ones, turned.
-/
namespace Go.Proofs.Ythhjfhdcfegdfaa
open Go.RowKit Go.Deep
theorem Nums_one (w : World) (x : Int) (E : TypeId) (hx : -9223372036854775808 ≤ x ∧ x ≤ 9223372036854775807) : Nums (w.alloc (.cells #[.int .i64 x] E)) (.slice (some ⟨w.heap.size, 0, none⟩) 1 1) [x] := by
  refine ⟨_, 1, rfl, Nat.le_refl _, by omega, fun y hy => ?_, fun k hk => ?_⟩
  · rw [List.mem_singleton.1 hy]; exact hx
  · obtain rfl : k = 0 := by simpa using hk
    exact ⟨w.heap.size, 0, rfl, by simp, by simp⟩

end Go.Proofs.Ythhjfhdcfegdfaa
/-
  A deque with another limit, a deque turned: by the model and by the program.
-/
namespace Go.Proofs.Ythhjfhdcfegdfaa
open Go.RowKit Go.Deep

/-- A new deque and whether it is one. -/
abbrev NewD (xs : List Int) (m : Int) (b : Bool) (w : World) (e : Ending) (w' : World) : Prop := NewN (fun v => .tuple #[.agg #[v, .int .i64 m], .bool b]) xs w e w'
theorem newD_no {w w' : World} {xs : List Int} {m : Int} {b : Bool} (hb : Hid (b = false)) (h : Below w.heap.size w w') : NewD (ifN b xs) (ifI b m) b w (.returned (okD (.slice none 0 0) 0 false)) w' := by
  rw [hb.out]
  exact ⟨_, rfl, OwnN.none (by omega), h⟩
theorem newD_yes {w w' : World} {v : Value} {xs : List Int} {m : Int} {b : Bool} (hb : Hid (b = true)) (ho : OwnN w.heap.size w'.heap.size w' v xs) (h : Below w.heap.size w w') : NewD (ifN b xs) (ifI b m) b w (.returned (okD v m true)) w' := by
  rw [hb.out]
  exact ⟨_, rfl, ho, h⟩
theorem and_no1 {a b : Bool} (h : Hid (a = false)) : Hid ((a && b) = false) := by show _ = _; rw [h.out]; rfl
theorem and_no2 {a b : Bool} (h : Hid (b = false)) : Hid ((a && b) = false) := by show _ = _; rw [h.out, Bool.and_false]
theorem and_yes {a b : Bool} (h : Hid (a = true)) (h' : Hid (b = true)) : Hid ((a && b) = true) := by show _ = _; rw [h.out, h'.out]; rfl
theorem fitB_le (xs : List Int) (m : Int) : (fitB xs m).length ≤ xs.length := by
  unfold fitB
  split
  · rw [List.length_drop]; omega
  · exact Nat.le_refl _

/-! ### another limit -/
def wmB (xs : List Int) (m q : Int) : Bool := validD xs m && limB q
theorem wm_le (xs : List Int) (m q : Int) : (ifN (wmB xs m q) (fitB xs q)).length ≤ 10000000 := ifN_le fun h => by
  unfold wmB at h
  rw [Bool.and_eq_true] at h
  have h1 := validD_len h.1
  have h2 := fitB_le xs q
  omega

end Go.Proofs.Ythhjfhdcfegdfaa
/-
  A deque turned: by the model and by the program.
-/
namespace Go.Proofs.Ythhjfhdcfegdfaa
open Go.RowKit Go.Deep

/-- A new deque. -/
abbrev NewE (xs : List Int) (m : Int) (w : World) (e : Ending) (w' : World) : Prop := NewN (fun v => .agg #[v, .int .i64 m]) xs w e w'
theorem newE_no {w w' : World} {xs : List Int} {m : Int} {b : Bool} (hb : Hid (b = false)) (h : Below w.heap.size w w') : NewE (ifN b xs) (ifI b m) w (.returned (.agg #[.slice none 0 0, .int .i64 0])) w' := by
  rw [hb.out]
  exact ⟨_, rfl, OwnN.none (by omega), h⟩
theorem newE_yes {w w' : World} {v : Value} {xs : List Int} {m : Int} {b : Bool} (hb : Hid (b = true)) (ho : OwnN w.heap.size w'.heap.size w' v xs) (h : Below w.heap.size w w') : NewE (ifN b xs) (ifI b m) w (.returned (.agg #[v, .int .i64 m])) w' := by
  rw [hb.out]
  exact ⟨_, rfl, ho, h⟩
def tdB (xs : List Int) (m : Int) : Bool := validD xs m
theorem td_le (xs : List Int) (m : Int) : (ifN (tdB xs m) xs.reverse).length ≤ 10000000 := ifN_le fun h => by
  have h1 := validD_len h
  simpa using h1
theorem items_turned {xs : List Int} (h : xs.length ≤ 10) : itemsR (frontN (newRowN []) 10 xs) (10 - xs.length) 10 = xs.reverse := by
  have := items_front (xs := []) (ys := xs) (e := 10) h (by omega) (by simp)
  rw [List.append_nil, List.take_of_length_le (by rw [List.length_reverse]; omega)] at this
  exact this

end Go.Proofs.Ythhjfhdcfegdfaa
