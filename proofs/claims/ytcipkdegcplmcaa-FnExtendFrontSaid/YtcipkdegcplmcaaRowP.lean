/-
  What rows hold; no program.
-/
import Derived.Test.YtcipkdegcplmcaaRow3
import Derived.Test.YtcipkdegcplmcaaDqS
namespace Go.Proofs.Ytcipkdegcplmcaa
open Go.RowKit

theorem okN_rep (n : Nat) : okN (List.replicate n (-10000)) := fun x hx => by
  rw [(List.mem_replicate.1 hx).2]
  omega
theorem okN_new {xs : List Int} (h : okN xs) : okN (newRowN xs) := okN_append (okN_append (okN_rep 10) h) (okN_rep _)
theorem blk10_length : blk10.length = 10 := by simp [blk10]
theorem new_append {xs ys : List Int} (h : xs.length + ys.length ≤ 20) : splice (newRowN xs) (10 + xs.length) ys = newRowN (xs ++ ys) := by
  unfold splice newRowN
  have h1 : (blk10 ++ xs).length = 10 + xs.length := by rw [List.length_append, blk10_length]
  rw [List.take_append_of_le_length (by omega), List.take_of_length_le (by omega), List.drop_append, h1, List.drop_of_length_le (by omega), List.drop_replicate, List.nil_append]
  rw [← List.append_assoc, ← List.append_assoc, List.length_append]
  congr 2
  omega
theorem items_new {zs : List Int} {a b : Nat} (hb : b ≤ zs.length) : itemsR (newRowN zs) (10 + a) (10 + b) = (zs.take b).drop a := by
  unfold itemsR newRowN
  rw [List.append_assoc, List.take_append, blk10_length, List.take_of_length_le (by rw [blk10_length]; omega), show 10 + b - 10 = b by omega, List.take_append_of_le_length hb, List.drop_append, blk10_length, List.drop_of_length_le (by rw [blk10_length]; omega), show 10 + a - 10 = a by omega]
  rfl
theorem items_last {zs : List Int} {m : Int} (h0 : -1 ≤ m) : itemsR (newRowN zs) (keepL 10 (10 + zs.length) m) (10 + zs.length) = fitB zs m := by
  have h : ∃ d, d ≤ zs.length ∧ keepL 10 (10 + zs.length) m = 10 + d ∧ fitB zs m = zs.drop d := by
    unfold keepL fitB
    by_cases h1 : m = -1
    · exact ⟨0, Nat.zero_le _, by rw [if_pos h1], by rw [if_neg (by omega)]; rfl⟩
    · rw [if_neg h1]
      by_cases h2 : m < zs.length
      · exact ⟨zs.length - m.toNat, by omega, by omega, by rw [if_pos ⟨by omega, h2⟩]⟩
      · exact ⟨0, Nat.zero_le _, by omega, by rw [if_neg (by omega)]; rfl⟩
  obtain ⟨d, _, e1, e2⟩ := h
  rw [e1, e2, items_new (Nat.le_refl _), List.take_length]
theorem items_front {xs ys : List Int} {e : Nat} (hk : ys.length ≤ 10) (h1 : 10 - ys.length ≤ e) (h2 : e ≤ 10 + xs.length) : itemsR (frontN (newRowN xs) 10 ys) (10 - ys.length) e = (ys.reverse ++ xs).take (e - (10 - ys.length)) := by
  unfold itemsR frontN newRowN
  have e1 : ((blk10 ++ xs ++ List.replicate (20 - xs.length) (-10000 : Int)).take (10 - ys.length)).length = 10 - ys.length := by
    rw [List.length_take, List.length_append, List.length_append, blk10_length]
    omega
  have e2 : (blk10 ++ xs ++ List.replicate (20 - xs.length) (-10000 : Int)).drop 10 = xs ++ List.replicate (20 - xs.length) (-10000) := by
    rw [List.append_assoc, List.drop_append, blk10_length, List.drop_of_length_le (by rw [blk10_length]; omega)]
    rfl
  rw [e2, List.take_append, e1, List.take_of_length_le (by rw [e1]; exact h1), List.drop_append, e1, List.drop_of_length_le (by rw [e1]; omega), Nat.sub_self, List.drop_zero, List.nil_append, ← List.append_assoc, List.take_append_of_le_length]
  rw [List.length_append, List.length_reverse]
  omega
theorem items_first {xs ys : List Int} {m : Int} (hk : ys.length ≤ 10) (h0 : -1 ≤ m) : itemsR (frontN (newRowN xs) 10 ys) (10 - ys.length) (keepF (10 - ys.length) (10 + xs.length) m) = fitF (ys.reverse ++ xs) m := by
  have hb : keepF (10 - ys.length) (10 + xs.length) m ≤ 10 + xs.length ∧ 10 - ys.length ≤ keepF (10 - ys.length) (10 + xs.length) m := by
    unfold keepF
    split <;> omega
  rw [items_front hk hb.2 hb.1]
  unfold keepF fitF
  by_cases h1 : m = -1
  · rw [if_pos h1, if_neg (by omega), List.take_of_length_le]
    rw [List.length_append, List.length_reverse]
    omega
  · rw [if_neg h1]
    by_cases h2 : m < (ys.reverse ++ xs).length
    · rw [if_pos ⟨by omega, h2⟩]
      rw [List.length_append, List.length_reverse] at h2
      congr 1
      omega
    · rw [if_neg (by omega), List.take_of_length_le]
      rw [List.length_append, List.length_reverse] at h2 ⊢
      omega
theorem front_length {xs ys : List Int} (hn : xs.length ≤ 20) (hk : ys.length ≤ 10) : (frontN (newRowN xs) 10 ys).length = 30 := by
  unfold frontN newRowN
  simp [blk10]
  omega
theorem okN_front {cs ys : List Int} {f : Nat} (h : okN cs) (h' : okN ys) : okN (frontN cs f ys) := okN_append (okN_take h _) (okN_append (fun x hx => h' x (List.mem_reverse.1 hx)) (okN_drop h _))
theorem new_nil : newRowN [] = List.replicate 30 (-10000) := by decide +kernel

/-- A list if something holds; a number if something holds. -/
def ifN (b : Bool) (xs : List Int) : List Int := if b = true then xs else []
def ifI (b : Bool) (n : Int) : Int := if b = true then n else 0
theorem ifN_le {b : Bool} {xs : List Int} (h : b = true → xs.length ≤ 10) : (ifN b xs).length ≤ 10000000 := by
  unfold ifN
  split
  · rename_i hb
    have := h hb
    omega
  · simp
theorem fitB_len {xs : List Int} {m : Int} (_h0 : 0 ≤ m) : ((fitB xs m).length : Int) ≤ m ∨ fitB xs m = xs := by
  unfold fitB
  split
  · left
    rw [List.length_drop]
    omega
  · exact .inr rfl
end Go.Proofs.Ytcipkdegcplmcaa
