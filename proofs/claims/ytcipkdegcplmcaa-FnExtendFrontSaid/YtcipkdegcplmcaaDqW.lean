/-
  A deque with another limit, a deque turned: by the model and by the program.
-/
import Derived.Test.YtcipkdegcplmcaaDqS2
namespace Go.Proofs.Ytcipkdegcplmcaa
open Go.RowKit Go.Deep

/-- A new deque and whether it is one. -/
abbrev NewD (xs : List Int) (m : Int) (b : Bool) (w : World) (e : Ending) (w' : World) : Prop := NewN (fun v => .tuple #[.agg #[v, .int .i64 m], .bool b]) xs w e w'
theorem newD_no {w w' : World} {xs : List Int} {m : Int} {b : Bool} (hb : Hid (b = false)) (h : Below w.heap.size w w') : NewD (ifN b xs) (ifI b m) b w (.returned (okD (.slice none 0 0) 0 false)) w' := by
  rw [hb.out]
  exact ⟨_, rfl, OwnN.none (by omega), h⟩
theorem newD_yes {w w' : World} {v : Value} {xs : List Int} {m : Int} {b : Bool} (hb : Hid (b = true)) (ho : OwnN w.heap.size w'.heap.size w' v xs) (h : Below w.heap.size w w') : NewD (ifN b xs) (ifI b m) b w (.returned (okD v m true)) w' := by
  rw [hb.out]
  exact ⟨_, rfl, ho, h⟩
theorem and_no1 {a b : Bool} (h : Hid (a = false)) : Hid ((a && b) = false) := by show _ = _; rw [h.out]; rfl
theorem and_no2 {a b : Bool} (h : Hid (b = false)) : Hid ((a && b) = false) := by show _ = _; rw [h.out, Bool.and_false]
theorem and_yes {a b : Bool} (h : Hid (a = true)) (h' : Hid (b = true)) : Hid ((a && b) = true) := by show _ = _; rw [h.out, h'.out]; rfl
theorem fitB_le (xs : List Int) (m : Int) : (fitB xs m).length ≤ xs.length := by
  unfold fitB
  split
  · rw [List.length_drop]; omega
  · exact Nat.le_refl _

/-! ### another limit -/
def wmB (xs : List Int) (m q : Int) : Bool := validD xs m && limB q
theorem wm_le (xs : List Int) (m q : Int) : (ifN (wmB xs m q) (fitB xs q)).length ≤ 10000000 := ifN_le fun h => by
  unfold wmB at h
  rw [Bool.and_eq_true] at h
  have h1 := validD_len h.1
  have h2 := fitB_le xs q
  omega

end Go.Proofs.Ytcipkdegcplmcaa
