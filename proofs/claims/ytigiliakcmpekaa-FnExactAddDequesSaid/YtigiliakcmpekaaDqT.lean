/-
  A deque turned: by the model and by the program.
-/
import Derived.Test.YtigiliakcmpekaaDqW
namespace Go.Proofs.Ytigiliakcmpekaa
open Go.RowKit Go.Deep

/-- A new deque. -/
abbrev NewE (xs : List Int) (m : Int) (w : World) (e : Ending) (w' : World) : Prop := NewN (fun v => .agg #[v, .int .i64 m]) xs w e w'
theorem newE_no {w w' : World} {xs : List Int} {m : Int} {b : Bool} (hb : Hid (b = false)) (h : Below w.heap.size w w') : NewE (ifN b xs) (ifI b m) w (.returned (.agg #[.slice none 0 0, .int .i64 0])) w' := by
  rw [hb.out]
  exact ⟨_, rfl, OwnN.none (by omega), h⟩
theorem newE_yes {w w' : World} {v : Value} {xs : List Int} {m : Int} {b : Bool} (hb : Hid (b = true)) (ho : OwnN w.heap.size w'.heap.size w' v xs) (h : Below w.heap.size w w') : NewE (ifN b xs) (ifI b m) w (.returned (.agg #[v, .int .i64 m])) w' := by
  rw [hb.out]
  exact ⟨_, rfl, ho, h⟩
def tdB (xs : List Int) (m : Int) : Bool := validD xs m
theorem td_le (xs : List Int) (m : Int) : (ifN (tdB xs m) xs.reverse).length ≤ 10000000 := ifN_le fun h => by
  have h1 := validD_len h
  simpa using h1
theorem items_turned {xs : List Int} (h : xs.length ≤ 10) : itemsR (frontN (newRowN []) 10 xs) (10 - xs.length) 10 = xs.reverse := by
  have := items_front (xs := []) (ys := xs) (e := 10) h (by omega) (by simp)
  rw [List.append_nil, List.take_of_length_le (by rw [List.length_reverse]; omega)] at this
  exact this

end Go.Proofs.Ytigiliakcmpekaa
