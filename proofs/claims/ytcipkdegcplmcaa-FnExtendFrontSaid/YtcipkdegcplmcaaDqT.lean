/-
  A deque turned: by the model and by the program.
-/
import Derived.Test.YtcipkdegcplmcaaDqW
namespace Go.Proofs.Ytcipkdegcplmcaa
open Go.RowKit Go.Deep

/-- A new deque. -/
abbrev NewE (xs : List Int) (m : Int) (w : World) (e : Ending) (w' : World) : Prop := NewN (fun v => .agg #[v, .int .i64 m]) xs w e w'
theorem newE_no {w w' : World} {xs : List Int} {m : Int} {b : Bool} (hb : Hid (b = false)) (h : Below w.heap.size w w') : NewE (ifN b xs) (ifI b m) w (.returned (.agg #[.slice none 0 0, .int .i64 0])) w' := by
  rw [hb.out]
  exact ⟨_, rfl, OwnN.none (by omega), h⟩
theorem newE_yes {w w' : World} {v : Value} {xs : List Int} {m : Int} {b : Bool} (hb : Hid (b = true)) (ho : OwnN w.heap.size w'.heap.size w' v xs) (h : Below w.heap.size w w') : NewE (ifN b xs) (ifI b m) w (.returned (.agg #[v, .int .i64 m])) w' := by
  rw [hb.out]
  exact ⟨_, rfl, ho, h⟩
def tdB (xs : List Int) (m : Int) : Bool := validD xs m
theorem td_le (xs : List Int) (m : Int) : (ifN (tdB xs m) xs.reverse).length ≤ 10000000 := ifN_le fun h => by
  have h1 := validD_len h
  simpa using h1
theorem items_turned {xs : List Int} (h : xs.length ≤ 10) : itemsR (frontN (newRowN []) 10 xs) (10 - xs.length) 10 = xs.reverse := by
  have := items_front (xs := []) (ys := xs) (e := 10) h (by omega) (by simp)
  rw [List.append_nil, List.take_of_length_le (by rw [List.length_reverse]; omega)] at this
  exact this

set_option maxHeartbeats 1600000 in
set_option maxRecDepth 100000 in
theorem TurnDeque_any (v : Value) (xs : List Int) (m : Int) (w : World) (h : Nums w v xs) :
    Calls Try.prog 22 #[.agg #[v, .int .i64 m]] w (NewE (ifN (tdB xs m) xs.reverse) (ifI (tdB xs m) m) w) := by
  have HX := Lib.hid h
  have HK := Lib.hid h.inK
  obtain ⟨ao, cap, rfl, _, _⟩ := h.slice
  clear h
  go_enter Try.func22, Try.ntmps22
  have D := DFrame.new w (.slice ao xs.length cap) m
  have c0 := D.c0
  have c1 := D.c1
  cases hv : validD xs m
  all_goals
    have HV := Lib.hid hv
    clear hv
    go_wp2_with fail
    refine (VD_v _ (D.nums HX.out) HV.out).mono ?_
    rintro e w1 ⟨rfl, hb⟩
    have D1 := D.step hb
    clear hb c0 c1
    have c0 := D1.c0
    have c1 := D1.c1
    have r0 := D1.r0
    have r1 := D1.r1
    have f0 := D1.free 0
    have f1 := D1.free 1
  · go_wp2
    exact bodyPost_ret (v := .agg #[.slice none 0 0, .int .i64 0]) (by simp [results, Try.results22, go_sem, r0, r1]) rfl (newE_no HV (D1.done _ _))
  · have hl := validD_len HV.out
    have hsz := D1.size
    go_wp2_with fail
    refine (rowOf_any _ [] _ (Nums.nil _) (by simp)).mono ?_
    rintro e w2 ⟨rfl, hr, hb⟩
    have HR := Lib.hid hr
    have D2 := D1.step hb
    clear hr hb c0 c1 r0 r1 f0 f1
    have c0 := D2.c0
    go_wp2_with fail
    refine (extendFront_any _ xs _ HR.out (D2.nums HX.out) (HK.out.mono (fun k hk => by omega)) (by omega) (by omega)).mono ?_
    rintro e w3 ⟨rfl, hr, hb⟩
    have HR3 := Lib.hid hr
    have D3 := D2.past hb hsz
    clear hr hb c0
    have c1 := D3.c1
    go_wp2_with fail
    refine (deque_any m _ HR3.out (okN_front (okN_new okN_nil) HX.out.ok) (by simp) (by simp)).mono ?_
    rw [show 10 + ([] : List Int).length = 10 from rfl, items_turned hl]
    rintro e w4 ⟨v', rfl, ho, hb⟩
    have hsz3 := D3.size
    have D4 := D3.step hb
    obtain ⟨xo, xcap, rfl, _, _⟩ := ho.nums.slice
    have HO := Lib.hid ho
    clear ho hb c1
    have r0 := D4.r0
    have r1 := D4.r1
    have f0 := D4.free 0
    have f1 := D4.free 1
    go_wp2
    exact bodyPost_ret (v := .agg #[.slice xo xs.reverse.length xcap, .int .i64 m]) (by simp [results, Try.results22, go_sem, r0, r1]) rfl (newE_yes HV (D4.own HO.out hsz3 _ _) (D4.done _ _))
end Go.Proofs.Ytcipkdegcplmcaa
