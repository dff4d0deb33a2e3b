/-
  A deque with another limit, a deque turned: by the model and by the program.
-/
import Derived.Test.YtfooiijfminlnaaDqS2
namespace Go.Proofs.Ytfooiijfminlnaa
open Go.RowKit Go.Deep

/-- A new deque and whether it is one. -/
abbrev NewD (xs : List Int) (m : Int) (b : Bool) (w : World) (e : Ending) (w' : World) : Prop := NewN (fun v => .tuple #[.agg #[v, .int .i64 m], .bool b]) xs w e w'
theorem newD_no {w w' : World} {xs : List Int} {m : Int} {b : Bool} (hb : Hid (b = false)) (h : Below w.heap.size w w') : NewD (ifN b xs) (ifI b m) b w (.returned (okD (.slice none 0 0) 0 false)) w' := by
  rw [hb.out]
  exact ⟨_, rfl, OwnN.none (by omega), h⟩
theorem newD_yes {w w' : World} {v : Value} {xs : List Int} {m : Int} {b : Bool} (hb : Hid (b = true)) (ho : OwnN w.heap.size w'.heap.size w' v xs) (h : Below w.heap.size w w') : NewD (ifN b xs) (ifI b m) b w (.returned (okD v m true)) w' := by
  rw [hb.out]
  exact ⟨_, rfl, ho, h⟩
theorem and_no1 {a b : Bool} (h : Hid (a = false)) : Hid ((a && b) = false) := by show _ = _; rw [h.out]; rfl
theorem and_no2 {a b : Bool} (h : Hid (b = false)) : Hid ((a && b) = false) := by show _ = _; rw [h.out, Bool.and_false]
theorem and_yes {a b : Bool} (h : Hid (a = true)) (h' : Hid (b = true)) : Hid ((a && b) = true) := by show _ = _; rw [h.out, h'.out]; rfl
theorem fitB_le (xs : List Int) (m : Int) : (fitB xs m).length ≤ xs.length := by
  unfold fitB
  split
  · rw [List.length_drop]; omega
  · exact Nat.le_refl _

/-! ### another limit -/
def wmB (xs : List Int) (m q : Int) : Bool := validD xs m && limB q
theorem wm_le (xs : List Int) (m q : Int) : (ifN (wmB xs m q) (fitB xs q)).length ≤ 10000000 := ifN_le fun h => by
  unfold wmB at h
  rw [Bool.and_eq_true] at h
  have h1 := validD_len h.1
  have h2 := fitB_le xs q
  omega

set_option maxHeartbeats 1600000 in
set_option maxRecDepth 100000 in
theorem sWithMost_any (v : Value) (xs : List Int) (m q : Int) (w : World) (h : Nums w v xs) :
    Calls Try.prog 43 #[.agg #[v, .int .i64 m], .int .i64 q] w (NewD (ifN (wmB xs m q) (fitB xs q)) (ifI (wmB xs m q) q) (wmB xs m q) w) := by
  have HX := Lib.hid h
  obtain ⟨ao, cap, rfl, _, _⟩ := h.slice
  clear h
  go_enter Try.func43, Try.ntmps43
  have D := DFrame.new w (.slice ao xs.length cap) m
  have c0 := D.c0
  have c1 := D.c1
  cases hv : validD xs m
  all_goals
    have HV := Lib.hid hv
    clear hv
    go_wp2_with fail
    refine (svD_v _ (D.nums HX.out) HV.out).mono ?_
    rintro e w1 ⟨rfl, hb⟩
    have D1 := D.step hb
    clear hb c0 c1
    have c0 := D1.c0
    have r0 := D1.r0
    have r1 := D1.r1
    have f0 := D1.free 0
    have f1 := D1.free 1
  · go_wp2
    exact bodyPost_ret (v := okD (.slice none 0 0) 0 false) (by simp [okD, results, Try.results43, go_sem, r0, r1]) rfl (newD_no (and_no1 HV) (D1.done _ _))
  · have hl := validD_len HV.out
    cases hm : limB q
    all_goals
      have HM := Lib.hid hm
      go_wp2_with fail
      refine (lim_v _ HM.out).mono ?_
      rintro e w2 ⟨rfl, rfl⟩
    · clear hm
      go_wp2
      exact bodyPost_ret (v := okD (.slice none 0 0) 0 false) (by simp [okD, results, Try.results43, go_sem, r0, r1]) rfl (newD_no (and_no2 HM) (D1.done _ _))
    · have hq := limB_iff.1 hm
      clear hm
      go_wp2_with fail
      refine (fitBack_any _ xs q _ (D1.nums HX.out) (by omega) hq.1 hq.2).mono ?_
      rintro e w2 ⟨v', rfl, ho, hb⟩
      have D2 := D1.step hb
      obtain ⟨xo, xcap, rfl, _, _⟩ := ho.nums.slice
      have HO := Lib.hid (ho.own)
      have hsz := D1.size
      clear ho hb c0 r0 r1 f0 f1
      have r0 := D2.r0
      have r1 := D2.r1
      have f0 := D2.free 0
      have f1 := D2.free 1
      go_wp2
      exact bodyPost_ret (v := okD (.slice xo (fitB xs q).length xcap) q true) (by simp [okD, results, Try.results43, go_sem, r0, r1]) rfl (newD_yes (and_yes HV HM) (D2.own HO.out hsz _ _) (D2.done _ _))

set_option maxHeartbeats 1600000 in
set_option maxRecDepth 100000 in
theorem WithMost_any (v : Value) (xs : List Int) (m q : Int) (w : World) (h : Nums w v xs) :
    Calls Try.prog 42 #[.agg #[v, .int .i64 m], .int .i64 q] w (NewD (ifN (wmB xs m q) (fitB xs q)) (ifI (wmB xs m q) q) (wmB xs m q) w) := by
  have HX := Lib.hid h
  obtain ⟨ao, cap, rfl, _, _⟩ := h.slice
  clear h
  go_enter Try.func42, Try.ntmps42
  have D := DFrame.new w (.slice ao xs.length cap) m
  have c0 := D.c0
  have c1 := D.c1
  cases hv : validD xs m
  all_goals
    have HV := Lib.hid hv
    clear hv
    go_wp2_with fail
    refine (VD_v _ (D.nums HX.out) HV.out).mono ?_
    rintro e w1 ⟨rfl, hb⟩
    have D1 := D.step hb
    clear hb c0 c1
    have c0 := D1.c0
    have r0 := D1.r0
    have r1 := D1.r1
    have f0 := D1.free 0
    have f1 := D1.free 1
  · go_wp2
    exact bodyPost_ret (v := okD (.slice none 0 0) 0 false) (by simp [okD, results, Try.results42, go_sem, r0, r1]) rfl (newD_no (and_no1 HV) (D1.done _ _))
  · have hl := validD_len HV.out
    cases hm : limB q
    all_goals
      have HM := Lib.hid hm
      go_wp2_with fail
      refine (isLimit_v _ HM.out).mono ?_
      rintro e w2 ⟨rfl, rfl⟩
    · clear hm
      go_wp2
      exact bodyPost_ret (v := okD (.slice none 0 0) 0 false) (by simp [okD, results, Try.results42, go_sem, r0, r1]) rfl (newD_no (and_no2 HM) (D1.done _ _))
    · have hq := limB_iff.1 hm
      clear hm
      have hsz := D1.size
      go_wp2_with fail
      refine (rowOf_any _ xs _ (D1.nums HX.out) (by omega)).mono ?_
      rintro e w2 ⟨rfl, hr, hb⟩
      have HR := Lib.hid hr
      have D2 := D1.step hb
      clear hr hb c0 r0 r1 f0 f1
      go_wp2_with fail
      refine (keepLast_any q _ HR.out (by omega) (by omega) hq.1 hq.2).mono ?_
      rintro e w3 ⟨rfl, hr, hb⟩
      have HR3 := Lib.hid hr
      have D3 := D2.past hb hsz
      clear hr hb
      have hq1 := hq.1
      have hkl : keepL 10 (10 + xs.length) q ≤ 10 + xs.length := by unfold keepL; split <;> omega
      have HK := Lib.hid hkl
      clear hkl
      go_wp2_with fail
      refine (deque_any q _ HR3.out (okN_new HX.out.ok) HK.out (by omega)).mono ?_
      rw [items_last hq1]
      rintro e w4 ⟨v', rfl, ho, hb⟩
      have hsz3 := D3.size
      have D4 := D3.step hb
      obtain ⟨xo, xcap, rfl, _, _⟩ := ho.nums.slice
      have HO := Lib.hid ho
      clear ho hb
      have r0 := D4.r0
      have r1 := D4.r1
      have f0 := D4.free 0
      have f1 := D4.free 1
      go_wp2
      exact bodyPost_ret (v := okD (.slice xo (fitB xs q).length xcap) q true) (by simp [okD, results, Try.results42, go_sem, r0, r1]) rfl (newD_yes (and_yes HV HM) (D4.own HO.out hsz3 _ _) (D4.done _ _))
end Go.Proofs.Ytfooiijfminlnaa
