/-
  A number popped at either end: by the model and by the program.
-/
import Derived.Test.YtfooiijfminlnaaDqP
namespace Go.Proofs.Ytfooiijfminlnaa
open Go.RowKit Go.Deep

def okP (v : Value) (m x : Int) (b : Bool) : Value := .tuple #[.agg #[v, .int .i64 m], .int .i64 x, .bool b]
abbrev NewP (xs : List Int) (m x : Int) (b : Bool) (w : World) (e : Ending) (w' : World) : Prop := NewN (fun v => .tuple #[.agg #[v, .int .i64 m], .int .i64 x, .bool b]) xs w e w'
def poB (xs : List Int) (m : Int) : Bool := validD xs m && decide (0 < xs.length)
def pbL (xs : List Int) : List Int := xs.take (xs.length - 1)
def pbX (xs : List Int) : Int := xs.getD (xs.length - 1) 0
def pfL (xs : List Int) : List Int := xs.drop 1
def pfX (xs : List Int) : Int := xs.getD 0 0
theorem po_le {xs L : List Int} {m : Int} (h : L.length ≤ xs.length) : (ifN (poB xs m) L).length ≤ 10000000 := ifN_le fun hb => by
  unfold poB at hb
  rw [Bool.and_eq_true] at hb
  have := validD_len hb.1
  omega
theorem pb_le (xs : List Int) (m : Int) : (ifN (poB xs m) (pbL xs)).length ≤ 10000000 := po_le (by unfold pbL; rw [List.length_take]; omega)
theorem pf_le (xs : List Int) (m : Int) : (ifN (poB xs m) (pfL xs)).length ≤ 10000000 := po_le (by unfold pfL; rw [List.length_drop]; omega)
theorem po_no {xs L : List Int} {m x : Int} {w w' : World} (h : Hid (poB xs m = false)) (hb : Below w.heap.size w w') : NewP (ifN (poB xs m) L) (ifI (poB xs m) m) (ifI (poB xs m) x) (poB xs m) w (.returned (okP (.slice none 0 0) 0 0 false)) w' := by
  rw [h.out]
  exact ⟨_, rfl, OwnN.none (by omega), hb⟩
theorem po_yes {xs L : List Int} {m x : Int} {v : Value} {w w' : World} (h : Hid (poB xs m = true)) (ho : OwnN w.heap.size w'.heap.size w' v L) (hb : Below w.heap.size w w') : NewP (ifN (poB xs m) L) (ifI (poB xs m) m) (ifI (poB xs m) x) (poB xs m) w (.returned (okP v m x true)) w' := by
  rw [h.out]
  exact ⟨_, rfl, ho, hb⟩
theorem po_true {xs : List Int} {m : Int} (h : Hid (validD xs m = true)) (h0 : 0 < xs.length) : Hid (poB xs m = true) := by show _ = _; unfold poB; rw [h.out, decide_eq_true h0]; rfl
theorem po_false {xs : List Int} {m : Int} (h0 : xs = []) : Hid (poB xs m = false) := by show _ = _; unfold poB; rw [h0]; simp
theorem new_at {xs : List Int} {i : Nat} (h : i < xs.length) (h30 : 10 + i < (newRowN xs).length) : (newRowN xs)[10 + i] = xs[i] := by
  have h2 : (newRowN xs)[10 + i]? = some xs[i] := by
    unfold newRowN
    rw [List.getElem?_append_left (by rw [List.length_append, blk10_length]; omega), List.getElem?_append_right (by rw [blk10_length]; omega), blk10_length, Nat.add_sub_cancel_left, List.getElem?_eq_getElem h]
  exact (List.getElem?_eq_some_iff.1 h2).2

set_option maxHeartbeats 3200000 in
set_option maxRecDepth 100000 in
theorem sPopBack_any (v : Value) (xs : List Int) (m : Int) (w : World) (h : Nums w v xs) :
    Calls Try.prog 25 #[.agg #[v, .int .i64 m]] w (NewP (ifN (poB xs m) (pbL xs)) (ifI (poB xs m) m) (ifI (poB xs m) (pbX xs)) (poB xs m) w) := by
  have HX := Lib.hid h
  have h' := h
  obtain ⟨ao, cap, rfl, hlc, hcm, hok, hcell⟩ := h'
  clear h
  obtain ⟨L, hL⟩ : ∃ L, L = pbL xs := ⟨_, rfl⟩
  obtain ⟨X, hX⟩ : ∃ X, X = pbX xs := ⟨_, rfl⟩
  rw [← hL, ← hX]
  have HXX := Lib.hid hX
  have HLL := Lib.hid hL
  clear hX hL
  go_enter Try.func25, Try.ntmps25
  have D := DFrame.new w (.slice ao xs.length cap) m
  have c0 := D.c0
  have c1 := D.c1
  cases hv : validD xs m
  all_goals
    have HV := Lib.hid hv
    clear hv
    go_wp2_with fail
    refine (svD_v _ (D.nums HX.out) HV.out).mono ?_
    rintro e w2 ⟨rfl, hb⟩
    have D2 := D.step hb
    clear hb c0 c1
    have c0 := D2.c0
    have c1 := D2.c1
    have r0 := D2.r0
    have r1 := D2.r1
    have f0 := D2.free 0
    have f1 := D2.free 1
  · go_wp2
    exact bodyPost_ret (v := okP (.slice none 0 0) 0 0 false) (by simp [okP, results, Try.results25, go_sem, r0, r1]) rfl (po_no (and_no1 HV) (D2.done _ _))
  · have hl := validD_len HV.out
    have hsz := D2.size
    by_cases h0 : 0 < xs.length
    · clear r0 r1 f0 f1
      have HB := po_true HV h0
      obtain ⟨i, hi⟩ : ∃ i : Nat, xs.length = i + 1 := ⟨xs.length - 1, by omega⟩
      have hlt : i < xs.length := by omega
      have hel : xs.length - 1 = i := by omega
      have HXI : Hid (X = xs[i]'hlt) := by show _ = _; rw [HXX.out]; unfold pbX; rw [hel]; simp [hlt]
      have HLI : Hid (L = xs.take i) := by show _ = _; rw [HLL.out]; unfold pbL; rw [hel]
      clear hel
      obtain ⟨b, o, rfl, hb, h1⟩ := hcell i hlt
      have c2 : w2.cell? ⟨b, o + i, none⟩ = some (.int .i64 X) := by rw [HXI.out]; exact (D2.below.cell (p := ⟨b, _, none⟩) hb).trans h1
      have HLEN : Hid (L.length = i) := by show _ = _; rw [HLI.out, List.length_take]; omega
      have DD : DFrame w w2.drew (.slice (some ⟨b, o, none⟩) xs.length cap) m := ⟨D2.arg, D2.res, D2.below.drew⟩
      have HD : Hid (Nums w (.slice (some ⟨b, o, none⟩) i cap) L) := by show Nums _ _ _; rw [HLI.out]; exact HX.out.takeA (by omega)
      have hi1 : (xs.length : Int) - 1 = (i : Int) := by omega
      have hi2 : (i : Int) < (xs.length : Int) := by omega
      have hi3 : i < xs.length := by omega
      have hi4 : i ≤ cap := by omega
      have hne : ¬ xs.length = 0 := by omega
      have HI := Lib.hid hi
      clear hi h1
      go_wp2_with fail
      go_region_law (go_simp; go_at_call 63; refine (copyInts_any _ L _ (DD.nums HD.out) (by have := HLEN.out; omega)).mono ?_; rintro e w3 ⟨v3, rfl, ho3, hb3⟩; have D4 := DD.step hb3; have k0 := D4.c0; have k1 := D4.c1; have k2 := (hb3.cell (p := ⟨b, o + i, none⟩) (Nat.lt_of_lt_of_le hb D2.below.size)).trans c2; obtain ⟨xo, xcap, rfl, _, _⟩ := ho3.nums.slice; have HO := Lib.hid ho3.own; have r0 := D4.r0; have r1 := D4.r1; have f0 := D4.free 0; have f1 := D4.free 1)
      all_goals go_wp2
      all_goals exact bodyPost_ret (v := okP (.slice xo L.length xcap) m X true) (by simp [okP, results, Try.results25, go_sem, r0, r1]) rfl (po_yes HB (D4.own HO.out hsz _ _) (D4.done _ _))
    · have hx0 : xs = [] := List.eq_nil_of_length_eq_zero (by omega)
      have HB := po_false (m := m) hx0
      subst hx0
      go_wp2
      exact bodyPost_ret (v := okP (.slice none 0 0) 0 0 false) (by simp [okP, results, Try.results25, go_sem, r0, r1]) rfl (po_no HB (D2.done _ _))

set_option maxHeartbeats 3200000 in
set_option maxRecDepth 100000 in
theorem PopBack_any (v : Value) (xs : List Int) (m : Int) (w : World) (h : Nums w v xs) :
    Calls Try.prog 24 #[.agg #[v, .int .i64 m]] w (NewP (ifN (poB xs m) (pbL xs)) (ifI (poB xs m) m) (ifI (poB xs m) (pbX xs)) (poB xs m) w) := by
  have HX := Lib.hid h
  have h' := h
  obtain ⟨ao, cap, rfl, hlc, hcm, hok, hcell⟩ := h'
  clear h
  obtain ⟨L, hL⟩ : ∃ L, L = pbL xs := ⟨_, rfl⟩
  obtain ⟨X, hX⟩ : ∃ X, X = pbX xs := ⟨_, rfl⟩
  rw [← hL, ← hX]
  have HXX := Lib.hid hX
  have HLL := Lib.hid hL
  clear hX hL
  go_enter Try.func24, Try.ntmps24
  have D := DFrame.new w (.slice ao xs.length cap) m
  have c0 := D.c0
  have c1 := D.c1
  cases hv : validD xs m
  all_goals
    have HV := Lib.hid hv
    clear hv
    go_wp2_with fail
    refine (VD_v _ (D.nums HX.out) HV.out).mono ?_
    rintro e w2 ⟨rfl, hb⟩
    have D2 := D.step hb
    clear hb c0 c1
    have c0 := D2.c0
    have c1 := D2.c1
    have r0 := D2.r0
    have r1 := D2.r1
    have f0 := D2.free 0
    have f1 := D2.free 1
  · go_wp2
    exact bodyPost_ret (v := okP (.slice none 0 0) 0 0 false) (by simp [okP, results, Try.results24, go_sem, r0, r1]) rfl (po_no (and_no1 HV) (D2.done _ _))
  · have hl := validD_len HV.out
    have hsz := D2.size
    by_cases h0 : 0 < xs.length
    · clear r0 r1 f0 f1
      have HB := po_true HV h0
      go_wp2_with fail
      refine (rowOf_any _ xs _ (D2.nums HX.out) (by omega)).mono ?_
      rintro e w3 ⟨rfl, hr, hb⟩
      have D3 := D2.step hb
      obtain ⟨i, hi⟩ : ∃ i : Nat, xs.length = i + 1 := ⟨xs.length - 1, by omega⟩
      obtain ⟨q, hq⟩ : ∃ q, q = 10 + i := ⟨_, rfl⟩
      have hlt : i < xs.length := by omega
      have hel : xs.length - 1 = i := by omega
      have HXI : Hid (X = xs[i]'hlt) := by show _ = _; rw [HXX.out]; unfold pbX; rw [hel]; simp [hlt]
      have HLI : Hid (L = xs.take i) := by show _ = _; rw [HLL.out]; unfold pbL; rw [hel]
      clear hel
      rw [show 10 + xs.length = q + 1 by omega] at hr
      have HR3 := Lib.hid hr
      have hq30 : q < 30 := by omega
      have hsz3 := D3.size
      clear hr hb c0 c1
      have c31 := HR3.out.end_
      have f31 := HR3.out.free 31
      have hne : ¬ xs.length = 0 := by omega
      have HQ := Lib.hid hq
      have HI := Lib.hid hi
      clear hq hi
      go_wp2_with fail
      have HR4 : Hid (RowD ((w3.setCell ⟨w2.heap.size, 31, none⟩ (.int .i64 (q : Int))).drew) w2.heap.size (newRowN xs) 10 q) := HR3.out.setEnd q
      have DD : DFrame w ((w3.setCell ⟨w2.heap.size, 31, none⟩ (.int .i64 (q : Int))).drew) (.slice ao xs.length cap) m := D3.past ((((Below.refl w2.heap.size w3).setCell (Nat.le_refl _) _)).drew) hsz
      have HC : Hid ((newRowN xs)[q]'(by rw [HR4.out.1]; exact hq30) = X) := by
        show _ = _
        rw [HXI.out]
        have := new_at (xs := xs) (i := i) (by have := HI.out; omega) (by rw [HR4.out.1]; have := HQ.out; omega)
        simp only [HQ.out]
        exact this
      have hit := items_new (zs := xs) (a := 0) (b := i) (by have := HI.out; omega)
      rw [List.drop_zero, Nat.add_zero, ← HQ.out, ← HLI.out] at hit
      have hp := deque_any m _ HR4.out (okN_new hok) (by have := HQ.out; omega) (by omega)
      rw [hit] at hp
      have HP := Lib.hid hp
      have kq : (w3.setCell ⟨w2.heap.size, 31, none⟩ (.int .i64 (q : Int))).cell? ⟨w2.heap.size, 31, none⟩ = _ := HR4.out.end_
      have kv : (w3.setCell ⟨w2.heap.size, 31, none⟩ (.int .i64 (q : Int))).cell? ⟨w2.heap.size, q, none⟩ = _ := HR4.out.cell hq30
      rw [HC.out] at kv
      have km : (w3.setCell ⟨w2.heap.size, 31, none⟩ (.int .i64 (q : Int))).cell? ⟨w.heap.size, 1, none⟩ = _ := DD.c1
      have hszd := DD.size
      clear c31 f31 hit hp
      go_region_with (first
        | (go_at_call 55; refine HP.out.mono ?_; rintro r w4 ⟨v4, rfl, ho, hb4⟩; have D4 := DD.step hb4; obtain ⟨xo, xcap, rfl, _, _⟩ := ho.nums.slice; have HO := Lib.hid ho; have HR5 := Lib.hid (HR4.out.below hb4 HR4.out.lt); have r0 := D4.r0; have r1 := D4.r1; have f0 := D4.free 0; have f1 := D4.free 1; have kk := HR5.out.end_; have kc := HR5.out.cell hq30; rw [HC.out] at kc; clear ho hb4))
      all_goals go_wp2
      all_goals exact bodyPost_ret (v := okP (.slice xo L.length xcap) m X true) (by simp [okP, results, Try.results24, go_sem, r0, r1]) rfl (po_yes HB (D4.own HO.out hszd _ _) (D4.done _ _))
    · have hx0 : xs = [] := List.eq_nil_of_length_eq_zero (by omega)
      have HB := po_false (m := m) hx0
      subst hx0
      go_wp2
      exact bodyPost_ret (v := okP (.slice none 0 0) 0 0 false) (by simp [okP, results, Try.results24, go_sem, r0, r1]) rfl (po_no HB (D2.done _ _))
end Go.Proofs.Ytfooiijfminlnaa
