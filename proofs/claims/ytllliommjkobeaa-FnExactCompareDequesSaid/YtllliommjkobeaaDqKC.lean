/-
  Two deques compared: by the model and by the program.
-/
import Derived.Test.YtllliommjkobeaaDqK
import Derived.Test.YtllliommjkobeaaDqP
namespace Go.Proofs.Ytllliommjkobeaa
open Go.RowKit Go.Deep

def cdB (xs ys : List Int) (m q : Int) : Bool := validD xs m && validD ys q
def cdI (xs ys : List Int) (m q : Int) : Int := if cdB xs ys m q = true then lexN xs ys else 0
theorem cd_no {xs ys : List Int} {m q : Int} (h : Hid (cdB xs ys m q = false)) : Ending.returned (.tuple #[.int .i64 0, .bool false]) = .returned (.tuple #[.int .i64 (cdI xs ys m q), .bool (cdB xs ys m q)]) := by
  unfold cdI
  rw [h.out]
  rfl
theorem cd_yes {xs ys : List Int} {m q x : Int} (h : Hid (cdB xs ys m q = true)) (hx : x = lexN xs ys) : Ending.returned (.tuple #[.int .i64 x, .bool true]) = .returned (.tuple #[.int .i64 (cdI xs ys m q), .bool (cdB xs ys m q)]) := by
  unfold cdI
  rw [h.out, hx]
  rfl
/-- Two arguments' boxes. -/
structure DFrame2 (W0 W : World) (v : Value) (m : Int) (u : Value) (q : Int) : Prop where
  arg : W.heap[W0.heap.size]? = some (.cells #[v, .int .i64 m] 27 (0, 0))
  arg2 : W.heap[W0.heap.size + 1]? = some (.cells #[u, .int .i64 q] 27 (0, 0))
  below : Below W0.heap.size W0 W
theorem DFrame2.new (w : World) (v : Value) (m : Int) (u : Value) (q : Int) : DFrame2 w ((w.alloc (.cells #[v, .int .i64 m] 27)).alloc (.cells #[u, .int .i64 q] 27)) v m u q :=
  ⟨heap_old (heap_new w _) _, heap_at _ _ (by simp), ((Below.refl _ _).alloc (Nat.le_refl _) _).alloc (by simp) _⟩
section
variable {W0 W : World} {v u : Value} {m q : Int}
theorem DFrame2.size (D : DFrame2 W0 W v m u q) : W0.heap.size + 2 ≤ W.heap.size := by
  have := (Array.getElem?_eq_some_iff.1 D.arg2).1
  omega
theorem DFrame2.step (D : DFrame2 W0 W v m u q) {W' : World} (hb : Below W.heap.size W W') : DFrame2 W0 W' v m u q := by
  have hs := D.size
  exact ⟨(hb.block _ (by omega)).trans D.arg, (hb.block _ (by omega)).trans D.arg2, D.below.trans (hb.mono (by omega))⟩
theorem DFrame2.nums (D : DFrame2 W0 W v m u q) {z : Value} {xs : List Int} (h : Nums W0 z xs) : Nums W z xs := h.mono D.below (Nat.le_refl _)
end

set_option maxHeartbeats 1600000 in
set_option maxRecDepth 100000 in
theorem CompareDeques_any (v u : Value) (xs ys : List Int) (m q : Int) (w : World) (h : Nums w v xs) (h' : Nums w u ys) :
    Calls Try.prog 71 #[.agg #[v, .int .i64 m], .agg #[u, .int .i64 q]] w (RetN (.tuple #[.int .i64 (cdI xs ys m q), .bool (cdB xs ys m q)]) w) := by
  have HX := Lib.hid h
  have HY := Lib.hid h'
  have g := h
  have g' := h'
  obtain ⟨ao, cap, rfl, hlc, hcm, hok, hcell⟩ := g
  obtain ⟨bo, bap, rfl, hlc', hcm', hok', hcell'⟩ := g'
  clear h h'
  go_enter Try.func71, Try.ntmps71
  have D := DFrame2.new w (.slice ao xs.length cap) m (.slice bo ys.length bap) q
  have c0 := two_cell0 D.arg
  have c1 := two_cell1 D.arg
  have d0 := two_cell0 D.arg2
  have d1 := two_cell1 D.arg2
  cases hv : validD xs m
  all_goals
    have HV := Lib.hid hv
    clear hv
    go_wp2_with fail
    refine (VD_v _ (D.nums HX.out) HV.out).mono ?_
    rintro e w1 ⟨rfl, hb⟩
    have D1 := D.step hb
    clear hb c0 c1 d0 d1
    have d0 := two_cell0 D1.arg2
    have d1 := two_cell1 D1.arg2
  · go_wp2
    go_ret2
    exact ⟨cd_no (and_no1 HV), D1.below⟩
  · cases hm : validD ys q
    all_goals
      have HM := Lib.hid hm
      clear hm
      go_wp2_with fail
      refine (VD_v _ (D1.nums HY.out) HM.out).mono ?_
      rintro e w2 ⟨rfl, hb⟩
      have D2 := D1.step hb
      clear hb d0 d1
    · go_wp2
      go_ret2
      exact ⟨cd_no (and_no2 HM), D2.below⟩
    · have hl := validD_len HV.out
      have hl' := validD_len HM.out
      have HB := and_yes HV HM
      have c0 := two_cell0 D2.arg
      have d0 := two_cell0 D2.arg2
      have DD : DFrame2 w w2.drew (.slice ao xs.length cap) m (.slice bo ys.length bap) q := ⟨D2.arg, D2.arg2, D2.below.drew⟩
      have HXD := Lib.hid (DD.nums HX.out)
      go_wp2_with fail
      go_region_with (first
        | (go_at_call 83; with_reducible refine (rowOf_any _ xs w2.drew HXD.out (by omega)).mono ?_; rintro e w3 ⟨rfl, hr, hb⟩; have HR := Lib.hid hr; have HBL := Lib.hid hb; have D3 := DD.step hb; clear hr hb; have k0 := two_cell0 D3.arg; have k1 := two_cell0 D3.arg2)
        | (go_at_call 83; with_reducible refine (rowOf_any _ ys w3 (D3.nums HY.out) (by omega)).mono ?_; rintro e w4 ⟨rfl, hr, hb⟩; have HR4 := Lib.hid (HR.out.below hb HR.out.lt); have HR5 := Lib.hid hr; have D4 := D3.step hb; clear hr hb)
        | (go_at_call 99; refine (compare_any w4 HR4.out HR5.out).mono ?_; rintro e w5 ⟨rfl, hb⟩; have D5 := D4.step hb; clear hb))
      all_goals go_wp2
      all_goals go_ret2
      all_goals exact ⟨cd_yes HB (dif_new (by omega) (by omega) (validD_all HV.out) (validD_all HM.out)), D5.below⟩

theorem lex_lt {xs ys : List Int} {k : Nat} (h1 : k < xs.length) (h2 : k < ys.length) (h : xs[k] < ys[k]) : lexN (xs.drop k) (ys.drop k) = -1 := by
  rw [List.drop_eq_getElem_cons h1, List.drop_eq_getElem_cons h2]
  simp [lexN, h]
theorem lex_gt {xs ys : List Int} {k : Nat} (h1 : k < xs.length) (h2 : k < ys.length) (h : ys[k] < xs[k]) : lexN (xs.drop k) (ys.drop k) = 1 := by
  rw [List.drop_eq_getElem_cons h1, List.drop_eq_getElem_cons h2]
  simp only [lexN]
  rw [if_neg (by omega), if_pos h]
theorem lex_eq {xs ys : List Int} {k : Nat} (h1 : k < xs.length) (h2 : k < ys.length) (h : xs[k] = ys[k]) : lexN (xs.drop k) (ys.drop k) = lexN (xs.drop (k + 1)) (ys.drop (k + 1)) := by
  rw [List.drop_eq_getElem_cons h1, List.drop_eq_getElem_cons h2]
  simp only [lexN]
  rw [if_neg (by omega), if_neg (by omega)]
theorem lex_gone {xs ys : List Int} (h : ys.length < xs.length) : lexN (xs.drop ys.length) (ys.drop ys.length) = 1 := by
  rw [List.drop_length, List.drop_eq_getElem_cons h]
  rfl
theorem lex_end {xs ys : List Int} (h : xs.length ≤ ys.length) : lexN (xs.drop xs.length) (ys.drop xs.length) = if xs.length = ys.length then 0 else -1 := by
  rw [List.drop_length]
  split
  · rename_i e
    rw [List.drop_of_length_le (by omega)]
    rfl
  · rw [List.drop_eq_getElem_cons (by omega)]
    rfl

set_option maxHeartbeats 1600000 in
set_option maxRecDepth 100000 in
theorem sCompareDeques_any (v u : Value) (xs ys : List Int) (m q : Int) (w : World) (h : Nums w v xs) (h' : Nums w u ys) :
    Calls Try.prog 70 #[.agg #[v, .int .i64 m], .agg #[u, .int .i64 q]] w (RetN (.tuple #[.int .i64 (cdI xs ys m q), .bool (cdB xs ys m q)]) w) := by
  have HX := Lib.hid h
  have HY := Lib.hid h'
  have g := h
  have g' := h'
  obtain ⟨ao, cap, rfl, hlc, hcm, hok, hcell⟩ := g
  obtain ⟨bo, bap, rfl, hlc', hcm', hok', hcell'⟩ := g'
  clear h h'
  go_enter Try.func70, Try.ntmps70
  have D := DFrame2.new w (.slice ao xs.length cap) m (.slice bo ys.length bap) q
  have c0 := two_cell0 D.arg
  have c1 := two_cell1 D.arg
  have d0 := two_cell0 D.arg2
  have d1 := two_cell1 D.arg2
  cases hv : validD xs m
  all_goals
    have HV := Lib.hid hv
    clear hv
    go_wp2_with fail
    refine (svD_v _ (D.nums HX.out) HV.out).mono ?_
    rintro e w1 ⟨rfl, hb⟩
    have D1 := D.step hb
    clear hb c0 c1 d0 d1
    have d0 := two_cell0 D1.arg2
    have d1 := two_cell1 D1.arg2
  · go_wp2
    go_ret2
    exact ⟨cd_no (and_no1 HV), D1.below⟩
  · cases hm : validD ys q
    all_goals
      have HM := Lib.hid hm
      clear hm
      go_wp2_with fail
      refine (svD_v _ (D1.nums HY.out) HM.out).mono ?_
      rintro e w2 ⟨rfl, hb⟩
      have D2 := D1.step hb
      clear hb d0 d1
    · go_wp2
      go_ret2
      exact ⟨cd_no (and_no2 HM), D2.below⟩
    · have hl := validD_len HV.out
      have hl' := validD_len HM.out
      have HB := and_yes HV HM
      have c0 := two_cell0 D2.arg
      have d0 := two_cell0 D2.arg2
      have HB2 : Hid (Below w.heap.size w w2) := D2.below
      go_wp2
      go_loopw [6] (fun i wr => ∃ k : Nat, k ≤ xs.length ∧ k ≤ ys.length ∧ i = .int .i64 k ∧ Hid (lexN xs ys = lexN (xs.drop k) (ys.drop k)) ∧ Hid (DFrame2 w wr (.slice ao xs.length cap) m (.slice bo ys.length bap) q)) (fun i _ => xs.length - (intOf i).toNat)
      case atStart => exact ⟨0, Nat.zero_le _, Nat.zero_le _, rfl, rfl, D2⟩
      case round =>
        obtain ⟨k, hk, hk', rfl, HQ, HD⟩ := hrel
        have e0 := two_cell0 HD.out.arg
        have e1 := two_cell0 HD.out.arg2
        by_cases hlt : k < xs.length
        · by_cases hlt' : k < ys.length
          · obtain ⟨b, o, rfl, hb, h1⟩ := hcell k hlt
            obtain ⟨b', o', rfl, hb', h1'⟩ := hcell' k hlt'
            have x1 := (HD.out.below.cell (p := ⟨b, _, none⟩) hb).trans h1
            have x2 := (HD.out.below.cell (p := ⟨b', _, none⟩) hb').trans h1'
            rcases Int.lt_trichotomy xs[k] ys[k] with hx | hx | hx
            · have HL := Lib.hid (lex_lt hlt hlt' hx)
              go_wp2_with fail
              go_quiet (fail)
              go_wp2
              go_ret2
              exact ⟨cd_yes HB (by rw [HQ.out, HL.out]), belowN HD.out.below _⟩
            · have HL := Lib.hid (lex_eq hlt hlt' hx)
              have hx1 : ¬ xs[k] < ys[k] := by omega
              have hx2 : ¬ ys[k] < xs[k] := by omega
              clear hx
              go_wp2_with fail
              go_quiet (fail)
              go_wp2_with fail
              go_quiet (fail)
              go_wp2
              go_roundw
              case rel => exact ⟨k + 1, by omega, by omega, by go_num, by show _ = _; rw [HQ.out, HL.out], ⟨HD.out.arg, HD.out.arg2, belowN HD.out.below _⟩⟩
              case measure => simp [intOf]; omega
            · have HL := Lib.hid (lex_gt hlt hlt' hx)
              have hx1 : ¬ xs[k] < ys[k] := by omega
              go_wp2_with fail
              go_quiet (fail)
              go_wp2_with fail
              go_quiet (fail)
              go_wp2
              go_ret2
              exact ⟨cd_yes HB (by rw [HQ.out, HL.out]), belowN (belowN HD.out.below _) _⟩
          · obtain rfl : k = ys.length := by omega
            have HL := Lib.hid (lex_gone hlt)
            have hgt : (ys.length : Int) < (xs.length : Int) := by omega
            go_wp2
            all_goals go_ret2
            all_goals exact ⟨cd_yes HB (by rw [HQ.out, HL.out] <;> omega), HD.out.below⟩
        · obtain rfl : k = xs.length := by omega
          have HL := Lib.hid (lex_end hk')
          go_wp2
          all_goals go_ret2
          all_goals exact ⟨cd_yes HB (by rw [HQ.out, HL.out]; split <;> omega), HD.out.below⟩
end Go.Proofs.Ytllliommjkobeaa
