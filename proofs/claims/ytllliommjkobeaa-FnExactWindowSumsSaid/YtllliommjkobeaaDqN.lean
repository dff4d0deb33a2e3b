/-
  Sums of windows, by the model and by the program.
-/
import Derived.Test.YtllliommjkobeaaDqS2
namespace Go.Proofs.Ytllliommjkobeaa
open Go.RowKit Go.Deep

def winS (xs : List Int) (p r : Nat) : Int := ((xs.drop p).take r).sum
def winL (xs : List Int) (k n : Nat) : List Int := (List.range n).map fun p => winS xs p k
theorem winS_zero (xs : List Int) (p : Nat) : winS xs p 0 = 0 := by simp [winS]
theorem winS_succ {xs : List Int} {p r : Nat} (h : p + r < xs.length) : winS xs p (r + 1) = winS xs p r + xs[p + r] := by
  unfold winS
  rw [List.take_succ_eq_append_getElem (by rw [List.length_drop]; omega), List.sum_append, List.getElem_drop]
  simp
theorem winS_bd {xs : List Int} (h : allN xs = true) (p : Nat) : ∀ r, p + r ≤ xs.length → -9999 * (r : Int) ≤ winS xs p r ∧ winS xs p r ≤ 9999 * (r : Int) := by
  intro r
  induction r with
  | zero => intro _; rw [winS_zero]; omega
  | succ r ih =>
    intro hr
    have h1 := ih (by omega)
    have h2 := allN_iff.1 h xs[p + r] (List.getElem_mem (by omega))
    rw [winS_succ (by omega)]
    omega
theorem winL_succ (xs : List Int) (k n : Nat) : winL xs k (n + 1) = winL xs k n ++ [winS xs n k] := by
  unfold winL
  rw [List.range_succ, List.map_append]
  rfl
theorem winL_length (xs : List Int) (k n : Nat) : (winL xs k n).length = n := by simp [winL]
theorem winL_ok {xs : List Int} (h : allN xs = true) {k n : Nat} (hk : k ≤ 10) (hn : n = 0 ∨ n + k ≤ xs.length + 1) : okN (winL xs k n) := by
  intro x hx
  obtain ⟨p, hp, rfl⟩ := List.mem_map.1 hx
  have hp2 := List.mem_range.1 hp
  have := winS_bd h p k (by omega)
  omega
def wsB (xs : List Int) (m k : Int) : Bool := validD xs m && (decide (1 ≤ k) && decide (k ≤ 10))
def wsL (xs : List Int) (k : Int) : List Int := winL xs k.toNat (xs.length + 1 - k.toNat)
theorem ws_le (xs : List Int) (m k : Int) : (ifN (wsB xs m k) (wsL xs k)).length ≤ 10000000 := by
  unfold ifN
  split
  · rename_i h
    unfold wsB at h
    rw [Bool.and_eq_true, Bool.and_eq_true, decide_eq_true_eq] at h
    have := validD_len h.1
    unfold wsL
    rw [winL_length]
    omega
  · simp
theorem ws_no {xs : List Int} {m k : Int} {w w' : World} (h : Hid (wsB xs m k = false)) (hb : Below w.heap.size w w') : NewN (fun v => v) (ifN (wsB xs m k) (wsL xs k)) w (.returned (.slice none 0 0)) w' := by
  rw [h.out]
  exact ⟨_, rfl, OwnN.none (by omega), hb⟩
theorem ws_yes {xs : List Int} {m k : Int} {v : Value} {w w' : World} (h : Hid (wsB xs m k = true)) (ho : OwnN w.heap.size w'.heap.size w' v (wsL xs k)) (hb : Below w.heap.size w w') : NewN (fun v => v) (ifN (wsB xs m k) (wsL xs k)) w (.returned v) w' := by
  rw [h.out]
  exact ⟨_, rfl, ho, hb⟩

set_option maxHeartbeats 1600000 in
set_option maxRecDepth 100000 in
theorem sWindowSums_any (v : Value) (xs : List Int) (m k : Int) (w : World) (h : Nums w v xs) (hk : -9223372036854775808 ≤ k ∧ k ≤ 9223372036854775807) :
    Calls Try.prog 72 #[.agg #[v, .int .i64 m], .int .i64 k] w (NewN (fun v => v) (ifN (wsB xs m k) (wsL xs k)) w) := by
  have h' := h
  obtain ⟨ao, cap, rfl, hlc, hcm, hok, hcell⟩ := h'
  obtain ⟨hk0, hk1⟩ := hk
  go_enter Try.func72, Try.ntmps72
  have HB0 : Hid (Below w.heap.size w (w.alloc (.cells #[.slice ao xs.length cap, .int .i64 m] 27))) := (Below.refl _ _).alloc (Nat.le_refl _) _
  have G0 := heap_new w (.cells #[.slice ao xs.length cap, .int .i64 m] 27)
  have g0 := two_cell0 G0
  have g1 := two_cell1 G0
  cases hv : validD xs m
  all_goals
    have HV := Lib.hid hv
    clear hv
    go_wp2_with fail
    refine (svD_v _ (h.mono HB0.out (Nat.le_refl _)) HV.out).mono ?_
    rintro e w1 ⟨rfl, hb⟩
    have HB : Hid (Below w.heap.size w w1) := HB0.out.trans (hb.mono (by simp))
    have G1 := two_below G0 hb (by simp)
    have q0 := two_cell0 G1
    clear g0 g1 G0 hb
  · go_wp2
    go_ret
    exact ws_no (by show _ = _; unfold wsB; rw [HV.out]; rfl) HB.out
  · have hl := validD_len HV.out
    have HALL := Lib.hid (validD_all HV.out)
    have hs1 := HB.out.size
    have hlt1 : w.heap.size < w1.heap.size := lt_of_block G1
    clear h
    by_cases hkk : 1 ≤ k ∧ k ≤ 10
    · obtain ⟨n, rfl⟩ : ∃ n : Nat, k = n := ⟨k.toNat, by omega⟩
      have HR : Hid ((decide (1 ≤ (n : Int)) && decide ((n : Int) ≤ 10)) = true) := by show _ = _; simpa using hkk
      have HW : Hid (wsB xs m n = true) := by show _ = _; unfold wsB; rw [HV.out, HR.out]; rfl
      obtain ⟨hn1, hn2⟩ := hkk
      have hown0 := World.ownsRow_lit (base := w1.heap.size) (e := 3) (size := 1) w1 #[] 0 (Nat.le_refl _) (by unfold maxLen; omega) rfl
      go_wp2_with fail
      refine (rgN_v _ HR.out).mono ?_
      rintro e w2 ⟨rfl, rfl⟩
      go_wp2
      go_loopw [5, 6] (fun x i wr => ∃ p : Nat, (p = 0 ∨ p + n ≤ xs.length + 1) ∧ i = .int .i64 p ∧ wr.ownsRow w1.heap.size 3 1 x p (cellsN (winL xs n p)) ∧ Below w1.heap.size w1 wr) (fun _ i _ => (xs.length + 1 - (intOf i)).toNat)
      case atStart => exact ⟨0, .inl rfl, rfl, hown0, (Below.refl _ _).alloc (Nat.le_refl _) _⟩
      case round =>
        obtain ⟨p, hp, rfl, hrow, hbl⟩ := hrel
        have q0r := (hbl.cell (p := ⟨w.heap.size, 0, none⟩) hlt1).trans q0
        have HBR := Lib.hid (HB.out.trans (hbl.mono hs1))
        by_cases hlt : p + n ≤ xs.length
        · have hltI : (p : Int) + (n : Int) ≤ (xs.length : Int) := by omega
          go_wp2
          go_loopw [7, 8] (fun s j wq => ∃ (r : Nat) (S : Int), r ≤ n ∧ s = .int .i64 S ∧ j = .int .i64 ((p : Int) + r) ∧ Hid (S = winS xs p r) ∧ -9999 * (r : Int) ≤ S ∧ S ≤ 9999 * (r : Int) ∧ wq = wr) (fun _ j _ => ((p : Int) + n - intOf j).toNat)
          case atStart => exact ⟨0, 0, Nat.zero_le _, rfl, by go_num, (winS_zero xs p).symm, by omega, by omega, rfl⟩
          case round =>
            obtain ⟨r, S, hr, rfl, rfl, HS, hS0, hS1, rfl⟩ := hrel
            by_cases hrn : r < n
            · have hpr : p + r < xs.length := by omega
              obtain ⟨b, o, rfl, hb, h1⟩ := hcell (p + r) hpr
              have c1 := (HBR.out.cell (p := ⟨b, _, none⟩) hb).trans h1
              have hx := allN_iff.1 HALL.out xs[p + r] (List.getElem_mem hpr)
              obtain ⟨hx0, hx1⟩ := hx
              have HS2 := Lib.hid (winS_succ hpr)
              obtain ⟨X, hX⟩ : ∃ X, X = xs[p + r] := ⟨_, rfl⟩
              rw [← hX] at c1 hx0 hx1
              have HX := Lib.hid hX
              obtain ⟨J, hJ⟩ : ∃ J, J = p + r := ⟨_, rfl⟩
              have eJ : (p : Int) + (r : Int) = (J : Int) := by omega
              rw [← hJ] at c1
              rw [eJ]
              have hJ1 : (J : Int) < (p : Int) + (n : Int) := by omega
              have hJ2 : J < xs.length := by omega
              have HJ := Lib.hid hJ
              have HEJ := Lib.hid eJ
              clear hX hJ eJ h1
              go_wp2
              go_roundw
              case rel => exact ⟨r + 1, S + X, by omega, by go_num, by have := HEJ.out; go_num, by show _ = _; rw [HS2.out, HX.out, HS.out], by omega, by omega, trivial⟩
              case measure => have := HEJ.out; simp [intOf]; omega
            · obtain rfl : r = n := by omega
              obtain ⟨xo, xcap, rfl, _, _⟩ := own_slice hrow
              have hs' : -9223372036854775808 ≤ S ∧ S ≤ 9223372036854775807 := by omega
              go_wp2_with (at_builtin; refine wpl_append_nums _ rfl _ _ rfl w1.heap.size (.slice xo p xcap) p (cellsN (winL xs r p)) rfl (hrow.alloc _) (.slice (some ⟨_, 0, none⟩) 1 1) [S] rfl (Nums_one _ _ _ hs') (by omega) (by simp) (by have := hbl.size; simp; omega) ?_; intro v' w2 hown2 hgrow2)
              have hrow3 : w2.ownsRow w1.heap.size 3 1 v' (p + 1) (cellsN (winL xs r (p + 1))) := by
                rw [winL_succ, cellsN_append, ← HS.out]; exact hown2
              have hb3 := (hbl.alloc hbl.size _).grown hgrow2 (by have := hbl.size; simp; omega) (fun j hj => (hrow.lt j hj).1)
              clear hown2 hrow hgrow2
              go_roundw
              case rel => exact ⟨p + 1, .inr (by omega), by go_num, hrow3, hb3⟩
              case measure => simp [intOf]; omega
        · have hltI : ¬ ((p : Int) + (n : Int) ≤ (xs.length : Int)) := by omega
          have hpn : xs.length + 1 - n = p := by omega
          go_wp2
          go_ret
          refine ws_yes HW ?_ HBR.out
          unfold wsL
          rw [Int.toNat_natCast, hpn]
          exact (OwnN.of hrow (winL_ok HALL.out (by omega) hp)).wide hs1 (Nat.le_refl _)
    · have HR : Hid ((decide (1 ≤ k) && decide (k ≤ 10)) = false) := by
        show _ = _
        rw [Bool.eq_false_iff]
        simpa using hkk
      go_wp2_with fail
      refine (rgN_v _ HR.out).mono ?_
      rintro e w2 ⟨rfl, rfl⟩
      go_wp2
      go_ret
      exact ws_no (by show _ = _; unfold wsB; rw [HR.out, Bool.and_false]) HB.out

set_option maxHeartbeats 1600000 in
set_option maxRecDepth 100000 in
theorem WindowSums_any (v : Value) (xs : List Int) (m k : Int) (w : World) (h : Nums w v xs) (hk : -9223372036854775808 ≤ k ∧ k ≤ 9223372036854775807) :
    Calls Try.prog 73 #[.agg #[v, .int .i64 m], .int .i64 k] w (NewN (fun v => v) (ifN (wsB xs m k) (wsL xs k)) w) := by
  have h' := h
  obtain ⟨ao, cap, rfl, hlc, hcm, hok, hcell⟩ := h'
  obtain ⟨hk0, hk1⟩ := hk
  go_enter Try.func73, Try.ntmps73
  have HB0 : Hid (Below w.heap.size w (w.alloc (.cells #[.slice ao xs.length cap, .int .i64 m] 27))) := (Below.refl _ _).alloc (Nat.le_refl _) _
  have G0 := heap_new w (.cells #[.slice ao xs.length cap, .int .i64 m] 27)
  have g0 := two_cell0 G0
  have g1 := two_cell1 G0
  cases hv : validD xs m
  all_goals
    have HV := Lib.hid hv
    clear hv
    go_wp2_with fail
    refine (VD_v _ (h.mono HB0.out (Nat.le_refl _)) HV.out).mono ?_
    rintro e w1 ⟨rfl, hb⟩
    have HB : Hid (Below w.heap.size w w1) := HB0.out.trans (hb.mono (by simp))
    have G1 := two_below G0 hb (by simp)
    have q0 := two_cell0 G1
    clear g0 g1 G0 hb
  · go_wp2
    go_ret
    exact ws_no (by show _ = _; unfold wsB; rw [HV.out]; rfl) HB.out
  · have hl := validD_len HV.out
    have HALL := Lib.hid (validD_all HV.out)
    have hs1 := HB.out.size
    have hlt1 : w.heap.size < w1.heap.size := lt_of_block G1
    clear h
    by_cases hkk : 1 ≤ k ∧ k ≤ 10
    · obtain ⟨n, rfl⟩ : ∃ n : Nat, k = n := ⟨k.toNat, by omega⟩
      have HR : Hid ((decide (1 ≤ (n : Int)) && decide ((n : Int) ≤ 10)) = true) := by show _ = _; simpa using hkk
      have HW : Hid (wsB xs m n = true) := by show _ = _; unfold wsB; rw [HV.out, HR.out]; rfl
      obtain ⟨hn1, hn2⟩ := hkk
      have hown0 := World.ownsRow_nil w1 w1.heap.size 3 1
      go_wp2
      go_loopw [5, 6] (fun x i wr => ∃ p : Nat, (p = 0 ∨ p + n ≤ xs.length + 1) ∧ i = .int .i64 ((p + n : Nat) : Int) ∧ wr.ownsRow w1.heap.size 3 1 x p (cellsN (winL xs n p)) ∧ Below w1.heap.size w1 wr) (fun _ i _ => (xs.length + 1 - (intOf i)).toNat)
      case atStart => exact ⟨0, .inl rfl, by go_num, hown0, Below.refl _ _⟩
      case round =>
        obtain ⟨p, hp, rfl, hrow, hbl⟩ := hrel
        have q0r := (hbl.cell (p := ⟨w.heap.size, 0, none⟩) hlt1).trans q0
        have HBR := Lib.hid (HB.out.trans (hbl.mono hs1))
        obtain ⟨E, hE⟩ : ∃ E, E = p + n := ⟨_, rfl⟩
        rw [← hE]
        by_cases hlt : E ≤ xs.length
        · have hltI : (E : Int) ≤ (xs.length : Int) := by omega
          have hEn : (E : Int) - (n : Int) = (p : Int) := by omega
          have hpE : p ≤ E := by omega
          have hEc : E ≤ cap := by omega
          have hne : ¬ cap = p := by omega
          have hEp : E - p = n := by omega
          have HE := Lib.hid hE
          clear hE
          obtain ⟨b, o, rfl, hb, _⟩ := hcell p (by omega)
          go_wp2
          go_loopw [7, 37] (fun s j wq => ∃ (r : Nat) (S : Int), r ≤ n ∧ s = .int .i64 S ∧ j = .int .i64 r ∧ Hid (S = winS xs p r) ∧ -9999 * (r : Int) ≤ S ∧ S ≤ 9999 * (r : Int) ∧ wq = wr) (fun _ j _ => n - (intOf j).toNat)
          case atStart => exact ⟨0, 0, Nat.zero_le _, rfl, rfl, (winS_zero xs p).symm, by omega, by omega, rfl⟩
          case round =>
            obtain ⟨r, S, hr, rfl, rfl, HS, hS0, hS1, rfl⟩ := hrel
            by_cases hrn : r < n
            · have hpr : p + r < xs.length := by have := HE.out; omega
              obtain ⟨b', o', e', hb', h1⟩ := hcell (p + r) hpr
              simp only [Option.some.injEq, Addr.mk.injEq] at e'
              obtain ⟨rfl, rfl, _⟩ := e'
              have c1 := (HBR.out.cell (p := ⟨b, _, none⟩) hb').trans h1
              rw [← Nat.add_assoc] at c1
              have hx := allN_iff.1 HALL.out xs[p + r] (List.getElem_mem hpr)
              obtain ⟨hx0, hx1⟩ := hx
              have HS2 := Lib.hid (winS_succ hpr)
              obtain ⟨X, hX⟩ : ∃ X, X = xs[p + r] := ⟨_, rfl⟩
              rw [← hX] at c1 hx0 hx1
              have HX := Lib.hid hX
              clear hX h1
              go_wp2
              go_roundw
              case rel => exact ⟨r + 1, S + X, by omega, by go_num, by go_num, by show _ = _; rw [HS2.out, HX.out, HS.out], by omega, by omega, trivial⟩
              case measure => simp [intOf]; omega
            · obtain rfl : r = n := by omega
              obtain ⟨xo, xcap, rfl, _, _⟩ := own_slice hrow
              have hs' : -9223372036854775808 ≤ S ∧ S ≤ 9223372036854775807 := by omega
              go_wp2_with (at_builtin; refine wpl_append_nums _ rfl _ _ rfl w1.heap.size (.slice xo p xcap) p (cellsN (winL xs r p)) rfl (hrow.alloc _) (.slice (some ⟨_, 0, none⟩) 1 1) [S] rfl (Nums_one _ _ _ hs') (by omega) (by simp) (by have := hbl.size; simp; omega) ?_; intro v' w2 hown2 hgrow2)
              have hrow3 : w2.ownsRow w1.heap.size 3 1 v' (p + 1) (cellsN (winL xs r (p + 1))) := by
                rw [winL_succ, cellsN_append, ← HS.out]; exact hown2
              have hb3 := (hbl.alloc hbl.size _).grown hgrow2 (by have := hbl.size; simp; omega) (fun j hj => (hrow.lt j hj).1)
              clear hown2 hrow hgrow2
              go_roundw
              case rel => exact ⟨p + 1, .inr (by have := HE.out; omega), by have := HE.out; go_num, hrow3, hb3⟩
              case measure => simp [intOf]; omega
        · have hltI : ¬ ((E : Int) ≤ (xs.length : Int)) := by omega
          have hpn : xs.length + 1 - n = p := by omega
          clear hE
          go_wp2
          go_ret
          refine ws_yes HW ?_ HBR.out
          unfold wsL
          rw [Int.toNat_natCast, hpn]
          exact (OwnN.of hrow (winL_ok HALL.out (by omega) hp)).wide hs1 (Nat.le_refl _)
    · have HR : Hid ((decide (1 ≤ k) && decide (k ≤ 10)) = false) := by
        show _ = _
        rw [Bool.eq_false_iff]
        simpa using hkk
      have hk2 : k < 1 ∨ 10 < k := by omega
      rcases hk2 with hk2 | hk2
      all_goals
        go_wp2
        go_ret
        exact ws_no (by show _ = _; unfold wsB; rw [HR.out, Bool.and_false]) HB.out
end Go.Proofs.Ytllliommjkobeaa
