/-
  How many maps have a key; the number of the first one: by the model and by the program.
-/
import Derived.Test.YtojepjpmegbdmaaWhere
import Derived.Test.YtojepjpmegbdmaaCountS
import Derived.Deep.RegionHeld3
namespace Go.Proofs.Ytojepjpmegbdmaa
open Go.RowKit

def ofC (ls : List (List Itm)) (s : ByteArray) : Int := if validC ls = true then oftP ls s else -1
theorem ofC_no {ls : List (List Itm)} {s : ByteArray} (h : validC ls = false) : ofC ls s = -1 := by unfold ofC; rw [h]; rfl
theorem ofC_yes {ls : List (List Itm)} {s : ByteArray} (h : validC ls = true) : ofC ls s = oftP ls s := by unfold ofC; rw [h]; rfl
theorem oftP_snoc (ls : List (List Itm)) (x : List Itm) (s : ByteArray) : oftP (ls ++ [x]) s = if hasI x s = true then oftP ls s + 1 else oftP ls s := by
  induction ls with
  | nil => rfl
  | cons l r ih =>
    rw [List.cons_append, oftP_cons, oftP_cons, ih]
    split <;> split <;> rfl
theorem oftP_step {ls : List (List Itm)} {s : ByteArray} {k : Nat} (h : k < ls.length) {b : Bool} (hh : hasI ls[k] s = b) : oftP (ls.take (k + 1)) s = if b = true then oftP (ls.take k) s + 1 else oftP (ls.take k) s := by
  rw [List.take_succ_eq_append_getElem h, oftP_snoc, hh]

set_option maxHeartbeats 1600000 in
set_option maxRecDepth 100000 in
theorem sHowOften_any (v : Value) (ls : List (List Itm)) (s : ByteArray) (w : World) (h : Maps w v ls) :
    Calls Try.prog 64 #[.agg #[v], .string s] w (RetQ (.int .i64 (ofC ls s)) w) := by
  have hM := Lib.hid h
  obtain ⟨ao, cap, rfl, hlc, hcm⟩ := h.slice
  clear h
  go_enter Try.func64, Try.ntmps64
  have HA : Hid (Below w.heap.size w (w.alloc (.cells #[.slice ao ls.length cap] 29))) := (Below.refl _ _).alloc (Nat.le_refl _) _
  have F0 := Lib.hid (One.new w 29 (.slice ao ls.length cap))
  cases hv : validC ls
  all_goals
    have HV := Lib.hid hv
    clear hv
    go_wp2_with fail
    refine (svC_v _ (hM.out.mono HA.out (Nat.le_refl _)) HV.out).mono ?_
    rintro e w1 ⟨rfl, hb1⟩
    have hw1 := Lib.hid (HA.out.trans (hb1.mono HA.out.size))
    have G0 := Lib.hid (F0.out.below hb1 F0.out.lt)
    have c0 := G0.out.cell
    clear hb1
  · have HC := Lib.hid (ofC_no (s := s) HV.out)
    go_wp2
    go_ret
    exact ⟨ret_i HC.out.symm, hw1.out⟩
  · have HC := Lib.hid (ofC_yes (s := s) HV.out)
    have hl := validC_iff.1 HV.out
    have hl4 : ls.length ≤ 4 := by omega
    clear hl
    go_wp2_with fail
    go_loopw [5, 6] (fun t i wr => ∃ k : Nat, k ≤ ls.length ∧ ∃ n : Int, t = .int .i64 n ∧ 0 ≤ n ∧ n ≤ k ∧ Hid (n = oftP (ls.take k) s) ∧ i = .int .i64 k ∧ Hid (Below w.heap.size w wr) ∧ Hid (One wr w.heap.size 29 (.slice ao ls.length cap))) (fun _ i _ => ls.length - (intOf i).toNat)
    case atStart => exact ⟨0, Nat.zero_le _, 0, rfl, by omega, by omega, rfl, rfl, hw1.out, G0.out⟩
    case round =>
      obtain ⟨k, hk, n, rfl, hn0, hn1, HN, rfl, HB, HO⟩ := hrel
      have c0 := HO.out.cell
      by_cases hlt : k < ls.length
      · obtain ⟨b, o, cap', u, e, hb, h1, hI⟩ := hM.out.at hlt
        simp only [Value.slice.injEq] at e
        obtain ⟨rfl, _, rfl⟩ := e
        have c1 := (HB.out.cell (p := ⟨b, _, none⟩) hb).trans h1
        have HI := Lib.hid (hI.mono HB.out (Nat.le_refl _))
        clear h1 hI
        cases hh : hasI ls[k] s
        · have HS := Lib.hid (oftP_step hlt hh)
          go_wp2_with fail
          refine (place_no _ HI.out hh).mono ?_
          rintro e w1 ⟨rfl, rfl⟩
          go_wp2
          go_roundw
          case rel => exact ⟨k + 1, by omega, n, rfl, hn0, by omega, HN.out.trans HS.out.symm, by go_num, HB, HO⟩
          case measure => simp [intOf]; omega
        · have HS := Lib.hid (oftP_step hlt hh)
          obtain ⟨j, hj, hpj, -⟩ := placeI_at ls[k] s 0 hh
          simp only [Nat.add_zero] at hpj
          go_wp2_with fail
          refine (place_at _ HI.out hpj).mono ?_
          rintro e w1 ⟨rfl, rfl⟩
          go_wp2
          go_roundw
          case rel => exact ⟨k + 1, by omega, n + 1, by go_num, by omega, by omega, (by rw [HN.out]; exact HS.out.symm), by go_num, HB, HO⟩
          case measure => simp [intOf]; omega
      · obtain rfl : k = ls.length := by omega
        have HS : Hid (n = oftP ls s) := by
          have := HN.out
          rw [List.take_length] at this
          exact this
        go_wp2
        go_ret
        exact ⟨ret_i (HS.out.trans HC.out.symm), HB.out⟩

set_option maxHeartbeats 800000 in
set_option maxRecDepth 100000 in
theorem HowOften_any (v : Value) (ls : List (List Itm)) (s : ByteArray) (w : World) (h : Maps w v ls) :
    Calls Try.prog 65 #[.agg #[v], .string s] w (RetQ (.int .i64 (ofC ls s)) w) := by
  have hM := Lib.hid h
  obtain ⟨ao, cap, rfl, hlc, hcm⟩ := h.slice
  clear h
  go_enter Try.func65, Try.ntmps65
  have HA : Hid (Below w.heap.size w (w.alloc (.cells #[.slice ao ls.length cap] 29))) := (Below.refl _ _).alloc (Nat.le_refl _) _
  have F0 := Lib.hid (One.new w 29 (.slice ao ls.length cap))
  cases hv : validC ls
  all_goals
    have HV := Lib.hid hv
    clear hv
    go_wp2_with fail
    refine (vC_v _ (hM.out.mono HA.out (Nat.le_refl _)) HV.out).mono ?_
    rintro e w1 ⟨rfl, hb1⟩
    have hw1 := Lib.hid (HA.out.trans (hb1.mono HA.out.size))
    have c0 := (F0.out.below hb1 F0.out.lt).cell
    clear hb1
  · have HC := Lib.hid (ofC_no (s := s) HV.out)
    go_wp2
    go_ret
    exact ⟨ret_i HC.out.symm, hw1.out⟩
  · have HC := Lib.hid (ofC_yes (s := s) HV.out)
    have hl := validC_iff.1 HV.out
    go_wp2_with fail
    refine (parentOf_any _ ls _ (hM.out.mono hw1.out (Nat.le_refl _)) (by omega) (by omega)).mono ?_
    rintro e w2 ⟨q, rfl, hp, hb2⟩
    have hw2 := Lib.hid (hw1.out.trans (hb2.mono hw1.out.size))
    have HP := Lib.hid hp
    clear hp hb2 c0
    go_wp2_with fail
    refine (often_par s ls q _ HP.out (by omega)).mono ?_
    rintro e w3 ⟨rfl, hb3⟩
    have hw3 := Lib.hid (hw2.out.trans (hb3.mono hw2.out.size))
    clear hb3
    go_wp2
    go_ret
    exact ⟨ret_i HC.out.symm, hw3.out⟩

/-! ### the number of the first map that has it -/
def cgN (ls : List (List Itm)) (s : ByteArray) : Int := if validC ls = true then (itP ls s).2 else 0
def cgB (ls : List (List Itm)) (s : ByteArray) : Bool := validC ls && decide (0 ≤ whP ls s)
theorem wh_cases (ls : List (List Itm)) (s : ByteArray) : (whP ls s = -1 ∧ itP ls s = zI) ∨ ∃ k, ∃ h : k < ls.length, whP ls s = (k : Int) ∧ itP ls s = (s, cnt ls[k] s) ∧ hasI ls[k] s = true := by
  induction ls with
  | nil => exact .inl ⟨rfl, rfl⟩
  | cons l r ih =>
    cases hh : hasI l s
    · rcases ih with ⟨h1, h2⟩ | ⟨k, hk, h1, h2, h3⟩
      · exact .inl ⟨by rw [whP_cons, hh, h1]; rfl, by rw [itP_cons, hh, h2]; rfl⟩
      · refine .inr ⟨k + 1, by simp; omega, ?_, by rw [itP_cons, hh]; simpa using h2, by simpa using h3⟩
        rw [whP_cons, hh, h1, if_neg (by simp), if_pos (by omega)]
        rfl
    · exact .inr ⟨0, by simp, by rw [whP_cons, hh]; rfl, by rw [itP_cons, hh]; rfl, by simpa using hh⟩
theorem cg_no {ls : List (List Itm)} {s : ByteArray} (h : validC ls = false ∨ (whP ls s = -1 ∧ itP ls s = zI)) : cgN ls s = 0 ∧ cgB ls s = false := by
  unfold cgN cgB
  rcases h with h | ⟨h, h'⟩
  · rw [h]; exact ⟨rfl, rfl⟩
  · rw [h, h']
    exact ⟨by split <;> rfl, by simp⟩
theorem cg_yes {ls : List (List Itm)} {s : ByteArray} (h : validC ls = true) : cgN ls s = (itP ls s).2 ∧ cgB ls s = decide (0 ≤ whP ls s) := by
  unfold cgN cgB
  rw [h]
  exact ⟨rfl, rfl⟩

set_option maxHeartbeats 800000 in
set_option maxRecDepth 100000 in
theorem ChainGet_any (v : Value) (ls : List (List Itm)) (s : ByteArray) (w : World) (h : Maps w v ls) :
    Calls Try.prog 33 #[.agg #[v], .string s] w (RetQ (.tuple #[.int .i64 (cgN ls s), .bool (cgB ls s)]) w) := by
  have hM := Lib.hid h
  obtain ⟨ao, cap, rfl, hlc, hcm⟩ := h.slice
  clear h
  go_enter Try.func33, Try.ntmps33
  have HA : Hid (Below w.heap.size w (w.alloc (.cells #[.slice ao ls.length cap] 29))) := (Below.refl _ _).alloc (Nat.le_refl _) _
  have F0 := Lib.hid (One.new w 29 (.slice ao ls.length cap))
  cases hv : validC ls
  all_goals
    have HV := Lib.hid hv
    clear hv
    go_wp2_with fail
    refine (vC_v _ (hM.out.mono HA.out (Nat.le_refl _)) HV.out).mono ?_
    rintro e w1 ⟨rfl, hb1⟩
    have hw1 := Lib.hid (HA.out.trans (hb1.mono HA.out.size))
    have c0 := (F0.out.below hb1 F0.out.lt).cell
    clear hb1
  · have HC := Lib.hid (cg_no (s := s) (.inl HV.out))
    go_wp2
    go_ret2
    exact ⟨ret_ib HC.out.1.symm HC.out.2.symm, hw1.out⟩
  · have HC := Lib.hid (cg_yes (s := s) HV.out)
    have hl := validC_iff.1 HV.out
    go_wp2_with fail
    refine (parentOf_any _ ls _ (hM.out.mono hw1.out (Nat.le_refl _)) (by omega) (by omega)).mono ?_
    rintro e w2 ⟨q, rfl, hp, hb2⟩
    have hw2 := Lib.hid (hw1.out.trans (hb2.mono hw1.out.size))
    have HP := Lib.hid hp
    clear hp hb2 c0
    go_wp2_with fail
    refine (find_par s ls q _ HP.out (by omega)).mono ?_
    rintro e w3 ⟨rfl, hb3⟩
    have hw3 := Lib.hid (hw2.out.trans (hb3.mono hw2.out.size))
    clear hb3
    go_wp2
    go_ret2
    exact ⟨ret_ib HC.out.1.symm HC.out.2.symm, hw3.out.alloc hw3.out.size _⟩
end Go.Proofs.Ytojepjpmegbdmaa
