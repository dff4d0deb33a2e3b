/-
  The keys of a map that maps ahead of it have, by the model.
-/
import Derived.Test.YtojepjpmegbdmaaHowO
import Derived.Test.YtojepjpmegbdmaaStr
import Derived.Test.YtojepjpmegbdmaaNew
import Derived.Deep.RegionHeld3
namespace Go.Proofs.Ytojepjpmegbdmaa
open Go.RowKit

def hidF (ls : List (List Itm)) (b : Int) (l : List Itm) : List ByteArray := (l.filter fun x => decide (whP ls x.1 < b)).map Prod.fst
def hiB (ls : List (List Itm)) (b : Int) : Bool := validC ls && rgB b 0 ((ls.length : Int) - 1)
def hiL (ls : List (List Itm)) (b : Int) : List ByteArray := if hiB ls b = true then hidF ls b (ls[b.toNat]?.getD []) else []
theorem hi_no {ls : List (List Itm)} {b : Int} (h : hiB ls b = false) : hiL ls b = [] := by unfold hiL; rw [h]; rfl
theorem hi_yes {ls : List (List Itm)} {k : Nat} (hv : validC ls = true) (hk : k < ls.length) : hiL ls (k : Int) = hidF ls k ls[k] := by
  have : hiB ls (k : Int) = true := by
    unfold hiB rgB
    rw [hv]
    simp
    omega
  unfold hiL
  rw [this, if_pos rfl, Int.toNat_natCast, List.getElem?_eq_getElem hk]
  rfl
theorem rg_k {b : Int} {n : Nat} (h : rgB b 0 ((n : Int) - 1) = true) : ∃ k : Nat, b = (k : Int) ∧ k < n := by
  unfold rgB at h
  rw [Bool.and_eq_true, decide_eq_true_eq, decide_eq_true_eq] at h
  exact ⟨b.toNat, by omega, by omega⟩
theorem hid_step {ls : List (List Itm)} {b : Int} {l : List Itm} {i : Nat} (h : i < l.length) : hidF ls b (l.take (i + 1)) = if whP ls l[i].1 < b then hidF ls b (l.take i) ++ [l[i].1] else hidF ls b (l.take i) := by
  unfold hidF
  rw [List.take_succ_eq_append_getElem h, List.filter_append, List.map_append]
  by_cases hx : whP ls l[i].1 < b
  · simp [hx]
  · simp [hx]
theorem hid_le (ls : List (List Itm)) (b : Int) (l : List Itm) : (hidF ls b l).length ≤ l.length := by
  unfold hidF
  rw [List.length_map]
  exact List.length_filter_le _ _
theorem hid_ok {ls : List (List Itm)} {b : Int} {l : List Itm} (h : okI l) : okT (hidF ls b l) := fun t ht => by
  unfold hidF at ht
  obtain ⟨x, hx, rfl⟩ := List.mem_map.1 ht
  exact (h x (List.mem_filter.1 hx).1).1
theorem hi_le (ls : List (List Itm)) (b : Int) : (hiL ls b).length ≤ 10000000 := by
  cases h : hiB ls b
  · rw [hi_no h]; simp
  · unfold hiB at h
    rw [Bool.and_eq_true] at h
    obtain ⟨k, rfl, hk⟩ := rg_k h.2
    rw [hi_yes h.1 hk]
    have := hid_le ls k ls[k]
    have := valid_len ((validC_iff.1 h.1).1 _ (List.getElem_mem hk))
    omega
theorem cellsT_snoc (L : List ByteArray) (s : ByteArray) : cellsT (L ++ [s]) = cellsT L ++ [.string s] := by simp [cellsT]

set_option maxHeartbeats 3200000 in
set_option maxRecDepth 100000 in
theorem sHiddenIn_any (v : Value) (ls : List (List Itm)) (b : Int) (w : World) (h : Maps w v ls) (hb : -9223372036854775808 ≤ b ∧ b ≤ 9223372036854775807) :
    Calls Try.prog 66 #[.agg #[v], .int .i64 b] w (NewT (fun v => v) (hiL ls b) w) := by
  have hM := Lib.hid h
  obtain ⟨ao, cap, rfl, hlc, hcm⟩ := h.slice
  clear h
  go_enter Try.func66, Try.ntmps66
  have HA : Hid (Below w.heap.size w (w.alloc (.cells #[.slice ao ls.length cap] 29))) := (Below.refl _ _).alloc (Nat.le_refl _) _
  have F0 := Lib.hid (One.new w 29 (.slice ao ls.length cap))
  cases hv : validC ls
  all_goals
    have HV := Lib.hid hv
    clear hv
    go_wp2_with fail
    refine (svC_v _ (hM.out.mono HA.out (Nat.le_refl _)) HV.out).mono ?_
    rintro e w1 ⟨rfl, hb1⟩
    have hw1 := Lib.hid (HA.out.trans (hb1.mono HA.out.size))
    have G0 := Lib.hid (F0.out.below hb1 F0.out.lt)
    have c0 := G0.out.cell
    clear hb1
  · have HC := Lib.hid (hi_no (ls := ls) (b := b) (by unfold hiB; rw [HV.out]; rfl))
    go_wp2
    go_ret
    exact ⟨_, rfl, by rw [HC.out]; exact OwnT_nil _ _, hw1.out⟩
  · have hl := validC_iff.1 HV.out
    have hl4 : ls.length ≤ 4 := hl.2.2
    have hl1 : 1 ≤ ls.length := hl.2.1
    cases hr : rgB b 0 ((ls.length : Int) - 1)
    · have HR := Lib.hid hr
      have HC := Lib.hid (hi_no (ls := ls) (b := b) (by unfold hiB; rw [hr]; simp))
      clear hr hl
      go_wp2_with fail
      refine (rg_v _ HR.out).mono ?_
      rintro e w2 ⟨rfl, rfl⟩
      go_wp2
      go_ret
      exact ⟨_, rfl, by rw [HC.out]; exact OwnT_nil _ _, hw1.out⟩
    · obtain ⟨k, rfl, hk⟩ := rg_k hr
      have HR := Lib.hid hr
      have HC := Lib.hid (hi_yes HV.out hk)
      have hln : ls[k].length ≤ 8 := valid_len (hl.1 _ (List.getElem_mem hk))
      obtain ⟨bb, o, cap', u, e, hbb, h1, hI⟩ := hM.out.at hk
      simp only [Value.slice.injEq] at e
      obtain ⟨rfl, _, rfl⟩ := e
      have HII := Lib.hid hI
      obtain ⟨uo, ucap, rfl, hul, huc, huo, hcell⟩ := hI
      have H1 := Lib.hid h1
      have HCELL := Lib.hid hcell
      have HOK := Lib.hid huo
      have hkc : (k : Int) < (ls.length : Int) := by omega
      clear hr hl h1 hcell huo
      obtain ⟨i0, hi0, hz0, hz1, hz2⟩ := info_parts Try.infoS
      have hown0 := World.ownsRow_lit (base := w1.heap.size) (e := 9) (size := 1) w1 #[] 0 (Nat.le_refl _) (by unfold maxLen; omega) rfl
      go_wp2_with fail
      refine (rg_v _ HR.out).mono ?_
      rintro e w2 ⟨rfl, rfl⟩
      go_wp2_with fail
      go_loopw [5, 6] (fun x i wr => ∃ j : Nat, j ≤ ls[k].length ∧ i = .int .i64 j ∧ wr.ownsRow w1.heap.size 9 1 x (hidF ls k (ls[k].take j)).length (cellsT (hidF ls k (ls[k].take j))) ∧ Hid (Below w1.heap.size w1 wr) ∧ w1.heap.size < wr.heap.size) (fun _ i _ => ls[k].length - (intOf i).toNat)
      case atStart => exact ⟨0, Nat.zero_le _, rfl, hown0, (Below.refl _ _).alloc (Nat.le_refl _) _, by simp⟩
      case round =>
        obtain ⟨j, hj, rfl, hrow, HB, hsz⟩ := hrel
        clear hown0 c0
        have HBW := Lib.hid (hw1.out.trans (HB.out.mono hw1.out.size))
        have GR := Lib.hid (G0.out.below HB.out G0.out.lt)
        have c0 := GR.out.cell
        have c1 := (HBW.out.cell (p := ⟨bb, _, none⟩) hbb).trans H1.out
        by_cases hlt : j < ls[k].length
        · obtain ⟨b', o', rfl, hb', k1, _⟩ := HCELL.out j hlt
          have c2 := (HBW.out.cell (p := ⟨b', _, none⟩) hb').trans k1
          have hle := hid_le ls k (ls[k].take j)
          have hle2 : (ls[k].take j).length ≤ 8 := by simp; omega
          have HMd := Lib.hid (show Maps wr.drew _ ls from hM.out.mono HBW.out.drew (Nat.le_refl _))
          have hlw : Hid (bb < wr.heap.size) := Nat.lt_of_lt_of_le hbb HBW.out.size
          have hlw' : Hid (b' < wr.heap.size) := Nat.lt_of_lt_of_le hb' HBW.out.size
          have HL := Lib.hid GR.out.lt
          have HST := Lib.hid (hid_step (ls := ls) (b := k) hlt)
          have HROW := Lib.hid hrow
          clear k1 hrow
          by_cases hx : whP ls ls[k][j].1 < (k : Int)
          all_goals
            go_wp2_with fail
            go_region_held3 (fun w' : World => (w'.cell? ⟨w.heap.size, 0, none⟩ = some (.slice (some ⟨bb, o, none⟩) ls.length cap) ∧ w'.cell? ⟨bb, o + k, none⟩ = some (.slice (some ⟨b', o', none⟩) ls[k].length ucap)) ∧ w'.cell? ⟨b', o' + j * 2, none⟩ = some (.string ls[k][j].1))
              (first | exact ⟨⟨c0, c1⟩, c2⟩ | assumption | exact hS1)
              (first
                | (go_at_call 94; refine (where_any _ HMd.out rfl).mono ?_; rintro e w3 ⟨rfl, hb3⟩; have hS1 : (w3.cell? ⟨w.heap.size, 0, none⟩ = some (.slice (some ⟨bb, o, none⟩) ls.length cap) ∧ w3.cell? ⟨bb, o + k, none⟩ = some (.slice (some ⟨b', o', none⟩) ls[k].length ucap)) ∧ w3.cell? ⟨b', o' + j * 2, none⟩ = some (.string ls[k][j].1) := ⟨⟨(Below.cell (Below.undrew hb3) (p := ⟨w.heap.size, 0, none⟩) HL.out).trans c0, (Below.cell (Below.undrew hb3) (p := ⟨bb, o + k, none⟩) hlw.out).trans c1⟩, (Below.cell (Below.undrew hb3) (p := ⟨b', o' + j * 2, none⟩) hlw'.out).trans c2⟩))
          · have hB3 : Below wr.heap.size wr w3 := Below.undrew hb3
            have hrow3 := ownsRow_below HROW.out hB3 (Nat.le_refl _)
            obtain ⟨⟨x0, x1⟩, x2⟩ := hS1
            have HE := Lib.hid (HST.out.trans (if_pos hx))
            have hs3 := hB3.size
            have hbl3 := Lib.hid (HB.out.trans (hB3.mono HB.out.size))
            generalize hidF ls k (ls[k].take j) = L at *
            obtain ⟨xo, xcap, rfl, _, _⟩ := own_slice hrow3
            clear hb3 hB3 c0 c1 c2 HST
            go_wp2_with (at_builtin; refine wpList_append_own _ rfl _ _ 54 rfl w1.heap.size 9 i0 (.string ⟨#[]⟩) 1 16 Try.underlying54 hi0 hz0 hz1 hz2 rfl (by decide) (.slice xo L.length xcap) L.length (cellsT L) rfl (hrow3.alloc _) ⟨w3.heap.size, 0, none⟩ 1 1 [.string ls[k][j].1] rfl rfl (cell_one_new _ _ _) (by intro u hu; simp at hu; subst hu; rfl) (by unfold maxLen; omega) (by omega) (by simp; omega) ?_; intro v' w4 hown4 hgrow4 hnil4)
            have hs4 := hgrow4.size
            simp at hs4
            have hrow4 : w4.ownsRow w1.heap.size 9 1 v' (L ++ [ls[k][j].1]).length (cellsT (L ++ [ls[k][j].1])) := by
              have e3 : (L ++ [ls[k][j].1]).length = L.length + 1 := by simp
              rw [cellsT_snoc, e3]; exact hown4
            have hb4 := (hbl3.out.alloc hbl3.out.size _).grown hgrow4 (by simp; omega) (fun j hj => (hrow3.lt j hj).1)
            have HB4 := Lib.hid hb4
            rw [← HE.out] at hrow4
            clear hown4 hgrow4 hnil4 hb4 hrow3
            go_wp2
            go_roundw
            case rel => exact ⟨j + 1, by omega, by go_num, hrow4, HB4, by omega⟩
            case measure => simp [intOf]; omega
          · have hB3 : Below wr.heap.size wr w3 := Below.undrew hb3
            have hrow3 := ownsRow_below HROW.out hB3 (Nat.le_refl _)
            have HE := Lib.hid (HST.out.trans (if_neg (Int.not_lt.2 hx)))
            have hs3 := hB3.size
            have hbl3 := Lib.hid (HB.out.trans (hB3.mono HB.out.size))
            rw [← HE.out] at hrow3
            have HR3 := Lib.hid hrow3
            have hxd : decide (whP ls ls[k][j].1 < (k : Int)) = false := decide_eq_false (Int.not_lt.2 hx)
            clear hb3 hB3 c0 c1 c2 HST hrow3 hS1
            go_wp2
            go_roundw
            case rel => exact ⟨j + 1, by omega, by go_num, HR3.out, hbl3, by omega⟩
            case measure => simp [intOf]; omega
        · obtain rfl : j = ls[k].length := by omega
          rw [List.take_length] at hrow
          go_wp2
          go_ret
          exact ⟨_, rfl, by rw [HC.out]; exact ⟨ownsRow_base hrow hw1.out.size, hid_ok HOK.out⟩, HBW.out⟩
end Go.Proofs.Ytojepjpmegbdmaa
