/-
  The keys of a map that maps ahead of it have, by the program.
-/
import Derived.Test.YtojepjpmegbdmaaHid
namespace Go.Proofs.Ytojepjpmegbdmaa
open Go.RowKit

set_option maxHeartbeats 800000 in
set_option maxRecDepth 100000 in
theorem hides_par {s : ByteArray} {ls : List (List Itm)} {p : Option Addr} {b : Int} {r : Bool} (w : World) (hp : Par w p ls) (hl : ls.length ≤ 4) (hr : decide (whP ls s < b) = r) :
    Calls Try.prog 121 #[.agg #[.pointer p], .string s, .int .i64 b] w fun e w' => e = .returned (.bool r) ∧ Below w.heap.size w w' := by
  subst hr
  have HA : Hid (Below w.heap.size w (w.alloc (.cells #[.pointer p] 91))) := (Below.refl _ _).alloc (Nat.le_refl _) _
  have HP := Lib.hid (Par.mono HA.out (Nat.le_refl _) hp)
  clear hp
  go_enter Try.func121, Try.ntmps121
  go_wp2_with fail
  refine (find_par s ls p _ HP.out hl).mono ?_
  rintro e w2 ⟨rfl, hb2⟩
  have HB2 := Lib.hid (HA.out.trans (hb2.mono HA.out.size))
  clear hb2
  go_wp2
  go_ret
  exact ⟨rfl, HB2.out.alloc HB2.out.size _⟩

set_option maxHeartbeats 3200000 in
set_option maxRecDepth 100000 in
theorem HiddenIn_any (v : Value) (ls : List (List Itm)) (b : Int) (w : World) (h : Maps w v ls) (hb : -9223372036854775808 ≤ b ∧ b ≤ 9223372036854775807) :
    Calls Try.prog 67 #[.agg #[v], .int .i64 b] w (NewT (fun v => v) (hiL ls b) w) := by
  have hM := Lib.hid h
  obtain ⟨ao, cap, rfl, hlc, hcm⟩ := h.slice
  clear h
  go_enter Try.func67, Try.ntmps67
  have HA : Hid (Below w.heap.size w (w.alloc (.cells #[.slice ao ls.length cap] 29))) := (Below.refl _ _).alloc (Nat.le_refl _) _
  have F0 := Lib.hid (One.new w 29 (.slice ao ls.length cap))
  cases hv : validC ls
  all_goals
    have HV := Lib.hid hv
    clear hv
    go_wp2_with fail
    refine (vC_v _ (hM.out.mono HA.out (Nat.le_refl _)) HV.out).mono ?_
    rintro e w1 ⟨rfl, hb1⟩
    have hw1 := Lib.hid (HA.out.trans (hb1.mono HA.out.size))
    have G0 := Lib.hid (F0.out.below hb1 F0.out.lt)
    have c0 := G0.out.cell
    clear hb1
  · have HC := Lib.hid (hi_no (ls := ls) (b := b) (by unfold hiB; rw [HV.out]; rfl))
    go_wp2
    go_ret
    exact ⟨_, rfl, by rw [HC.out]; exact OwnT_nil _ _, hw1.out⟩
  · have hl := validC_iff.1 HV.out
    have hl4 : ls.length ≤ 4 := hl.2.2
    have hl1 : 1 ≤ ls.length := hl.2.1
    by_cases hb0 : b < 0
    · have HC := Lib.hid (hi_no (ls := ls) (b := b) (by unfold hiB rgB; rw [show decide ((0 : Int) ≤ b) = false by simp; omega]; simp))
      clear hl
      go_wp2
      go_ret
      exact ⟨_, rfl, by rw [HC.out]; exact OwnT_nil _ _, hw1.out⟩
    by_cases hbl : (ls.length : Int) ≤ b
    · have HC := Lib.hid (hi_no (ls := ls) (b := b) (by unfold hiB rgB; rw [show decide (b ≤ (ls.length : Int) - 1) = false by simp; omega]; simp))
      clear hl
      go_wp2
      go_ret
      exact ⟨_, rfl, by rw [HC.out]; exact OwnT_nil _ _, hw1.out⟩
    obtain ⟨k, rfl⟩ : ∃ k : Nat, b = (k : Int) := ⟨b.toNat, by omega⟩
    have hk : k < ls.length := by omega
    have HC := Lib.hid (hi_yes HV.out hk)
    have hln : ls[k].length ≤ 8 := valid_len (hl.1 _ (List.getElem_mem hk))
    obtain ⟨bb, o, cap', u, e, hbb, h1, hI⟩ := hM.out.at hk
    simp only [Value.slice.injEq] at e
    obtain ⟨rfl, _, rfl⟩ := e
    obtain ⟨uo, ucap, rfl, hul, huc, huo, hcell⟩ := hI
    have H1 := Lib.hid h1
    have HCELL := Lib.hid hcell
    have HOK := Lib.hid huo
    have hkc : (k : Int) < (ls.length : Int) := by omega
    clear hl h1 hcell huo
    obtain ⟨i0, hi0, hz0, hz1, hz2⟩ := info_parts Try.infoS
    go_wp2_with fail
    refine (parentOf_any _ ls _ (hM.out.mono hw1.out (Nat.le_refl _)) (by omega) (by omega)).mono ?_
    rintro e w2 ⟨q, rfl, hp, hb2⟩
    have hw2 := Lib.hid (hw1.out.trans (hb2.mono hw1.out.size))
    have G2 := G0.out.below hb2 G0.out.lt
    have hA2 : Below w2.heap.size w2 (w2.alloc (.cells #[.pointer q] 91)) := (Below.refl _ _).alloc (Nat.le_refl _) _
    have HP := Lib.hid (Par.mono hA2 (Nat.le_refl _) hp)
    have HQ := Lib.hid (One.new w2 91 (.pointer q))
    have c0' := (G2.below hA2 G2.lt).cell
    have HW2 := Lib.hid (hw2.out.trans (hA2.mono hw2.out.size))
    have c1 := (HW2.out.cell (p := ⟨bb, _, none⟩) hbb).trans H1.out
    have hs2 : (w2.alloc (.cells #[.pointer q] 91)).heap.size = w2.heap.size + 1 := by simp
    clear hp hb2 c0 G2
    go_wp2_with fail
    obtain ⟨W, hW⟩ : ∃ W, w2.alloc (.cells #[.pointer q] 91) = W := ⟨_, rfl⟩
    rw [hW] at HP HQ c0' HW2 c1 hs2 hA2 ⊢
    clear hW c0' c1
    have hown0 : W.ownsRow W.heap.size 9 1 (.slice none 0 0) (hidF ls k (ls[k].take 0)).length (cellsT (hidF ls k (ls[k].take 0))) := World.ownsRow_nil _ _ _ _
    go_loopw [6, 31] (fun x i wr => ∃ j : Nat, j ≤ ls[k].length ∧ i = .int .i64 j ∧ wr.ownsRow W.heap.size 9 1 x (hidF ls k (ls[k].take j)).length (cellsT (hidF ls k (ls[k].take j))) ∧ Hid (Below W.heap.size W wr)) (fun _ i _ => ls[k].length - (intOf i).toNat)
    case atStart => exact ⟨0, Nat.zero_le _, rfl, hown0, Below.refl _ _⟩
    case round =>
      obtain ⟨j, hj, rfl, hrow, HB⟩ := hrel
      clear hown0 hA2
      have HBW := Lib.hid (HW2.out.trans (HB.out.mono HW2.out.size))
      by_cases hlt : j < ls[k].length
      · obtain ⟨b', o', rfl, hb', k1, k2⟩ := HCELL.out j hlt
        have c2 := (HBW.out.cell (p := ⟨b', _, none⟩) hb').trans k1
        have c3 := (HBW.out.cell (p := ⟨b', _, none⟩) hb').trans k2
        have hle := hid_le ls k (ls[k].take j)
        have hle2 : (ls[k].take j).length ≤ 8 := by simp; omega
        have hAr : Below wr.heap.size wr (wr.alloc (.cells #[.string ls[k][j].1, .int .i64 ls[k][j].2] 87)) := (Below.refl _ _).alloc (Nat.le_refl _) _
        have QR := HQ.out.below HB.out HQ.out.lt
        have d0 := (QR.below hAr QR.lt).cell
        have DI := Lib.hid (Duo.new wr 87 (.string ls[k][j].1) (.int .i64 ls[k][j].2))
        have HPR := Lib.hid (Par.mono hAr (Nat.le_refl _) (Par.mono HB.out (Nat.le_refl _) HP.out))
        have hrow2 := ownsRow_below hrow hAr (Nat.le_refl _)
        have HROW := Lib.hid hrow2
        have HBA := Lib.hid (HB.out.trans (hAr.mono HB.out.size))
        have HST := Lib.hid (hid_step (ls := ls) (b := k) hlt)
        clear k1 k2 hrow hrow2 hAr QR
        by_cases hx : whP ls ls[k][j].1 < (k : Int)
        · have HE := Lib.hid (HST.out.trans (if_pos hx))
          have HXD := Lib.hid (decide_eq_true hx)
          go_wp2_with fail
          refine (hides_par _ HPR.out hl4 HXD.out).mono ?_
          rintro e w3 ⟨rfl, hb3⟩
          have hrow3 := ownsRow_below HROW.out hb3 (Nat.le_refl _)
          obtain ⟨x0, x1⟩ := (DI.out.below hb3 DI.out.lt).cells
          have hs3 := hb3.size
          have hbl3 := Lib.hid (HBA.out.trans (hb3.mono HBA.out.size))
          simp at hs3
          generalize hidF ls k (ls[k].take j) = L at *
          obtain ⟨xo, xcap, rfl, _, _⟩ := own_slice hrow3
          clear hb3 c2 c3 d0 HST hx
          go_wp2_with (at_builtin; refine wpList_append_own _ rfl _ _ 54 rfl W.heap.size 9 i0 (.string ⟨#[]⟩) 1 16 Try.underlying54 hi0 hz0 hz1 hz2 rfl (by decide) (.slice xo L.length xcap) L.length (cellsT L) rfl (hrow3.alloc _) ⟨w3.heap.size, 0, none⟩ 1 1 [.string ls[k][j].1] rfl rfl (cell_one_new _ _ _) (by intro u hu; simp at hu; subst hu; rfl) (by unfold maxLen; omega) (by omega) (by have := hbl3.out.size; simp; omega) ?_; intro v' w4 hown4 hgrow4 hnil4)
          have hs4 := hgrow4.size
          simp at hs4
          have hrow4 : w4.ownsRow W.heap.size 9 1 v' (L ++ [ls[k][j].1]).length (cellsT (L ++ [ls[k][j].1])) := by
            have e3 : (L ++ [ls[k][j].1]).length = L.length + 1 := by simp
            rw [cellsT_snoc, e3]; exact hown4
          have hb4 := (hbl3.out.alloc hbl3.out.size _).grown hgrow4 (by have := hbl3.out.size; simp; omega) (fun j hj => (hrow3.lt j hj).1)
          have HB4 := Lib.hid hb4
          rw [← HE.out] at hrow4
          clear hown4 hgrow4 hnil4 hb4 hrow3
          go_wp2
          go_roundw
          case rel => exact ⟨j + 1, by omega, by go_num, hrow4, HB4⟩
          case measure => simp [intOf]; omega
        · have HE := Lib.hid (HST.out.trans (if_neg hx))
          have HXD := Lib.hid (decide_eq_false hx)
          go_wp2_with fail
          refine (hides_par _ HPR.out hl4 HXD.out).mono ?_
          rintro e w3 ⟨rfl, hb3⟩
          have hrow3 := ownsRow_below HROW.out hb3 (Nat.le_refl _)
          have hbl3 := Lib.hid (HBA.out.trans (hb3.mono HBA.out.size))
          rw [← HE.out] at hrow3
          have HR3 := Lib.hid hrow3
          clear hb3 c2 c3 d0 HST hx hrow3
          go_wp2
          go_roundw
          case rel => exact ⟨j + 1, by omega, by go_num, HR3.out, hbl3⟩
          case measure => simp [intOf]; omega
      · obtain rfl : j = ls[k].length := by omega
        rw [List.take_length] at hrow
        go_wp2
        go_ret
        exact ⟨_, rfl, by rw [HC.out]; exact ⟨ownsRow_base hrow HW2.out.size, hid_ok HOK.out⟩, HBW.out⟩
end Go.Proofs.Ytojepjpmegbdmaa
