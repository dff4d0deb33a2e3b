/-
  Items that two lists have: by the model.
-/
import Derived.Test.YtigiliakcmpekaaMiP
namespace Go.Proofs.Ytigiliakcmpekaa
open Go.RowKit

theorem cnt_in {l : List Itm} (hu : uniqI l = true) : ∀ y ∈ l, cnt l y.1 = y.2 := by
  induction l with
  | nil => intro y hy; simp at hy
  | cons x r ih =>
    intro y hy
    simp only [uniqI, Bool.and_eq_true, Bool.not_eq_true'] at hu
    rcases List.mem_cons.1 hy with rfl | hy
    · simp [cnt]
    · have hne : ¬ x.1 = y.1 := fun e => by
        have : hasI r x.1 = true := hasI_mem.2 ⟨y, hy, e.symm⟩
        rw [hu.1] at this
        cases this
      simp only [cnt, hne, if_false]
      exact ih hu.2 y hy
theorem mem_hit {b : List Itm} {x : Itm} {j : Nat} (hu : uniqI b = true) (hj : j < b.length) (hk : b[j].1 = x.1) : memI x b = decide (b[j] = x) := by
  cases h : decide (b[j] = x)
  · rw [← Bool.not_eq_true]
    intro hm
    unfold memI at hm
    rw [List.any_eq_true] at hm
    obtain ⟨y, hy, he⟩ := hm
    obtain rfl := of_decide_eq_true he
    have h1 := cnt_in hu x hy
    have h2 := cnt_in hu b[j] (List.getElem_mem hj)
    rw [hk] at h2
    refine of_decide_eq_false h (Prod.ext hk ?_)
    omega
  · exact mem_at hj (of_decide_eq_true h).symm
theorem mem_none {b : List Itm} {x : Itm} (h : hasI b x.1 = false) : memI x b = false := by
  rw [← Bool.not_eq_true]
  intro hm
  unfold memI at hm
  rw [List.any_eq_true] at hm
  obtain ⟨y, hy, he⟩ := hm
  obtain rfl := of_decide_eq_true he
  have : hasI b x.1 = true := hasI_mem.2 ⟨x, hy, rfl⟩
  rw [h] at this
  cases this

set_option maxHeartbeats 3200000 in
set_option maxRecDepth 100000 in
theorem sMeetItems_any (va vb : Value) (a b : List Itm) (w : World) (ha : Items w va a) (hb : Items w vb b) :
    Calls Try.prog 66 #[va, vb] w (NewL (fun v => v) (miL a b) w) := by
  have hg2 := item_guardE
  go_enter Try.func66, Try.ntmps66
  cases hv : okAB a b
  all_goals
    have HV := Lib.hid hv
    clear hv
    go_wp2_with fail
    refine (both_v _ ha hb HV.out).mono ?_
    rintro e w1 ⟨rfl, hb1⟩
  · go_wp2
    go_ret
    exact ⟨_, rfl, by rw [show miL a b = [] by unfold miL; rw [HV.out]; rfl]; exact OwnI_nil _ _ _, hb1⟩
  · have hl := valid_len (okAB_iff.1 HV.out).1
    have hl2 := valid_len (okAB_iff.1 HV.out).2
    have HU := Lib.hid (valid_uniq (okAB_iff.1 HV.out).2)
    obtain ⟨i0, hi0, hz0, hz1, hz2⟩ := info_parts Try.infoI
    have hown0 := World.ownsRow_lit (base := w1.heap.size) (e := 104) (size := 2) w1 #[] 0 (Nat.le_refl _) (by unfold maxLen; omega) rfl
    have hown0' := ownsRow_base hown0 hb1.size
    have HB1 : Hid (Below w.heap.size w (w1.alloc (.cells #[] 104))) := hb1.alloc hb1.size _
    have HBB := Lib.hid hb
    obtain ⟨ao, cap, rfl, hlc, hcm, hok, hcell⟩ := ha
    have HC := Lib.hid hcell
    have HOK := Lib.hid hok
    obtain ⟨bo, bcap, rfl, hblc, hbcm, hbok, hbcell⟩ := hb
    have HD := Lib.hid hbcell
    clear hcell hok hown0 hbcell hbok
    go_wp2_with fail
    go_loopw [5, 6] (fun x i wr => ∃ k : Nat, k ≤ a.length ∧ i = .int .i64 k ∧ wr.ownsRow w.heap.size 104 2 x (miI (a.take k) b).length (cellsI (miI (a.take k) b)) ∧ Hid (Below w.heap.size w wr)) (fun _ i _ => a.length - (intOf i).toNat)
    case atStart => exact ⟨0, Nat.zero_le _, rfl, hown0', HB1⟩
    case round =>
      obtain ⟨k, hk, rfl, hrow, HB⟩ := hrel
      clear hown0' hb1
      by_cases hlt : k < a.length
      · obtain ⟨b', o', rfl, hb', k1, k2⟩ := HC.out k hlt
        have c1 := (HB.out.cell (p := ⟨b', _, none⟩) hb').trans k1
        have c2 := (HB.out.cell (p := ⟨b', _, none⟩) hb').trans k2
        have HST := Lib.hid (mi_step (b := b) hlt)
        have hle := mii_le (a.take k) b
        have hle2 : (a.take k).length ≤ 8 := by simp; omega
        have HH := Lib.hid (HBB.out.mono HB.out (Nat.le_refl _))
        have HROW := Lib.hid hrow
        have hsz := HB.out.size
        clear k1 k2 hrow
        cases hh : hasI b a[k].1
        · have HHH := Lib.hid hh
          have HE := Lib.hid (HST.out.trans (if_neg (by rw [mem_none hh]; decide)))
          clear hh HST
          go_wp2_with fail
          refine (place_no _ HH.out HHH.out).mono ?_
          rintro e w3 ⟨rfl, rfl⟩
          go_wp2_with fail
          go_quiet (fail)
          go_wp2
          go_roundw
          case rel => exact ⟨k + 1, by omega, by go_num, by rw [HE.out]; exact HROW.out, HB.out.trans ((drewN_belows ⟨_, rfl⟩).mono HB.out.size)⟩
          case measure => simp [intOf]; omega
        · obtain ⟨j, hj, hp, hkey, _, _⟩ := placeI_at b a[k].1 0 hh
          have HP : Hid (placeI b a[k].1 0 = (j : Int)) := by show _ = _; rw [hp]; rfl
          have HM := Lib.hid (mem_hit HU.out hj hkey)
          clear hh hp
          obtain ⟨b2, o2, rfl, hb2, g1, g2⟩ := HD.out j hj
          have d1 := (HB.out.cell (p := ⟨b2, _, none⟩) hb2).trans g1
          have d2 := (HB.out.cell (p := ⟨b2, _, none⟩) hb2).trans g2
          clear g1 g2 hkey
          go_wp2_with fail
          refine (place_at _ HH.out HP.out).mono ?_
          rintro e w3 ⟨rfl, rfl⟩
          cases hq : decide (b[j] = a[k])
          · have hqq : ∀ w', (binOp .eql 104 (.agg #[.string b[j].1, .int .i64 b[j].2]) (.agg #[.string a[k].1, .int .i64 a[k].2])).run Try.prog w' = .ok (.bool false) w' := fun w' => by rw [item_eql]; exact congrArg (fun z => Result.ok (Value.bool z) w') hq
            have HE := Lib.hid (HST.out.trans (if_neg (by rw [HM.out, hq]; decide)))
            clear HST hq
            go_wp2_with fail
            go_quiet (fail)
            go_wp2
            go_roundw
            case rel => exact ⟨k + 1, by omega, by go_num, by rw [HE.out]; exact HROW.out, HB.out.trans ((drewN_belows ⟨_, rfl⟩).mono HB.out.size)⟩
            case measure => simp [intOf]; omega
          · have hqq : ∀ w', (binOp .eql 104 (.agg #[.string b[j].1, .int .i64 b[j].2]) (.agg #[.string a[k].1, .int .i64 a[k].2])).run Try.prog w' = .ok (.bool true) w' := fun w' => by rw [item_eql]; exact congrArg (fun z => Result.ok (Value.bool z) w') hq
            have HE := Lib.hid (HST.out.trans (if_pos (HM.out.trans hq)))
            clear HST hq
            generalize miI (a.take k) b = L at *
            obtain ⟨xo, xcap, rfl, _, _⟩ := own_slice HROW.out
            go_wp2_with fail
            go_quiet (fail)
            have hrow3 : (wr.drewN nq).ownsRow w.heap.size 104 2 (.slice xo L.length xcap) L.length (cellsI L) := HROW.out
            have hbl3 := Lib.hid (HB.out.trans ((drewN_belows (w := wr) ⟨nq, rfl⟩).mono HB.out.size))
            go_wp2_with (at_builtin; refine wpList_append_own _ rfl _ _ 34 rfl w.heap.size 104 i0 (.agg #[.string ⟨#[]⟩, .int .i64 0]) 2 24 Try.underlying34 hi0 hz0 hz1 hz2 rfl (by decide) (.slice xo L.length xcap) L.length (cellsI L) rfl (hrow3.alloc _) ⟨(wr.drewN nq).heap.size, 0, none⟩ 1 1 [.string a[k].1, .int .i64 a[k].2] rfl rfl (cells_two_new _ _ _ _) (by intro u hu; simp at hu; rcases hu with rfl | rfl <;> rfl) (by unfold maxLen; omega) (by omega) (by simp; omega) ?_; intro v' w4 hown4 hgrow4 hnil4)
            have hs4 := hgrow4.size
            simp at hs4
            have hrow4 : w4.ownsRow w.heap.size 104 2 v' (L ++ [a[k]]).length (cellsI (L ++ [a[k]])) := by
              have e3 : (L ++ [a[k]]).length = L.length + 1 := by simp
              rw [cellsI_snoc, e3]; exact hown4
            have hb4 := (hbl3.out.alloc hbl3.out.size _).grown hgrow4 (by simp; omega) (fun j hj => (hrow3.lt j hj).1)
            have HB4 := Lib.hid hb4
            rw [← HE.out] at hrow4
            clear hown4 hgrow4 hnil4 hb4 hrow3 d1 d2 c1 c2
            go_wp2
            go_roundw
            case rel => exact ⟨k + 1, by omega, by go_num, hrow4, HB4⟩
            case measure => simp [intOf]; omega
      · obtain rfl : k = a.length := by omega
        rw [List.take_length] at hrow
        go_wp2
        go_ret
        exact ⟨_, rfl, by rw [show miL a b = miI a b from if_pos HV.out]; exact ⟨hrow, okI_filter HOK.out _⟩, HB.out⟩
end Go.Proofs.Ytigiliakcmpekaa
