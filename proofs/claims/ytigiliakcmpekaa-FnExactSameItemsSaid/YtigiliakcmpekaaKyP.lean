/-
  Keys that two lists have, or one alone: by the program.
-/
import Derived.Test.YtigiliakcmpekaaKyM
import Derived.Test.YtigiliakcmpekaaImplP
namespace Go.Proofs.Ytigiliakcmpekaa
open Go.RowKit

theorem plc_ge (l : List Itm) (s : ByteArray) : decide (plcI l s 0 ≥ 0) = hasI l s := by
  cases h : hasI l s
  · rw [plcI_no 0 h]; rfl
  · obtain ⟨k, hk, h1, _⟩ := plcI_yes 0 h
    rw [show plcI l s 0 = ((k + 0 : Nat) : Int) from h1]
    simp
theorem Contains_any (v : Value) (xs : List Itm) (s : ByteArray) (kb : Nat) (w : World) (h : Items w v xs) (hkb : w.heap[kb]? = some (.cells #[.string s] 9 (0, 0))) :
    Calls Try.prog 185 #[v, .func (.func 207) #[] #[.pointer (some ⟨kb, 0, none⟩)]] w (RetQ (.bool (hasI xs s)) w) := by
  have HE := Lib.hid (plc_ge xs s)
  go_enter Try.func185, Try.ntmps185
  go_wp2_with fail
  refine (IndexFunc_any v xs s kb w h hkb).mono ?_
  rintro e w1 ⟨rfl, hb1⟩
  go_wp2
  go_ret
  exact ⟨ret_b (by rw [← HE.out]), hb1⟩

def whT (t : Bool) (ys : List Itm) (ks : List ByteArray) : List ByteArray := ks.filter fun s => hasI ys s == t
theorem whT_step {t : Bool} {ys : List Itm} {ks : List ByteArray} {k : Nat} (h : k < ks.length) : whT t ys (ks.take (k + 1)) = if (hasI ys ks[k] == t) = true then whT t ys (ks.take k) ++ [ks[k]] else whT t ys (ks.take k) := by
  unfold whT
  rw [List.take_succ_eq_append_getElem h, List.filter_append]
  cases hx : (hasI ys ks[k] == t)
  · simp [hx]
  · simp [hx]
theorem whT_le (t : Bool) (ys : List Itm) (ks : List ByteArray) : (whT t ys ks).length ≤ ks.length := List.length_filter_le _ _
theorem whT_ok {t : Bool} {ys : List Itm} {ks : List ByteArray} (h : okT ks) : okT (whT t ys ks) := fun x hx => h x (List.mem_filter.1 hx).1
theorem whT_yes (a b : List Itm) : whT true b (kysI a) = kysI (shrI a b) := by
  unfold whT kysI shrI
  rw [List.filter_map]
  congr 1
  exact List.filter_congr fun x _ => by simp
theorem whT_no (a b : List Itm) : whT false b (kysI a) = kysI (restI a b) := by
  unfold whT kysI restI
  rw [List.filter_map]
  congr 1
  exact List.filter_congr fun x _ => by simp

set_option maxHeartbeats 3200000 in
set_option maxRecDepth 100000 in
theorem keysWhere_any (va vb : Value) (a b : List Itm) (t : Bool) (w : World) (ha : Items w va a) (hb : Items w vb b) (hn : a.length ≤ 100000) :
    Calls Try.prog 140 #[va, vb, .bool t] w (NewT (fun v => v) (whT t b (kysI a)) w) := by
  obtain ⟨i0, hi0, hz0, hz1, hz2⟩ := info_parts Try.infoS
  have HKL := Lib.hid (kys_len a)
  go_enter Try.func140, Try.ntmps140
  go_wp2_with fail
  refine (keysOf_any va a w ha hn).mono ?_
  rintro e w1 ⟨v1, rfl, ho1, hb1⟩
  have hlen : (kysI a).length ≤ 100000 := by rw [HKL.out]; exact hn
  clear HKL
  obtain ⟨ks, hks⟩ : ∃ ks, ks = kysI a := ⟨_, rfl⟩
  rw [← hks] at ho1 hlen
  have HKS := Lib.hid hks
  clear hks
  have HOK := Lib.hid ho1.2
  have HB1 := Lib.hid hb1
  obtain ⟨ao, cap, rfl, _, _, _, hcell⟩ := ho1.texts
  have HC := Lib.hid hcell
  clear ho1 hb1 hcell
  go_wp2_with fail
  go_loopw [7, 13] (fun x i wr => ∃ k : Nat, k ≤ ks.length ∧ i = .int .i64 k ∧ wr.ownsRow w1.heap.size 9 1 x (whT t b (ks.take k)).length (cellsT (whT t b (ks.take k))) ∧ Hid (Below w1.heap.size w1 wr)) (fun _ i _ => ks.length - (intOf i).toNat)
  case atStart => exact ⟨0, Nat.zero_le _, rfl, World.ownsRow_nil _ _ _ _, Below.refl _ _⟩
  case round =>
    obtain ⟨k, hk, rfl, hrow, HB⟩ := hrel
    by_cases hlt : k < ks.length
    · obtain ⟨b', o', rfl, hb', k1⟩ := HC.out k hlt
      have c1 := (HB.out.cell (p := ⟨b', _, none⟩) hb').trans k1
      have HST := Lib.hid (whT_step (t := t) (ys := b) hlt)
      have hle := whT_le t b (ks.take k)
      have hle2 : (ks.take k).length ≤ 100000 := by simp; omega
      have HBW := Lib.hid (HB1.out.trans (HB.out.mono HB1.out.size))
      have HH := Lib.hid (show Items (wr.alloc (.cells #[.string ks[k]] 9)) vb b from hb.mono (HBW.out.alloc HBW.out.size _) (Nat.le_refl _))
      have HROW := Lib.hid hrow
      have HL := Lib.hid HBW.out.size
      clear k1 hrow
      go_wp2_with fail
      refine (hasKey_any ks[k] _).mono ?_
      rintro e w2 ⟨rfl, rfl⟩
      go_wp2_with fail
      refine (Contains_any _ b ks[k] _ _ HH.out (heap_alloc_new _ _)).mono ?_
      rintro e w3 ⟨rfl, hb3⟩
      have hB3 : Below wr.heap.size wr w3 := ((Below.refl wr.heap.size wr).alloc (Nat.le_refl _) _).trans (hb3.mono (by simp))
      have hrow3 := ownsRow_below HROW.out hB3 (Nat.le_refl _)
      have hs3 := hB3.size
      have hbl3 := Lib.hid (HB.out.trans (hB3.mono HB.out.size))
      have hsz3 := hbl3.out.size
      generalize whT t b (ks.take k) = L at *
      generalize hasI b ks[k] = q at *
      obtain ⟨xo, xcap, rfl, _, _⟩ := own_slice hrow3
      clear hb3 hB3 c1 HROW HH
      by_cases hq : q = t
      · subst hq
        have HE := Lib.hid (HST.out.trans (if_pos (by simp)))
        have hqq : (q == q) = true := by simp
        clear HST
        go_wp2_with (at_builtin; refine wpList_append_own _ rfl _ _ 57 rfl w1.heap.size 9 i0 (.string ⟨#[]⟩) 1 16 Try.underlying57 hi0 hz0 hz1 hz2 rfl (by decide) (.slice xo L.length xcap) L.length (cellsT L) rfl (hrow3.alloc _) ⟨w3.heap.size, 0, none⟩ 1 1 [.string ks[k]] rfl rfl (cell_one_new _ _ _) (by intro u hu; simp at hu; subst hu; rfl) (by unfold maxLen; omega) (by omega) (by simp; omega) ?_; intro v' w4 hown4 hgrow4 hnil4)
        have hs4 := hgrow4.size
        simp at hs4
        have hrow4 : w4.ownsRow w1.heap.size 9 1 v' (L ++ [ks[k]]).length (cellsT (L ++ [ks[k]])) := by
          have e3 : (L ++ [ks[k]]).length = L.length + 1 := by simp
          rw [cellsT_snoc, e3]; exact hown4
        have hb4 := (hbl3.out.alloc hbl3.out.size _).grown hgrow4 (by simp; omega) (fun j hj => (hrow3.lt j hj).1)
        have HB4 := Lib.hid hb4
        rw [← HE.out] at hrow4
        clear hown4 hgrow4 hnil4 hb4 hrow3
        go_wp2
        go_roundw
        case rel => exact ⟨k + 1, by omega, by go_num, hrow4, HB4⟩
        case measure => simp [intOf]; omega
      · have HE := Lib.hid (HST.out.trans (if_neg (by simpa using hq)))
        have hqq : (q == t) = false := by simpa using hq
        have HR3 := Lib.hid hrow3
        clear HST hrow3
        go_wp2
        go_roundw
        case rel => exact ⟨k + 1, by omega, by go_num, by rw [HE.out]; exact HR3.out, hbl3⟩
        case measure => simp [intOf]; omega
    · obtain rfl : k = ks.length := by omega
      rw [List.take_length] at hrow
      have HBW := Lib.hid (HB1.out.trans (HB.out.mono HB1.out.size))
      have hrow' := ownsRow_base hrow HB1.out.size
      go_wp2
      go_ret
      exact ⟨_, rfl, by rw [← HKS.out]; exact ⟨hrow', whT_ok HOK.out⟩, HBW.out⟩

theorem MeetKeys_any (va vb : Value) (a b : List Itm) (w : World) (ha : Items w va a) (hb : Items w vb b) :
    Calls Try.prog 54 #[va, vb] w (NewT (fun v => v) (mkL a b) w) := by
  go_enter Try.func54, Try.ntmps54
  cases hv : okAB a b
  all_goals
    have HV := Lib.hid hv
    clear hv
    go_wp2_with fail
    refine (bothValid_v _ ha hb HV.out).mono ?_
    rintro e w1 ⟨rfl, hb1⟩
  · go_wp2
    go_ret
    exact ⟨_, rfl, by rw [show mkL a b = [] from gt_no HV.out]; exact OwnT_nil _ _, hb1⟩
  · have hl := valid_len (okAB_iff.1 HV.out).1
    go_wp2_with fail
    refine (keysWhere_any va vb a b true w1 (ha.mono hb1 (Nat.le_refl _)) (hb.mono hb1 (Nat.le_refl _)) (by omega)).mono ?_
    rintro e w2 ⟨v2, rfl, ho2, hb2⟩
    go_wp2
    go_ret
    exact ⟨_, rfl, by rw [show mkL a b = _ from gt_yes HV.out, ← whT_yes]; exact ho2.base hb1.size, hb1.trans (hb2.mono hb1.size)⟩
theorem LessKeys_any (va vb : Value) (a b : List Itm) (w : World) (ha : Items w va a) (hb : Items w vb b) :
    Calls Try.prog 61 #[va, vb] w (NewT (fun v => v) (lkL a b) w) := by
  go_enter Try.func61, Try.ntmps61
  cases hv : okAB a b
  all_goals
    have HV := Lib.hid hv
    clear hv
    go_wp2_with fail
    refine (bothValid_v _ ha hb HV.out).mono ?_
    rintro e w1 ⟨rfl, hb1⟩
  · go_wp2
    go_ret
    exact ⟨_, rfl, by rw [show lkL a b = [] from gt_no HV.out]; exact OwnT_nil _ _, hb1⟩
  · have hl := valid_len (okAB_iff.1 HV.out).1
    go_wp2_with fail
    refine (keysWhere_any va vb a b false w1 (ha.mono hb1 (Nat.le_refl _)) (hb.mono hb1 (Nat.le_refl _)) (by omega)).mono ?_
    rintro e w2 ⟨v2, rfl, ho2, hb2⟩
    go_wp2
    go_ret
    exact ⟨_, rfl, by rw [show lkL a b = _ from gt_yes HV.out, ← whT_no]; exact ho2.base hb1.size, hb1.trans (hb2.mono hb1.size)⟩
theorem ApartKeys_any (va vb : Value) (a b : List Itm) (w : World) (ha : Items w va a) (hb : Items w vb b) :
    Calls Try.prog 65 #[va, vb] w (RetQ (.bool (apB a b)) w) := by
  go_enter Try.func65, Try.ntmps65
  cases hv : okAB a b
  all_goals
    have HV := Lib.hid hv
    clear hv
    go_wp2_with fail
    refine (bothValid_v _ ha hb HV.out).mono ?_
    rintro e w1 ⟨rfl, hb1⟩
  · go_wp2
    go_ret
    exact ⟨ret_b (by unfold apB; rw [HV.out]; rfl), hb1⟩
  · have hl := valid_len (okAB_iff.1 HV.out).1
    go_wp2_with fail
    refine (keysWhere_any va vb a b true w1 (ha.mono hb1 (Nat.le_refl _)) (hb.mono hb1 (Nat.le_refl _)) (by omega)).mono ?_
    rintro e w2 ⟨v2, rfl, ho2, hb2⟩
    obtain ⟨ao, cap, rfl, _, _⟩ := own_slice ho2.1
    have hb12 := hb1.trans (hb2.mono hb1.size)
    have HA : Hid (apB a b = decide ((whT true b (kysI a)).length = 0)) := by unfold apB; rw [HV.out, whT_yes, kys_len]; rfl
    generalize (whT true b (kysI a)).length = n at *
    by_cases hn : n = 0
    · subst hn
      go_wp2
      go_ret
      exact ⟨ret_b (by rw [HA.out]; rfl), hb12⟩
    · have hn' : ¬ ((n : Int) = 0) := by omega
      go_wp2
      go_ret
      exact ⟨ret_b (by rw [HA.out]; simp [hn]), hb12⟩
end Go.Proofs.Ytigiliakcmpekaa
