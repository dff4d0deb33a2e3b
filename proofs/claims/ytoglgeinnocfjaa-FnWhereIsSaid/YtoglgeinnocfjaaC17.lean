/-
  ImplO, ImplP.
-/
import Derived.Test.YtoglgeinnocfjaaC11
import Derived.Test.YtoglgeinnocfjaaC16
/-
  The program's functions over items in order: put, dropped, moved, popped, renamed, laid over.
-/
namespace Go.Proofs.Ytoglgeinnocfjaa
open Go.RowKit

theorem drpL_no {xs : List Itm} {s : ByteArray} (h : okG xs s = false) : drpL xs s = [] := by unfold drpL; rw [h]; rfl
theorem drpL_yes {xs : List Itm} {s : ByteArray} (h : okG xs s = true) : drpL xs s = delI xs s := by unfold drpL; rw [h]; rfl
theorem movL_no {xs : List Itm} {s : ByteArray} {l : Bool} (h : okG xs s = false) : movL xs s l = [] := by unfold movL; rw [h]; rfl
theorem movL_yes {xs : List Itm} {s : ByteArray} {l : Bool} (h : okG xs s = true) : movL xs s l = movI xs s l := by unfold movL; rw [h]; rfl
theorem okG_yes {xs : List Itm} {s : ByteArray} (h : okG xs s = true) : validI xs = true ∧ hasI xs s = true := by unfold okG at h; simpa using h
theorem ring_len {p q : List Nod} {a : Nat} {x : Itm} {xs : List Itm} (h : its (p ++ (a, x) :: q) = xs) (hv : validI xs = true) : (p ++ (a, x) :: q).length ≤ 8 := by
  have := valid_len hv
  rw [← h, its_len] at this
  exact this

set_option maxHeartbeats 800000 in
theorem DropItem_any (v : Value) (xs : List Itm) (s : ByteArray) (w : World) (h : Items w v xs) :
    Calls Try.prog 135 #[v, .string s] w (NewI2 (drpL xs s) (okG xs s) w) := by
  go_enter Try.func135, Try.ntmps135
  cases hg : okG xs s
  · have HG := Lib.hid hg
    clear hg
    go_wp2_with fail
    refine (findItem_no _ _ s _ h HG.out).mono ?_
    rintro e w1 ⟨u, rfl, hb1⟩
    have HD := Lib.hid (drpL_no HG.out)
    go_wp2
    go_ret2
    exact ⟨_, rfl, by rw [HD.out]; exact OwnI_nil _ _ _, hb1⟩
  · have HG := Lib.hid hg
    have hy := okG_yes hg
    clear hg
    go_wp2_with fail
    refine (findItem_yes _ _ s _ h hy.1 hy.2).mono ?_
    rintro e w1 ⟨r, rt, p, a, x, q, rfl, hxs, hx, hp, hR, hb1⟩
    have hlen := ring_len hxs hy.1
    have HD := Lib.hid (show drpL xs s = its (p ++ q) by
      rw [drpL_yes HG.out, ← hxs, its_app, its_app]
      exact delI_sp hx hp)
    have hl2 : (p ++ q).length ≤ 8 := by simp at hlen ⊢; omega
    clear hxs hx hp hy h
    go_wp2_with fail
    refine (cut_any hR (by omega)).mono ?_
    rintro e w2 ⟨rfl, hR2, hF2, hk2, hs2⟩
    have hB2 : Below w.heap.size w w2 := hb1.trans (hk2.below (fun _ h => h))
    clear hF2 hs2
    go_wp2_with fail
    refine (values_any hR2 (by omega)).mono ?_
    rintro e w3 ⟨v3, rfl, ho3, hb3⟩
    go_wp2
    go_ret2
    exact ⟨_, rfl, by rw [HD.out]; exact ho3.base hB2.size, hB2.trans (hb3.mono hB2.size)⟩

theorem okI_pair {s : ByteArray} {n : Int} (hs : s.size ≤ 9223372036854775807) (hn : -9223372036854775808 ≤ n ∧ n ≤ 9223372036854775807) : okI [(s, n)] := fun x hx => by
  rw [List.mem_singleton.1 hx]
  exact ⟨hs, hn.1, hn.2⟩

set_option maxHeartbeats 800000 in
theorem PutItem_any (v : Value) (xs : List Itm) (s : ByteArray) (n : Int) (w : World) (h : Items w v xs) (hs : s.size ≤ 9223372036854775807) (hi : -9223372036854775808 ≤ n ∧ n ≤ 9223372036854775807) :
    Calls Try.prog 131 #[v, .string s, .int .i64 n] w (NewI2 (putL xs s n) (okP xs s n) w) := by
  have hx := okI_pair hs hi
  go_enter Try.func131, Try.ntmps131
  cases hv : validI xs
  all_goals
    have HV := Lib.hid hv
    clear hv
    go_wp2_with fail
    refine (Vi_v _ h HV.out).mono ?_
    rintro e w1 ⟨rfl, hb1⟩
  · go_wp2
    go_ret2
    refine ⟨_, ret_lb rfl (by unfold okP; rw [HV.out]; rfl), ?_, hb1⟩
    unfold putL okP
    rw [HV.out]
    exact OwnI_nil _ _ _
  · have hl := valid_len HV.out
    have HC := Lib.hid (chk_put xs s n HV.out)
    have HO := Lib.hid (show okP xs s n = validI (putI xs s n) by unfold okP; rw [HV.out, Bool.true_and])
    go_wp2_with fail
    refine (ringOf_any _ _ _ (h.mono hb1 (Nat.le_refl _)) (by omega)).mono ?_
    rintro e w2 ⟨r, rt, ns, rfl, hns, hR, hb2⟩
    have hln : ns.length ≤ 8 := by rw [← its_len, hns]; exact hl
    have HB2 := Lib.hid hb2
    clear hb2 h
    go_wp2_with fail
    refine (putIn_any (fun k (hk : k < w1.heap.size) => Nat.lt_of_lt_of_le hk HB2.out.size) hR s n hx (by omega)).mono ?_
    rintro e w3 ⟨p, a, q, rfl, hput, hp, hR3, hk3⟩
    have HP := Lib.hid (show its (p ++ (a, (s, n)) :: q) = putI xs s n by rw [hput, hns])
    have hl3 : (p ++ (a, (s, n)) :: q).length ≤ 9 := by
      rw [← its_len, HP.out, putI_length]
      split <;> omega
    have HB3 := Lib.hid (show Below w1.heap.size w1 w3 from HB2.out.trans (hk3.below (fun _ h => h)))
    clear hput hns hk3 hR
    go_wp2_with fail
    refine (values_any hR3 (by omega)).mono ?_
    rintro e w4 ⟨v4, rfl, ho4, hb4⟩
    rw [HP.out] at ho4
    go_wp2_with fail
    refine (checked_any _ ho4).mono ?_
    rintro e w5 ⟨v5, rfl, ho5, hb5⟩
    have HB4 := Lib.hid (HB3.out.trans (hb4.mono HB3.out.size))
    go_wp2
    go_ret2
    refine ⟨_, ret_lb rfl HO.out.symm, ?_, hb1.trans ((HB4.out.trans (hb5.mono HB4.out.size)).mono hb1.size)⟩
    rw [HC.out]
    exact ho5.base (Nat.le_trans hb1.size HB3.out.size)
end Go.Proofs.Ytoglgeinnocfjaa
/-
  The program's place of a key, its item, a default.
-/
namespace Go.Proofs.Ytoglgeinnocfjaa
open Go.RowKit

set_option maxHeartbeats 800000 in
theorem IndexFunc_any (v : Value) (xs : List Itm) (s : ByteArray) (kb : Nat) (w : World) (h : Items w v xs) (hkb : w.heap[kb]? = some (.cells #[.string s] 9 (0, 0))) :
    Calls Try.prog 102 #[v, .func (.func 130) #[] #[.pointer (some ⟨kb, 0, none⟩)]] w fun e w' => e = .returned (.int .i64 (plcI xs s 0)) ∧ Below w.heap.size w w' := by
  obtain ⟨ao, cap, rfl, hlc, hcm, hok, hcell⟩ := h
  have HKB := Lib.hid hkb
  have hkl := lt_of_block hkb
  clear hkb
  go_enter Try.func102, Try.ntmps102
  go_wp2
  go_loopw [8] (fun i wr => ∃ k : Nat, k ≤ xs.length ∧ i = .int .i64 k ∧ Hid (plcI xs s 0 = plcI (xs.drop k) s k) ∧ Hid (Below w.heap.size w wr)) (fun i _ => xs.length - (intOf i).toNat)
  case atStart => exact ⟨0, Nat.zero_le _, rfl, rfl, Below.refl _ _⟩
  case round =>
    obtain ⟨k, hk, rfl, HP, HB⟩ := hrel
    by_cases hlt : k < xs.length
    · obtain ⟨b, o, rfl, hb, h1, h2⟩ := hcell k hlt
      have c1 := (HB.out.cell (p := ⟨b, _, none⟩) hb).trans h1
      have c2 := (HB.out.cell (p := ⟨b, _, none⟩) hb).trans h2
      have HKR := Lib.hid ((HB.out.block kb hkl).trans HKB.out)
      clear h1 h2
      cases hxs : decide (xs[k].1 = s)
      all_goals
        have HX := Lib.hid hxs
        clear hxs
        go_wp2_with fail
        refine (hasKey1_v _ HKR.out HX.out).mono ?_
        rintro e w2 ⟨rfl, hb2⟩
        have HB2 := Lib.hid (HB.out.trans (hb2.mono HB.out.size))
        clear hb2 c1 c2
      · have HP2 : Hid (plcI xs s 0 = plcI (xs.drop (k + 1)) s (k + 1)) := by
          unfold Hid
          rw [HP.out, List.drop_eq_getElem_cons hlt]
          show (if xs[k].1 = s then _ else _) = _
          rw [if_neg (by simpa using HX.out)]
        clear HP HB
        go_wp2
        go_roundw
        case rel => exact ⟨k + 1, by omega, by go_num, HP2, HB2⟩
        case measure => simp [intOf]; omega
      · have HP2 : Hid (plcI xs s 0 = k) := by
          unfold Hid
          rw [HP.out, List.drop_eq_getElem_cons hlt]
          show (if xs[k].1 = s then _ else _) = _
          rw [if_pos (by simpa using HX.out)]
        go_wp2
        go_ret
        exact ⟨ret_int HP2.out.symm, HB2.out⟩
    · obtain rfl : k = xs.length := by omega
      have HP2 : Hid (plcI xs s 0 = -1) := by
        unfold Hid
        rw [HP.out, List.drop_length]
        rfl
      go_wp2
      go_ret
      exact ⟨ret_int HP2.out.symm, HB.out⟩

theorem PlaceOf_any (v : Value) (xs : List Itm) (s : ByteArray) (w : World) (h : Items w v xs) :
    Calls Try.prog 48 #[v, .string s] w (RetQ (.int .i64 (plcN xs s)) w) := by
  go_enter Try.func48, Try.ntmps48
  cases hv : validI xs
  all_goals
    have HV := Lib.hid hv
    clear hv
    go_wp2_with fail
    refine (Vi_v _ h HV.out).mono ?_
    rintro e w1 ⟨rfl, hb1⟩
  · go_wp2
    go_ret
    exact ⟨ret_int (by unfold plcN; rw [HV.out]; rfl), hb1⟩
  · have hb2 : Below w1.heap.size w1 (w1.alloc (.cells #[.string s] 9)) := (Below.refl _ _).alloc (Nat.le_refl _) _
    have HB2 := Lib.hid hb2
    clear hb2
    go_wp2_with fail
    refine (hasKey_any s w1).mono ?_
    rintro e w2 ⟨rfl, rfl⟩
    go_wp2_with fail
    refine (IndexFunc_any _ _ s _ _ ((h.mono hb1 (Nat.le_refl _)).mono HB2.out (Nat.le_refl _)) (heap_alloc_new _ _)).mono ?_
    rintro e w3 ⟨rfl, hb3⟩
    have HP := Lib.hid (show plcN xs s = plcI xs s 0 by unfold plcN; rw [HV.out]; rfl)
    go_wp2
    go_ret
    exact ⟨ret_int HP.out.symm, hb1.trans ((HB2.out.trans (hb3.mono HB2.out.size)).mono hb1.size)⟩

theorem plcI_no {l : List Itm} {s : ByteArray} : ∀ i, hasI l s = false → plcI l s i = -1 := by
  induction l with
  | nil => intro i _; rfl
  | cons x r ih =>
    intro i h
    simp only [hasI, Bool.or_eq_false_iff, decide_eq_false_iff_not] at h
    unfold plcI
    rw [if_neg h.1]
    exact ih _ h.2
theorem plcI_yes {l : List Itm} {s : ByteArray} : ∀ i : Nat, hasI l s = true → ∃ k, ∃ h : k < l.length, plcI l s i = (k + i : Nat) ∧ l[k] = (s, cnt l s) := by
  induction l with
  | nil => intro i h; simp [hasI] at h
  | cons x r ih =>
    intro i h
    by_cases hx : x.1 = s
    · exact ⟨0, by simp, by simp [plcI, hx], by simp [cnt, ← hx]⟩
    · simp only [hasI, hx, decide_false, Bool.false_or] at h
      obtain ⟨k, hk, h1, h2⟩ := ih (i + 1) h
      refine ⟨k + 1, by simpa using hk, ?_, by simpa [cnt, hx] using h2⟩
      simp only [plcI, hx, if_false, h1]
      omega

theorem PlaceOf_v {v : Value} {xs : List Itm} {s : ByteArray} {n : Int} (w : World) (h : Items w v xs) (hn : plcN xs s = n) :
    Calls Try.prog 48 #[v, .string s] w (RetQ (.int .i64 n) w) := by subst hn; exact PlaceOf_any v xs s w h

theorem PutItem_v {v : Value} {xs : List Itm} {s : ByteArray} {n : Int} {G : List Itm} {b : Bool} (w : World) (h : Items w v xs) (hs : s.size ≤ 9223372036854775807) (hi : -9223372036854775808 ≤ n ∧ n ≤ 9223372036854775807) (hG : putL xs s n = G) (hb : okP xs s n = b) :
    Calls Try.prog 131 #[v, .string s, .int .i64 n] w (NewI2 G b w) := by subst hG hb; exact PutItem_any v xs s n w h hs hi
theorem ret_lib {a b : Value} {n m : Int} {c d : Bool} (h : a = b) (h1 : n = m) (h' : c = d) : Ending.returned (.tuple #[a, .int .i64 n, .bool c]) = .returned (.tuple #[b, .int .i64 m, .bool d]) := by rw [h, h1, h']
theorem cnt_bd {xs : List Itm} {s : ByteArray} (h : okI xs) : -9223372036854775808 ≤ cnt xs s ∧ cnt xs s ≤ 9223372036854775807 := by
  induction xs with
  | nil => simp [cnt]
  | cons x r ih =>
    unfold cnt
    split
    · exact (h x (by simp)).2
    · exact ih (fun y hy => h y (by simp [hy]))

def NewLI (l : List Itm) (n : Int) (b : Bool) : World → Ending → World → Prop := NewL (fun v => .tuple #[v, .int .i64 n, .bool b]) l

/-- A put that fails, or one that does not: what DefaultItem makes of it. -/
theorem def_bad {xs : List Itm} {s : ByteArray} {n m : Int} (hm : defI xs s n = m ∨ validI xs = false) (hb : okP xs s m = false) : okD xs s n = false := by
  unfold okD
  rcases hm with h | h
  · rw [h, hb]
  · unfold okP; rw [h]; rfl

end Go.Proofs.Ytoglgeinnocfjaa
