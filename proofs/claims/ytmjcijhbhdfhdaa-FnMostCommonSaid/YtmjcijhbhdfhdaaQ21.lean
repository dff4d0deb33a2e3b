/-
  ImplO, ImplP, KyP, MiP, MiS.
-/
import Derived.Test.YtmjcijhbhdfhdaaQ4
import Derived.Test.YtmjcijhbhdfhdaaQ10
import Derived.Test.YtmjcijhbhdfhdaaQ20
/-
  The program's functions over items in order: put, dropped, moved, popped, renamed, laid over.
-/
namespace Go.Proofs.Ytmjcijhbhdfhdaa
open Go.RowKit

theorem drpL_no {xs : List Itm} {s : ByteArray} (h : okG xs s = false) : drpL xs s = [] := by unfold drpL; rw [h]; rfl
theorem drpL_yes {xs : List Itm} {s : ByteArray} (h : okG xs s = true) : drpL xs s = delI xs s := by unfold drpL; rw [h]; rfl
theorem movL_no {xs : List Itm} {s : ByteArray} {l : Bool} (h : okG xs s = false) : movL xs s l = [] := by unfold movL; rw [h]; rfl
theorem movL_yes {xs : List Itm} {s : ByteArray} {l : Bool} (h : okG xs s = true) : movL xs s l = movI xs s l := by unfold movL; rw [h]; rfl
theorem okG_yes {xs : List Itm} {s : ByteArray} (h : okG xs s = true) : validI xs = true ∧ hasI xs s = true := by unfold okG at h; simpa using h
theorem ring_len {p q : List Nod} {a : Nat} {x : Itm} {xs : List Itm} (h : its (p ++ (a, x) :: q) = xs) (hv : validI xs = true) : (p ++ (a, x) :: q).length ≤ 8 := by
  have := valid_len hv
  rw [← h, its_len] at this
  exact this

set_option maxHeartbeats 800000 in
theorem DropItem_any (v : Value) (xs : List Itm) (s : ByteArray) (w : World) (h : Items w v xs) :
    Calls Try.prog 47 #[v, .string s] w (NewI2 (drpL xs s) (okG xs s) w) := by
  go_enter Try.func47, Try.ntmps47
  cases hg : okG xs s
  · have HG := Lib.hid hg
    clear hg
    go_wp2_with fail
    refine (findItem_no _ _ s _ h HG.out).mono ?_
    rintro e w1 ⟨u, rfl, hb1⟩
    have HD := Lib.hid (drpL_no HG.out)
    go_wp2
    go_ret2
    exact ⟨_, rfl, by rw [HD.out]; exact OwnI_nil _ _ _, hb1⟩
  · have HG := Lib.hid hg
    have hy := okG_yes hg
    clear hg
    go_wp2_with fail
    refine (findItem_yes _ _ s _ h hy.1 hy.2).mono ?_
    rintro e w1 ⟨r, rt, p, a, x, q, rfl, hxs, hx, hp, hR, hb1⟩
    have hlen := ring_len hxs hy.1
    have HD := Lib.hid (show drpL xs s = its (p ++ q) by
      rw [drpL_yes HG.out, ← hxs, its_app, its_app]
      exact delI_sp hx hp)
    have hl2 : (p ++ q).length ≤ 8 := by simp at hlen ⊢; omega
    clear hxs hx hp hy h
    go_wp2_with fail
    refine (cut_any hR (by omega)).mono ?_
    rintro e w2 ⟨rfl, hR2, hF2, hk2, hs2⟩
    have hB2 : Below w.heap.size w w2 := hb1.trans (hk2.below (fun _ h => h))
    clear hF2 hs2
    go_wp2_with fail
    refine (values_any hR2 (by omega)).mono ?_
    rintro e w3 ⟨v3, rfl, ho3, hb3⟩
    go_wp2
    go_ret2
    exact ⟨_, rfl, by rw [HD.out]; exact ho3.base hB2.size, hB2.trans (hb3.mono hB2.size)⟩

set_option maxHeartbeats 800000 in
theorem MoveItem_any (v : Value) (xs : List Itm) (s : ByteArray) (last : Bool) (w : World) (h : Items w v xs) :
    Calls Try.prog 49 #[v, .string s, .bool last] w (NewI2 (movL xs s last) (okG xs s) w) := by
  go_enter Try.func49, Try.ntmps49
  cases hg : okG xs s
  · have HG := Lib.hid hg
    clear hg
    go_wp2_with fail
    refine (findItem_no _ _ s _ h HG.out).mono ?_
    rintro e w1 ⟨u, rfl, hb1⟩
    have HD := Lib.hid (movL_no (l := last) HG.out)
    go_wp2
    go_ret2
    exact ⟨_, rfl, by rw [HD.out]; exact OwnI_nil _ _ _, hb1⟩
  · have HG := Lib.hid hg
    have hy := okG_yes hg
    clear hg
    go_wp2_with fail
    refine (findItem_yes _ _ s _ h hy.1 hy.2).mono ?_
    rintro e w1 ⟨r, rt, p, a, x, q, rfl, hxs, hx, hp, hR, hb1⟩
    have hlen := ring_len hxs hy.1
    have hxe : x = (s, cnt xs s) := by
      rw [← hxs, its_app]
      have := cnt_sp (r := its q) hx hp
      exact Prod.ext hx this.symm
    have hdl : delI xs s = its p ++ its q := by
      rw [← hxs, its_app]
      exact delI_sp hx hp
    cases last
    · have HD := Lib.hid (show movL xs s false = its ((a, x) :: (p ++ q)) by
        rw [movL_yes HG.out]
        unfold movI
        rw [hdl, ← hxe]
        simp)
      have hl2 : ((a, x) :: (p ++ q)).length ≤ 8 := by simp at hlen ⊢; omega
      clear hxs hx hp hy h hxe hdl
      go_wp2_with fail
      refine (moveFirst_any hR (by omega)).mono ?_
      rintro e w2 ⟨rfl, hR2, hk2, hs2⟩
      have hB2 : Below w.heap.size w w2 := hb1.trans (hk2.below (fun _ h => h))
      clear hs2
      go_wp2_with fail
      refine (values_any hR2 (by omega)).mono ?_
      rintro e w3 ⟨v3, rfl, ho3, hb3⟩
      go_wp2
      go_ret2
      exact ⟨_, rfl, by rw [HD.out]; exact ho3.base hB2.size, hB2.trans (hb3.mono hB2.size)⟩
    · have HD := Lib.hid (show movL xs s true = its ((p ++ q) ++ [(a, x)]) by
        rw [movL_yes HG.out]
        unfold movI
        rw [if_pos rfl, hdl, ← hxe]
        simp)
      have hl2 : ((p ++ q) ++ [(a, x)]).length ≤ 8 := by simp at hlen ⊢; omega
      clear hxs hx hp hy h hxe hdl
      go_wp2_with fail
      refine (moveLast_any hR (by omega)).mono ?_
      rintro e w2 ⟨rfl, hR2, hk2, hs2⟩
      have hB2 : Below w.heap.size w w2 := hb1.trans (hk2.below (fun _ h => h))
      clear hs2
      go_wp2_with fail
      refine (values_any hR2 (by omega)).mono ?_
      rintro e w3 ⟨v3, rfl, ho3, hb3⟩
      go_wp2
      go_ret2
      exact ⟨_, rfl, by rw [HD.out]; exact ho3.base hB2.size, hB2.trans (hb3.mono hB2.size)⟩

theorem okI_pair {s : ByteArray} {n : Int} (hs : s.size ≤ 9223372036854775807) (hn : -9223372036854775808 ≤ n ∧ n ≤ 9223372036854775807) : okI [(s, n)] := fun x hx => by
  rw [List.mem_singleton.1 hx]
  exact ⟨hs, hn.1, hn.2⟩

set_option maxHeartbeats 800000 in
theorem PutItem_any (v : Value) (xs : List Itm) (s : ByteArray) (n : Int) (w : World) (h : Items w v xs) (hs : s.size ≤ 9223372036854775807) (hi : -9223372036854775808 ≤ n ∧ n ≤ 9223372036854775807) :
    Calls Try.prog 44 #[v, .string s, .int .i64 n] w (NewI2 (putL xs s n) (okP xs s n) w) := by
  have hx := okI_pair hs hi
  go_enter Try.func44, Try.ntmps44
  cases hv : validI xs
  all_goals
    have HV := Lib.hid hv
    clear hv
    go_wp2_with fail
    refine (Vi_v _ h HV.out).mono ?_
    rintro e w1 ⟨rfl, hb1⟩
  · go_wp2
    go_ret2
    refine ⟨_, ret_lb rfl (by unfold okP; rw [HV.out]; rfl), ?_, hb1⟩
    unfold putL okP
    rw [HV.out]
    exact OwnI_nil _ _ _
  · have hl := valid_len HV.out
    have HC := Lib.hid (chk_put xs s n HV.out)
    have HO := Lib.hid (show okP xs s n = validI (putI xs s n) by unfold okP; rw [HV.out, Bool.true_and])
    go_wp2_with fail
    refine (ringOf_any _ _ _ (h.mono hb1 (Nat.le_refl _)) (by omega)).mono ?_
    rintro e w2 ⟨r, rt, ns, rfl, hns, hR, hb2⟩
    have hln : ns.length ≤ 8 := by rw [← its_len, hns]; exact hl
    have HB2 := Lib.hid hb2
    clear hb2 h
    go_wp2_with fail
    refine (putIn_any (fun k (hk : k < w1.heap.size) => Nat.lt_of_lt_of_le hk HB2.out.size) hR s n hx (by omega)).mono ?_
    rintro e w3 ⟨p, a, q, rfl, hput, hp, hR3, hk3⟩
    have HP := Lib.hid (show its (p ++ (a, (s, n)) :: q) = putI xs s n by rw [hput, hns])
    have hl3 : (p ++ (a, (s, n)) :: q).length ≤ 9 := by
      rw [← its_len, HP.out, putI_length]
      split <;> omega
    have HB3 := Lib.hid (show Below w1.heap.size w1 w3 from HB2.out.trans (hk3.below (fun _ h => h)))
    clear hput hns hk3 hR
    go_wp2_with fail
    refine (values_any hR3 (by omega)).mono ?_
    rintro e w4 ⟨v4, rfl, ho4, hb4⟩
    rw [HP.out] at ho4
    go_wp2_with fail
    refine (checked_any _ ho4).mono ?_
    rintro e w5 ⟨v5, rfl, ho5, hb5⟩
    have HB4 := Lib.hid (HB3.out.trans (hb4.mono HB3.out.size))
    go_wp2
    go_ret2
    refine ⟨_, ret_lb rfl HO.out.symm, ?_, hb1.trans ((HB4.out.trans (hb5.mono HB4.out.size)).mono hb1.size)⟩
    rw [HC.out]
    exact ho5.base (Nat.le_trans hb1.size HB3.out.size)
end Go.Proofs.Ytmjcijhbhdfhdaa
/-
  The program's place of a key, its item, a default.
-/
namespace Go.Proofs.Ytmjcijhbhdfhdaa
open Go.RowKit

set_option maxHeartbeats 800000 in
theorem IndexFunc_any (v : Value) (xs : List Itm) (s : ByteArray) (kb : Nat) (w : World) (h : Items w v xs) (hkb : w.heap[kb]? = some (.cells #[.string s] 9 (0, 0))) :
    Calls Try.prog 87 #[v, .func (.func 125) #[] #[.pointer (some ⟨kb, 0, none⟩)]] w fun e w' => e = .returned (.int .i64 (plcI xs s 0)) ∧ Below w.heap.size w w' := by
  obtain ⟨ao, cap, rfl, hlc, hcm, hok, hcell⟩ := h
  have HKB := Lib.hid hkb
  have hkl := lt_of_block hkb
  clear hkb
  go_enter Try.func87, Try.ntmps87
  go_wp2
  go_loopw [8] (fun i wr => ∃ k : Nat, k ≤ xs.length ∧ i = .int .i64 k ∧ Hid (plcI xs s 0 = plcI (xs.drop k) s k) ∧ Hid (Below w.heap.size w wr)) (fun i _ => xs.length - (intOf i).toNat)
  case atStart => exact ⟨0, Nat.zero_le _, rfl, rfl, Below.refl _ _⟩
  case round =>
    obtain ⟨k, hk, rfl, HP, HB⟩ := hrel
    by_cases hlt : k < xs.length
    · obtain ⟨b, o, rfl, hb, h1, h2⟩ := hcell k hlt
      have c1 := (HB.out.cell (p := ⟨b, _, none⟩) hb).trans h1
      have c2 := (HB.out.cell (p := ⟨b, _, none⟩) hb).trans h2
      have HKR := Lib.hid ((HB.out.block kb hkl).trans HKB.out)
      clear h1 h2
      cases hxs : decide (xs[k].1 = s)
      all_goals
        have HX := Lib.hid hxs
        clear hxs
        go_wp2_with fail
        refine (hasKey1_v _ HKR.out HX.out).mono ?_
        rintro e w2 ⟨rfl, hb2⟩
        have HB2 := Lib.hid (HB.out.trans (hb2.mono HB.out.size))
        clear hb2 c1 c2
      · have HP2 : Hid (plcI xs s 0 = plcI (xs.drop (k + 1)) s (k + 1)) := by
          unfold Hid
          rw [HP.out, List.drop_eq_getElem_cons hlt]
          show (if xs[k].1 = s then _ else _) = _
          rw [if_neg (by simpa using HX.out)]
        clear HP HB
        go_wp2
        go_roundw
        case rel => exact ⟨k + 1, by omega, by go_num, HP2, HB2⟩
        case measure => simp [intOf]; omega
      · have HP2 : Hid (plcI xs s 0 = k) := by
          unfold Hid
          rw [HP.out, List.drop_eq_getElem_cons hlt]
          show (if xs[k].1 = s then _ else _) = _
          rw [if_pos (by simpa using HX.out)]
        go_wp2
        go_ret
        exact ⟨ret_int HP2.out.symm, HB2.out⟩
    · obtain rfl : k = xs.length := by omega
      have HP2 : Hid (plcI xs s 0 = -1) := by
        unfold Hid
        rw [HP.out, List.drop_length]
        rfl
      go_wp2
      go_ret
      exact ⟨ret_int HP2.out.symm, HB.out⟩

theorem PlaceOf_any (v : Value) (xs : List Itm) (s : ByteArray) (w : World) (h : Items w v xs) :
    Calls Try.prog 33 #[v, .string s] w (RetQ (.int .i64 (plcN xs s)) w) := by
  go_enter Try.func33, Try.ntmps33
  cases hv : validI xs
  all_goals
    have HV := Lib.hid hv
    clear hv
    go_wp2_with fail
    refine (Vi_v _ h HV.out).mono ?_
    rintro e w1 ⟨rfl, hb1⟩
  · go_wp2
    go_ret
    exact ⟨ret_int (by unfold plcN; rw [HV.out]; rfl), hb1⟩
  · have hb2 : Below w1.heap.size w1 (w1.alloc (.cells #[.string s] 9)) := (Below.refl _ _).alloc (Nat.le_refl _) _
    have HB2 := Lib.hid hb2
    clear hb2
    go_wp2_with fail
    refine (hasKey_any s w1).mono ?_
    rintro e w2 ⟨rfl, rfl⟩
    go_wp2_with fail
    refine (IndexFunc_any _ _ s _ _ ((h.mono hb1 (Nat.le_refl _)).mono HB2.out (Nat.le_refl _)) (heap_alloc_new _ _)).mono ?_
    rintro e w3 ⟨rfl, hb3⟩
    have HP := Lib.hid (show plcN xs s = plcI xs s 0 by unfold plcN; rw [HV.out]; rfl)
    go_wp2
    go_ret
    exact ⟨ret_int HP.out.symm, hb1.trans ((HB2.out.trans (hb3.mono HB2.out.size)).mono hb1.size)⟩

theorem plcI_no {l : List Itm} {s : ByteArray} : ∀ i, hasI l s = false → plcI l s i = -1 := by
  induction l with
  | nil => intro i _; rfl
  | cons x r ih =>
    intro i h
    simp only [hasI, Bool.or_eq_false_iff, decide_eq_false_iff_not] at h
    unfold plcI
    rw [if_neg h.1]
    exact ih _ h.2
theorem plcI_yes {l : List Itm} {s : ByteArray} : ∀ i : Nat, hasI l s = true → ∃ k, ∃ h : k < l.length, plcI l s i = (k + i : Nat) ∧ l[k] = (s, cnt l s) := by
  induction l with
  | nil => intro i h; simp [hasI] at h
  | cons x r ih =>
    intro i h
    by_cases hx : x.1 = s
    · exact ⟨0, by simp, by simp [plcI, hx], by simp [cnt, ← hx]⟩
    · simp only [hasI, hx, decide_false, Bool.false_or] at h
      obtain ⟨k, hk, h1, h2⟩ := ih (i + 1) h
      refine ⟨k + 1, by simpa using hk, ?_, by simpa [cnt, hx] using h2⟩
      simp only [plcI, hx, if_false, h1]
      omega

theorem PlaceOf_v {v : Value} {xs : List Itm} {s : ByteArray} {n : Int} (w : World) (h : Items w v xs) (hn : plcN xs s = n) :
    Calls Try.prog 33 #[v, .string s] w (RetQ (.int .i64 n) w) := by subst hn; exact PlaceOf_any v xs s w h

set_option maxHeartbeats 800000 in
theorem GetItem_any (v : Value) (xs : List Itm) (s : ByteArray) (w : World) (h : Items w v xs) :
    Calls Try.prog 41 #[v, .string s] w (RetQ (.tuple #[.int .i64 (getN xs s), .bool (okG xs s)]) w) := by
  go_enter Try.func41, Try.ntmps41
  cases hg : okG xs s
  · have HG := Lib.hid hg
    have HN := Lib.hid (show getN xs s = 0 by unfold getN; rw [hg]; rfl)
    have HP := Lib.hid (show plcN xs s = -1 by
      unfold okG at hg
      unfold plcN
      cases hv : validI xs
      · rfl
      · rw [hv, Bool.true_and] at hg
        rw [if_pos rfl]
        exact plcI_no 0 hg)
    clear hg
    go_wp2_with fail
    refine (PlaceOf_v _ h HP.out).mono ?_
    rintro e w1 ⟨rfl, hb1⟩
    go_wp2
    go_ret2
    exact ⟨ret_ib HN.out.symm rfl, hb1⟩
  · have HG := Lib.hid hg
    have hy := okG_yes hg
    have HN := Lib.hid (show getN xs s = cnt xs s by unfold getN; rw [hg]; rfl)
    obtain ⟨k, hk, h1, h2⟩ := plcI_yes 0 hy.2
    have HP := Lib.hid (show plcN xs s = (k : Int) by unfold plcN; rw [hy.1, if_pos rfl, h1]; simp)
    have H2 := Lib.hid h2
    clear hg hy h1 h2
    go_wp2_with fail
    refine (PlaceOf_v _ h HP.out).mono ?_
    rintro e w1 ⟨rfl, hb1⟩
    obtain ⟨ao, cap, rfl, hlc, hcm, hok, hcell⟩ := h.mono hb1 (Nat.le_refl _)
    obtain ⟨b, o, rfl, hb, c1, c2⟩ := hcell k hk
    rw [H2.out] at c1 c2
    clear hcell hok h
    go_wp2
    go_ret2
    exact ⟨ret_ib HN.out.symm rfl, hb1⟩

theorem GetItem_v {v : Value} {xs : List Itm} {s : ByteArray} {n : Int} {b : Bool} (w : World) (h : Items w v xs) (hn : getN xs s = n) (hb : okG xs s = b) :
    Calls Try.prog 41 #[v, .string s] w (RetQ (.tuple #[.int .i64 n, .bool b]) w) := by subst hn hb; exact GetItem_any v xs s w h
theorem PutItem_v {v : Value} {xs : List Itm} {s : ByteArray} {n : Int} {G : List Itm} {b : Bool} (w : World) (h : Items w v xs) (hs : s.size ≤ 9223372036854775807) (hi : -9223372036854775808 ≤ n ∧ n ≤ 9223372036854775807) (hG : putL xs s n = G) (hb : okP xs s n = b) :
    Calls Try.prog 44 #[v, .string s, .int .i64 n] w (NewI2 G b w) := by subst hG hb; exact PutItem_any v xs s n w h hs hi
theorem ret_lib {a b : Value} {n m : Int} {c d : Bool} (h : a = b) (h1 : n = m) (h' : c = d) : Ending.returned (.tuple #[a, .int .i64 n, .bool c]) = .returned (.tuple #[b, .int .i64 m, .bool d]) := by rw [h, h1, h']
theorem cnt_bd {xs : List Itm} {s : ByteArray} (h : okI xs) : -9223372036854775808 ≤ cnt xs s ∧ cnt xs s ≤ 9223372036854775807 := by
  induction xs with
  | nil => simp [cnt]
  | cons x r ih =>
    unfold cnt
    split
    · exact (h x (by simp)).2
    · exact ih (fun y hy => h y (by simp [hy]))

def NewLI (l : List Itm) (n : Int) (b : Bool) : World → Ending → World → Prop := NewL (fun v => .tuple #[v, .int .i64 n, .bool b]) l

/-- A put that fails, or one that does not: what DefaultItem makes of it. -/
theorem def_bad {xs : List Itm} {s : ByteArray} {n m : Int} (hm : defI xs s n = m ∨ validI xs = false) (hb : okP xs s m = false) : okD xs s n = false := by
  unfold okD
  rcases hm with h | h
  · rw [h, hb]
  · unfold okP; rw [h]; rfl

end Go.Proofs.Ytmjcijhbhdfhdaa
/-
  Keys that two lists have, or one alone: by the program.
-/
namespace Go.Proofs.Ytmjcijhbhdfhdaa
open Go.RowKit

theorem plc_ge (l : List Itm) (s : ByteArray) : decide (plcI l s 0 ≥ 0) = hasI l s := by
  cases h : hasI l s
  · rw [plcI_no 0 h]; rfl
  · obtain ⟨k, hk, h1, _⟩ := plcI_yes 0 h
    rw [show plcI l s 0 = ((k + 0 : Nat) : Int) from h1]
    simp
theorem Contains_any (v : Value) (xs : List Itm) (s : ByteArray) (kb : Nat) (w : World) (h : Items w v xs) (hkb : w.heap[kb]? = some (.cells #[.string s] 9 (0, 0))) :
    Calls Try.prog 136 #[v, .func (.func 125) #[] #[.pointer (some ⟨kb, 0, none⟩)]] w (RetQ (.bool (hasI xs s)) w) := by
  have HE := Lib.hid (plc_ge xs s)
  go_enter Try.func136, Try.ntmps136
  go_wp2_with fail
  refine (IndexFunc_any v xs s kb w h hkb).mono ?_
  rintro e w1 ⟨rfl, hb1⟩
  go_wp2
  go_ret
  exact ⟨ret_b (by rw [← HE.out]), hb1⟩

def whT (t : Bool) (ys : List Itm) (ks : List ByteArray) : List ByteArray := ks.filter fun s => hasI ys s == t
theorem whT_step {t : Bool} {ys : List Itm} {ks : List ByteArray} {k : Nat} (h : k < ks.length) : whT t ys (ks.take (k + 1)) = if (hasI ys ks[k] == t) = true then whT t ys (ks.take k) ++ [ks[k]] else whT t ys (ks.take k) := by
  unfold whT
  rw [List.take_succ_eq_append_getElem h, List.filter_append]
  cases hx : (hasI ys ks[k] == t)
  · simp [hx]
  · simp [hx]
theorem whT_le (t : Bool) (ys : List Itm) (ks : List ByteArray) : (whT t ys ks).length ≤ ks.length := List.length_filter_le _ _
theorem whT_ok {t : Bool} {ys : List Itm} {ks : List ByteArray} (h : okT ks) : okT (whT t ys ks) := fun x hx => h x (List.mem_filter.1 hx).1
theorem whT_yes (a b : List Itm) : whT true b (kysI a) = kysI (shrI a b) := by
  unfold whT kysI shrI
  rw [List.filter_map]
  congr 1
  exact List.filter_congr fun x _ => by simp
theorem whT_no (a b : List Itm) : whT false b (kysI a) = kysI (restI a b) := by
  unfold whT kysI restI
  rw [List.filter_map]
  congr 1
  exact List.filter_congr fun x _ => by simp

set_option maxHeartbeats 3200000 in
set_option maxRecDepth 100000 in
theorem keysWhere_any (va vb : Value) (a b : List Itm) (t : Bool) (w : World) (ha : Items w va a) (hb : Items w vb b) (hn : a.length ≤ 100000) :
    Calls Try.prog 118 #[va, vb, .bool t] w (NewT (fun v => v) (whT t b (kysI a)) w) := by
  obtain ⟨i0, hi0, hz0, hz1, hz2⟩ := info_parts Try.infoS
  have HKL := Lib.hid (kys_len a)
  go_enter Try.func118, Try.ntmps118
  go_wp2_with fail
  refine (keysOf_any va a w ha hn).mono ?_
  rintro e w1 ⟨v1, rfl, ho1, hb1⟩
  have hlen : (kysI a).length ≤ 100000 := by rw [HKL.out]; exact hn
  clear HKL
  obtain ⟨ks, hks⟩ : ∃ ks, ks = kysI a := ⟨_, rfl⟩
  rw [← hks] at ho1 hlen
  have HKS := Lib.hid hks
  clear hks
  have HOK := Lib.hid ho1.2
  have HB1 := Lib.hid hb1
  obtain ⟨ao, cap, rfl, _, _, _, hcell⟩ := ho1.texts
  have HC := Lib.hid hcell
  clear ho1 hb1 hcell
  go_wp2_with fail
  go_loopw [7, 13] (fun x i wr => ∃ k : Nat, k ≤ ks.length ∧ i = .int .i64 k ∧ wr.ownsRow w1.heap.size 9 1 x (whT t b (ks.take k)).length (cellsT (whT t b (ks.take k))) ∧ Hid (Below w1.heap.size w1 wr)) (fun _ i _ => ks.length - (intOf i).toNat)
  case atStart => exact ⟨0, Nat.zero_le _, rfl, World.ownsRow_nil _ _ _ _, Below.refl _ _⟩
  case round =>
    obtain ⟨k, hk, rfl, hrow, HB⟩ := hrel
    by_cases hlt : k < ks.length
    · obtain ⟨b', o', rfl, hb', k1⟩ := HC.out k hlt
      have c1 := (HB.out.cell (p := ⟨b', _, none⟩) hb').trans k1
      have HST := Lib.hid (whT_step (t := t) (ys := b) hlt)
      have hle := whT_le t b (ks.take k)
      have hle2 : (ks.take k).length ≤ 100000 := by simp; omega
      have HBW := Lib.hid (HB1.out.trans (HB.out.mono HB1.out.size))
      have HH := Lib.hid (show Items (wr.alloc (.cells #[.string ks[k]] 9)) vb b from hb.mono (HBW.out.alloc HBW.out.size _) (Nat.le_refl _))
      have HROW := Lib.hid hrow
      have HL := Lib.hid HBW.out.size
      clear k1 hrow
      go_wp2_with fail
      refine (hasKey_any ks[k] _).mono ?_
      rintro e w2 ⟨rfl, rfl⟩
      go_wp2_with fail
      refine (Contains_any _ b ks[k] _ _ HH.out (heap_alloc_new _ _)).mono ?_
      rintro e w3 ⟨rfl, hb3⟩
      have hB3 : Below wr.heap.size wr w3 := ((Below.refl wr.heap.size wr).alloc (Nat.le_refl _) _).trans (hb3.mono (by simp))
      have hrow3 := ownsRow_below HROW.out hB3 (Nat.le_refl _)
      have hs3 := hB3.size
      have hbl3 := Lib.hid (HB.out.trans (hB3.mono HB.out.size))
      have hsz3 := hbl3.out.size
      generalize whT t b (ks.take k) = L at *
      generalize hasI b ks[k] = q at *
      obtain ⟨xo, xcap, rfl, _, _⟩ := own_slice hrow3
      clear hb3 hB3 c1 HROW HH
      by_cases hq : q = t
      · subst hq
        have HE := Lib.hid (HST.out.trans (if_pos (by simp)))
        have hqq : (q == q) = true := by simp
        clear HST
        go_wp2_with (at_builtin; refine wpList_append_own _ rfl _ _ 33 rfl w1.heap.size 9 i0 (.string ⟨#[]⟩) 1 16 Try.underlying33 hi0 hz0 hz1 hz2 rfl (by decide) (.slice xo L.length xcap) L.length (cellsT L) rfl (hrow3.alloc _) ⟨w3.heap.size, 0, none⟩ 1 1 [.string ks[k]] rfl rfl (cell_one_new _ _ _) (by intro u hu; simp at hu; subst hu; rfl) (by unfold maxLen; omega) (by omega) (by simp; omega) ?_; intro v' w4 hown4 hgrow4 hnil4)
        have hs4 := hgrow4.size
        simp at hs4
        have hrow4 : w4.ownsRow w1.heap.size 9 1 v' (L ++ [ks[k]]).length (cellsT (L ++ [ks[k]])) := by
          have e3 : (L ++ [ks[k]]).length = L.length + 1 := by simp
          rw [cellsT_snoc, e3]; exact hown4
        have hb4 := (hbl3.out.alloc hbl3.out.size _).grown hgrow4 (by simp; omega) (fun j hj => (hrow3.lt j hj).1)
        have HB4 := Lib.hid hb4
        rw [← HE.out] at hrow4
        clear hown4 hgrow4 hnil4 hb4 hrow3
        go_wp2
        go_roundw
        case rel => exact ⟨k + 1, by omega, by go_num, hrow4, HB4⟩
        case measure => simp [intOf]; omega
      · have HE := Lib.hid (HST.out.trans (if_neg (by simpa using hq)))
        have hqq : (q == t) = false := by simpa using hq
        have HR3 := Lib.hid hrow3
        clear HST hrow3
        go_wp2
        go_roundw
        case rel => exact ⟨k + 1, by omega, by go_num, by rw [HE.out]; exact HR3.out, hbl3⟩
        case measure => simp [intOf]; omega
    · obtain rfl : k = ks.length := by omega
      rw [List.take_length] at hrow
      have HBW := Lib.hid (HB1.out.trans (HB.out.mono HB1.out.size))
      have hrow' := ownsRow_base hrow HB1.out.size
      go_wp2
      go_ret
      exact ⟨_, rfl, by rw [← HKS.out]; exact ⟨hrow', whT_ok HOK.out⟩, HBW.out⟩

theorem LessKeys_any (va vb : Value) (a b : List Itm) (w : World) (ha : Items w va a) (hb : Items w vb b) :
    Calls Try.prog 73 #[va, vb] w (NewT (fun v => v) (lkL a b) w) := by
  go_enter Try.func73, Try.ntmps73
  cases hv : okAB a b
  all_goals
    have HV := Lib.hid hv
    clear hv
    go_wp2_with fail
    refine (bothValid_v _ ha hb HV.out).mono ?_
    rintro e w1 ⟨rfl, hb1⟩
  · go_wp2
    go_ret
    exact ⟨_, rfl, by rw [show lkL a b = [] from gt_no HV.out]; exact OwnT_nil _ _, hb1⟩
  · have hl := valid_len (okAB_iff.1 HV.out).1
    go_wp2_with fail
    refine (keysWhere_any va vb a b false w1 (ha.mono hb1 (Nat.le_refl _)) (hb.mono hb1 (Nat.le_refl _)) (by omega)).mono ?_
    rintro e w2 ⟨v2, rfl, ho2, hb2⟩
    go_wp2
    go_ret
    exact ⟨_, rfl, by rw [show lkL a b = _ from gt_yes HV.out, ← whT_no]; exact ho2.base hb1.size, hb1.trans (hb2.mono hb1.size)⟩
end Go.Proofs.Ytmjcijhbhdfhdaa
/-
  Items that two lists have: by the program.
-/
namespace Go.Proofs.Ytmjcijhbhdfhdaa
open Go.RowKit

theorem item_eql (a b : ByteArray) (m n : Int) (w : World) :
    (binOp .eql 30 (.agg #[.string a, .int .i64 m]) (.agg #[.string b, .int .i64 n])).run Try.prog w = .ok (.bool (decide (((a, m) : Itm) = (b, n)))) w := by
  have h := item_equalIn 9998 a b m n w
  simp only [binOp]
  simp only [Op.equal, Op.maxDepth, Sem.run_bind]
  rw [show (10000 : Nat) = 9998 + 1 + 1 from rfl, h, eqI_parts]
  rfl
theorem item_guardE (x y : Operand) (xs ys : Array Value) (w : World) : (eqGuard .eql 30 x y (.agg xs) (.agg ys)).run Try.prog w = .ok () w := by
  have hm : Try.prog.eqGuardType Try.prog.depth 30 = false := by kernel_rfl
  simp [eqGuard, run_program, hm]

/-- Is the item there? -/
def memI (x : Itm) (xs : List Itm) : Bool := xs.any fun y => decide (x = y)
theorem mem_step {xs : List Itm} {x : Itm} {k : Nat} (h : k < xs.length) (hx : ¬ x = xs[k]) : memI x (xs.drop k) = memI x (xs.drop (k + 1)) := by
  unfold memI
  rw [List.drop_eq_getElem_cons h, List.any_cons, decide_eq_false hx, Bool.false_or]
theorem mem_at {xs : List Itm} {x : Itm} {k : Nat} (h : k < xs.length) (hx : x = xs[k]) : memI x xs = true := by
  unfold memI
  rw [List.any_eq_true]
  exact ⟨xs[k], List.getElem_mem h, decide_eq_true hx⟩

def miI (a b : List Itm) : List Itm := a.filter fun x => memI x b
def miL (a b : List Itm) : List Itm := if okAB a b = true then miI a b else []
theorem mi_step {a b : List Itm} {k : Nat} (h : k < a.length) : miI (a.take (k + 1)) b = if memI a[k] b = true then miI (a.take k) b ++ [a[k]] else miI (a.take k) b := by
  unfold miI
  rw [List.take_succ_eq_append_getElem h, List.filter_append]
  cases hx : memI a[k] b
  · simp [hx]
  · simp [hx]
theorem mii_le (a b : List Itm) : (miI a b).length ≤ a.length := List.length_filter_le _ _
theorem mi_le (a b : List Itm) : (miL a b).length ≤ 10000000 := if_len fun h => by
  have := valid_len (okAB_iff.1 h).1
  have := mii_le a b
  omega

end Go.Proofs.Ytmjcijhbhdfhdaa
/-
  Items that two lists have: by the model.
-/
namespace Go.Proofs.Ytmjcijhbhdfhdaa
open Go.RowKit

theorem cnt_in {l : List Itm} (hu : uniqI l = true) : ∀ y ∈ l, cnt l y.1 = y.2 := by
  induction l with
  | nil => intro y hy; simp at hy
  | cons x r ih =>
    intro y hy
    simp only [uniqI, Bool.and_eq_true, Bool.not_eq_true'] at hu
    rcases List.mem_cons.1 hy with rfl | hy
    · simp [cnt]
    · have hne : ¬ x.1 = y.1 := fun e => by
        have : hasI r x.1 = true := hasI_mem.2 ⟨y, hy, e.symm⟩
        rw [hu.1] at this
        cases this
      simp only [cnt, hne, if_false]
      exact ih hu.2 y hy
theorem mem_hit {b : List Itm} {x : Itm} {j : Nat} (hu : uniqI b = true) (hj : j < b.length) (hk : b[j].1 = x.1) : memI x b = decide (b[j] = x) := by
  cases h : decide (b[j] = x)
  · rw [← Bool.not_eq_true]
    intro hm
    unfold memI at hm
    rw [List.any_eq_true] at hm
    obtain ⟨y, hy, he⟩ := hm
    obtain rfl := of_decide_eq_true he
    have h1 := cnt_in hu x hy
    have h2 := cnt_in hu b[j] (List.getElem_mem hj)
    rw [hk] at h2
    refine of_decide_eq_false h (Prod.ext hk ?_)
    omega
  · exact mem_at hj (of_decide_eq_true h).symm
theorem mem_none {b : List Itm} {x : Itm} (h : hasI b x.1 = false) : memI x b = false := by
  rw [← Bool.not_eq_true]
  intro hm
  unfold memI at hm
  rw [List.any_eq_true] at hm
  obtain ⟨y, hy, he⟩ := hm
  obtain rfl := of_decide_eq_true he
  have : hasI b x.1 = true := hasI_mem.2 ⟨x, hy, rfl⟩
  rw [h] at this
  cases this

end Go.Proofs.Ytmjcijhbhdfhdaa
