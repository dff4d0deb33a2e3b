/-
  The program's functions over items in order: put, dropped, moved, popped, renamed, laid over.
-/
import Derived.Test.YtigiliakcmpekaaRing6
import Derived.Test.YtigiliakcmpekaaNew
namespace Go.Proofs.Ytigiliakcmpekaa
open Go.RowKit

theorem drpL_no {xs : List Itm} {s : ByteArray} (h : okG xs s = false) : drpL xs s = [] := by unfold drpL; rw [h]; rfl
theorem drpL_yes {xs : List Itm} {s : ByteArray} (h : okG xs s = true) : drpL xs s = delI xs s := by unfold drpL; rw [h]; rfl
theorem movL_no {xs : List Itm} {s : ByteArray} {l : Bool} (h : okG xs s = false) : movL xs s l = [] := by unfold movL; rw [h]; rfl
theorem movL_yes {xs : List Itm} {s : ByteArray} {l : Bool} (h : okG xs s = true) : movL xs s l = movI xs s l := by unfold movL; rw [h]; rfl
theorem okG_yes {xs : List Itm} {s : ByteArray} (h : okG xs s = true) : validI xs = true ∧ hasI xs s = true := by unfold okG at h; simpa using h
theorem ring_len {p q : List Nod} {a : Nat} {x : Itm} {xs : List Itm} (h : its (p ++ (a, x) :: q) = xs) (hv : validI xs = true) : (p ++ (a, x) :: q).length ≤ 8 := by
  have := valid_len hv
  rw [← h, its_len] at this
  exact this

set_option maxHeartbeats 800000 in
theorem DropItem_any (v : Value) (xs : List Itm) (s : ByteArray) (w : World) (h : Items w v xs) :
    Calls Try.prog 250 #[v, .string s] w (NewI2 (drpL xs s) (okG xs s) w) := by
  go_enter Try.func250, Try.ntmps250
  cases hg : okG xs s
  · have HG := Lib.hid hg
    clear hg
    go_wp2_with fail
    refine (findItem_no _ _ s _ h HG.out).mono ?_
    rintro e w1 ⟨u, rfl, hb1⟩
    have HD := Lib.hid (drpL_no HG.out)
    go_wp2
    go_ret2
    exact ⟨_, rfl, by rw [HD.out]; exact OwnI_nil _ _ _, hb1⟩
  · have HG := Lib.hid hg
    have hy := okG_yes hg
    clear hg
    go_wp2_with fail
    refine (findItem_yes _ _ s _ h hy.1 hy.2).mono ?_
    rintro e w1 ⟨r, rt, p, a, x, q, rfl, hxs, hx, hp, hR, hb1⟩
    have hlen := ring_len hxs hy.1
    have HD := Lib.hid (show drpL xs s = its (p ++ q) by
      rw [drpL_yes HG.out, ← hxs, its_app, its_app]
      exact delI_sp hx hp)
    have hl2 : (p ++ q).length ≤ 8 := by simp at hlen ⊢; omega
    clear hxs hx hp hy h
    go_wp2_with fail
    refine (cut_any hR (by omega)).mono ?_
    rintro e w2 ⟨rfl, hR2, hF2, hk2, hs2⟩
    have hB2 : Below w.heap.size w w2 := hb1.trans (hk2.below (fun _ h => h))
    clear hF2 hs2
    go_wp2_with fail
    refine (values_any hR2 (by omega)).mono ?_
    rintro e w3 ⟨v3, rfl, ho3, hb3⟩
    go_wp2
    go_ret2
    exact ⟨_, rfl, by rw [HD.out]; exact ho3.base hB2.size, hB2.trans (hb3.mono hB2.size)⟩

theorem okI_pair {s : ByteArray} {n : Int} (hs : s.size ≤ 9223372036854775807) (hn : -9223372036854775808 ≤ n ∧ n ≤ 9223372036854775807) : okI [(s, n)] := fun x hx => by
  rw [List.mem_singleton.1 hx]
  exact ⟨hs, hn.1, hn.2⟩

set_option maxHeartbeats 800000 in
theorem PutItem_any (v : Value) (xs : List Itm) (s : ByteArray) (n : Int) (w : World) (h : Items w v xs) (hs : s.size ≤ 9223372036854775807) (hi : -9223372036854775808 ≤ n ∧ n ≤ 9223372036854775807) :
    Calls Try.prog 249 #[v, .string s, .int .i64 n] w (NewI2 (putL xs s n) (okP xs s n) w) := by
  have hx := okI_pair hs hi
  go_enter Try.func249, Try.ntmps249
  cases hv : validI xs
  all_goals
    have HV := Lib.hid hv
    clear hv
    go_wp2_with fail
    refine (Vi_v _ h HV.out).mono ?_
    rintro e w1 ⟨rfl, hb1⟩
  · go_wp2
    go_ret2
    refine ⟨_, ret_lb rfl (by unfold okP; rw [HV.out]; rfl), ?_, hb1⟩
    unfold putL okP
    rw [HV.out]
    exact OwnI_nil _ _ _
  · have hl := valid_len HV.out
    have HC := Lib.hid (chk_put xs s n HV.out)
    have HO := Lib.hid (show okP xs s n = validI (putI xs s n) by unfold okP; rw [HV.out, Bool.true_and])
    go_wp2_with fail
    refine (ringOf_any _ _ _ (h.mono hb1 (Nat.le_refl _)) (by omega)).mono ?_
    rintro e w2 ⟨r, rt, ns, rfl, hns, hR, hb2⟩
    have hln : ns.length ≤ 8 := by rw [← its_len, hns]; exact hl
    have HB2 := Lib.hid hb2
    clear hb2 h
    go_wp2_with fail
    refine (putIn_any (fun k (hk : k < w1.heap.size) => Nat.lt_of_lt_of_le hk HB2.out.size) hR s n hx (by omega)).mono ?_
    rintro e w3 ⟨p, a, q, rfl, hput, hp, hR3, hk3⟩
    have HP := Lib.hid (show its (p ++ (a, (s, n)) :: q) = putI xs s n by rw [hput, hns])
    have hl3 : (p ++ (a, (s, n)) :: q).length ≤ 9 := by
      rw [← its_len, HP.out, putI_length]
      split <;> omega
    have HB3 := Lib.hid (show Below w1.heap.size w1 w3 from HB2.out.trans (hk3.below (fun _ h => h)))
    clear hput hns hk3 hR
    go_wp2_with fail
    refine (values_any hR3 (by omega)).mono ?_
    rintro e w4 ⟨v4, rfl, ho4, hb4⟩
    rw [HP.out] at ho4
    go_wp2_with fail
    refine (checked_any _ ho4).mono ?_
    rintro e w5 ⟨v5, rfl, ho5, hb5⟩
    have HB4 := Lib.hid (HB3.out.trans (hb4.mono HB3.out.size))
    go_wp2
    go_ret2
    refine ⟨_, ret_lb rfl HO.out.symm, ?_, hb1.trans ((HB4.out.trans (hb5.mono HB4.out.size)).mono hb1.size)⟩
    rw [HC.out]
    exact ho5.base (Nat.le_trans hb1.size HB3.out.size)
end Go.Proofs.Ytigiliakcmpekaa
