/-
  The program's items renamed, and laid over.
-/
import Derived.Test.YtfinniedlbkhcaaImplP
import Derived.Test.YtfinniedlbkhcaaSOrd3
namespace Go.Proofs.Ytfinniedlbkhcaa
open Go.RowKit

set_option maxHeartbeats 1600000 in
set_option maxRecDepth 100000 in
theorem RenameItem_any (v : Value) (xs : List Itm) (s t : ByteArray) (w : World) (h : Items w v xs) (ht : t.size ≤ 9223372036854775807) :
    Calls Try.prog 52 #[v, .string s, .string t] w (NewI2 (renL xs s t) (okR xs s t) w) := by
  go_enter Try.func52, Try.ntmps52
  cases hg : okG xs s
  · have HG := Lib.hid hg
    have HR := Lib.hid (renL_no (xs := xs) (s := s) (t := t) (by unfold okG at hg; rw [hg]; rfl))
    clear hg
    go_wp2_with fail
    refine (findItem_no _ _ s _ h HG.out).mono ?_
    rintro e w1 ⟨u, rfl, hb1⟩
    go_wp2
    go_ret2
    exact ⟨_, ret_lb rfl HR.out.2.symm, by rw [HR.out.1]; exact OwnI_nil _ _ _, hb1⟩
  · have HG := Lib.hid hg
    have hy := okG_yes hg
    clear hg
    go_wp2_with fail
    refine (findItem_yes _ _ s _ h hy.1 hy.2).mono ?_
    rintro e w1 ⟨r, rt, p, a, x, q, rfl, hxs, hx, hp, hR, hb1⟩
    have hlen := ring_len hxs hy.1
    have HB1 := Lib.hid hb1
    cases htt : hasI xs t
    · have HREN := Lib.hid (renL_chk hy.1 hy.2 htt)
      have HF := Lib.hid (find_no (l := p ++ (a, x) :: q) (s := t) (by rw [hxs]; exact htt))
      have HI := Lib.hid (show its (p ++ (a, (t, x.2)) :: q) = renI xs s t by
        rw [← hxs, its_app, its_app]
        exact (renI_sp hx hp t).symm)
      have hxo : okI [(t, x.2)] := okI_pair ht ((hR.ok x (by simp)).2)
      have hl2 : (p ++ (a, (t, x.2)) :: q).length ≤ 8 := by simp at hlen ⊢; omega
      clear hxs hx hp hy h htt hb1
      go_wp2_with fail
      refine (hasKey_any t w1).mono ?_
      rintro e w2 ⟨rfl, rfl⟩
      go_wp2_with fail
      refine (look_any hR (fun k (hk : k < w.heap.size) => Nat.lt_of_lt_of_le hk HB1.out.size) t).mono ?_
      rw [HF.out]
      rintro e w2 ⟨rfl, hR2, hk2, hb2⟩
      have hnd := chain_at hR2
      have c1 := (nd_cells hnd).1
      have f1 := nd_free hnd 0
      have hKa : ¬ (a < w.heap.size) := hR2.out.2 a (List.mem_cons_of_mem _ (by simp))
      have HR3 := Lib.hid (ring_val (y := (t, x.2)) hR2 hxo (j := 0) (u := .string t) (fun p q hN => nd_set0 hN t))
      have HB3 : Hid (Below w.heap.size w (w2.setCell ⟨a, 0, none⟩ (.string t))) := (HB1.out.trans (hb2.mono HB1.out.size)).setCell (Nat.le_of_not_lt hKa) _
      clear hR hR2 hk2 hb2 hnd
      go_wp2_with fail
      refine (values_any HR3.out (by omega)).mono ?_
      rintro e w3 ⟨v3, rfl, ho3, hb3⟩
      rw [HI.out] at ho3
      go_wp2_with fail
      refine (checked_any _ ho3).mono ?_
      rintro e w4 ⟨v4, rfl, ho4, hb4⟩
      have HB4 := Lib.hid (HB3.out.trans (hb3.mono HB3.out.size))
      go_wp2
      go_ret2
      refine ⟨_, ret_lb rfl HREN.out.2.symm, ?_, HB4.out.trans (hb4.mono HB4.out.size)⟩
      rw [HREN.out.1]
      exact ho4.base HB3.out.size
    · obtain ⟨p', a', x', q', hsp, _, _, hf⟩ := find_yes (l := p ++ (a, x) :: q) (s := t) (by rw [hxs]; exact htt)
      have HF := Lib.hid hf
      have HREN := Lib.hid (renL_no (xs := xs) (s := s) (t := t) (by rw [htt]; simp))
      clear hxs hx hp hy h htt hb1 hsp hf
      go_wp2_with fail
      refine (hasKey_any t w1).mono ?_
      rintro e w2 ⟨rfl, rfl⟩
      go_wp2_with fail
      refine (look_any hR (fun k (hk : k < w.heap.size) => Nat.lt_of_lt_of_le hk HB1.out.size) t).mono ?_
      rw [HF.out]
      rintro e w2 ⟨rfl, hR2, hk2, hb2⟩
      go_wp2
      go_ret2
      exact ⟨_, ret_lb rfl HREN.out.2.symm, by rw [HREN.out.1]; exact OwnI_nil _ _ _, HB1.out.trans (hb2.mono HB1.out.size)⟩

set_option maxHeartbeats 1600000 in
set_option maxRecDepth 100000 in
theorem OverItems_any (va vb : Value) (a b : List Itm) (w : World) (ha : Items w va a) (hb : Items w vb b) :
    Calls Try.prog 48 #[va, vb] w (NewI2 (overL a b) (okO a b) w) := by
  go_enter Try.func48, Try.ntmps48
  cases hv : okB a b
  all_goals
    have H := Lib.hid hv
    clear hv
    go_wp2_with fail
    refine (bothValid_v _ ha hb H.out).mono ?_
    rintro e w1 ⟨rfl, hb1⟩
  · have HR := Lib.hid (over_no H.out)
    go_wp2
    go_ret2
    exact ⟨_, ret_lb rfl HR.out.2.symm, by rw [HR.out.1]; exact OwnI_nil _ _ _, hb1⟩
  · have HR := Lib.hid (over_chk H.out)
    have hl1 := valid_len (okB_yes H.out).1
    have hl2 := valid_len (okB_yes H.out).2
    have HB1 := Lib.hid hb1
    have hbI := hb.mono hb1 (Nat.le_refl _)
    clear hb1
    go_wp2_with fail
    refine (ringOf_any _ _ _ (ha.mono HB1.out (Nat.le_refl _)) (by omega)).mono ?_
    rintro e w2 ⟨r, rt, ns0, rfl, hns, hR0, hb2⟩
    have HNS := Lib.hid hns
    have HR0 := Lib.hid hR0
    have HB2 := Lib.hid hb2
    obtain ⟨ao, cap, rfl, hlc, hcm, hok, hcell⟩ := hbI
    clear hns hR0 hb2 ha hb
    go_wp2
    go_loopw [17] (fun i wr => ∃ (k : Nat) (ns : List Nod), k ≤ b.length ∧ i = .int .i64 k ∧ Hid (its ns = overI a (b.take k)) ∧ Hid (RingAt (· < w1.heap.size) wr r rt ns) ∧ Hid (Below w1.heap.size w1 wr)) (fun i _ => b.length - (intOf i).toNat)
    case atStart => exact ⟨0, ns0, Nat.zero_le _, rfl, HNS.out, HR0.out, HB2.out⟩
    case round =>
      obtain ⟨k, ns, hk, rfl, HN, HRR, HB⟩ := hrel
      have hln : ns.length ≤ 100 := by
        have h1 := congrArg List.length HN.out
        have h2 := overI_len (b.take k) a
        have h3 := List.length_take_le k b
        rw [its_len] at h1
        omega
      by_cases hlt : k < b.length
      · obtain ⟨b1, o1, rfl, hb1', h1, h2⟩ := hcell k hlt
        have c1 := (HB.out.cell (p := ⟨b1, _, none⟩) hb1').trans h1
        have c2 := (HB.out.cell (p := ⟨b1, _, none⟩) hb1').trans h2
        have hx := hok _ (List.getElem_mem hlt)
        have HT := Lib.hid (overI_take (a := a) hlt)
        have HR1 := Lib.hid (HRR.out.below ((Below.refl wr.heap.size wr).alloc (Nat.le_refl _) (.cells #[.string b[k].1, .int .i64 b[k].2] 40)))
        clear h1 h2
        go_wp2_with fail
        refine (putIn_any (fun j (hj : j < w1.heap.size) => Nat.lt_of_lt_of_le hj (size_alloc_le HB.out.size _)) HR1.out b[k].1 b[k].2 (okI_pair hx.1 hx.2) (by omega)).mono ?_
        rintro e w3 ⟨p, a', q, rfl, hput, hp, hR3, hk3⟩
        have HN3 : Hid (its (p ++ (a', (b[k].1, b[k].2)) :: q) = overI a (b.take (k + 1))) := by
          unfold Hid
          rw [hput, HT.out, HN.out]
        have HR3 := Lib.hid hR3
        have HB3 : Hid (Below w1.heap.size w1 w3) := (HB.out.alloc HB.out.size _).trans (hk3.below (fun _ h => h))
        clear hput hp hR3 hk3 HR1 HT HN HRR HB c1 c2
        go_wp2
        go_roundw
        case rel => exact ⟨k + 1, _, by omega, by go_num, HN3, HR3, HB3⟩
        case measure => simp [intOf]; omega
      · obtain rfl : k = b.length := by omega
        have HN2 := Lib.hid (show its ns = overI a b by rw [HN.out, List.take_length])
        clear HN
        go_wp2_with fail
        refine (values_any HRR.out (by omega)).mono ?_
        rintro e w3 ⟨v3, rfl, ho3, hb3⟩
        rw [HN2.out] at ho3
        go_wp2_with fail
        refine (checked_any _ ho3).mono ?_
        rintro e w4 ⟨v4, rfl, ho4, hb4⟩
        have HB4 := Lib.hid (HB.out.trans (hb3.mono HB.out.size))
        go_wp2
        go_ret2
        refine ⟨_, ret_lb rfl HR.out.2.symm, ?_, HB1.out.trans ((HB4.out.trans (hb4.mono HB4.out.size)).mono HB1.out.size)⟩
        rw [HR.out.1]
        exact ho4.base (Nat.le_trans HB1.out.size HB.out.size)
end Go.Proofs.Ytfinniedlbkhcaa
