/-
  The model's functions, further: the greater of both.
-/
import Derived.Test.YtbiflkekhabpoaaSpec6
namespace Go.Proofs.Ytbiflkekhabpoaa
open Go.RowKit

/-- Items appended. -/
theorem wpl_append_items (w : World) {ops : Array Oper} {rest : List Oper} {o : Oper} {a : Act} {Q : Exit → Act → World → Prop} (hgd : o.guard = none) (s x : Operand)
    (ho : o.op = .call { callee := .builtin .append, args := #[s, x], argTypes := #[25, 25] })
    (base : Nat) (v : Value) (n : Nat) (xs : List Value) (hs : a.eval s = v) (hown : w.ownsRow base 54 2 v n xs)
    (u : Value) (ys : List Itm) (hx : a.eval x = u) (hy : Items w u ys) (hn : n ≤ 1000000) (hm : ys.length ≤ 1000000) (hbase : base ≤ w.heap.size)
    (h : ∀ v' w', w'.ownsRow base 54 2 v' (n + ys.length) (xs ++ cellsI ys) → w.grownBy w' v.ownBlock → wpList Try.prog ops Q rest (a.put o.dst v') w') : wpList Try.prog ops Q (o :: rest) a w := by
  obtain ⟨i0, hi0, hz0, hz1, hz2⟩ := info_parts Try.infoI
  have hy0 := hy
  obtain ⟨ao, cap, rfl, hlc, hcm, hok, hcell⟩ := hy
  cases ao with
  | none =>
    have hx0 : ys = [] := by
      cases ys with
      | nil => rfl
      | cons y r => obtain ⟨b, o, e, _⟩ := hcell 0 (by simp); cases e
    subst hx0
    refine wpl_append_nothing w hgd s x 25 ho base 54 i0 2 Try.underlying25 hi0 v n xs hs hown cap hx ?_
    refine h v w ?_ (World.grownBy.refl _ _)
    have e : cellsI [] = [] := rfl
    rw [e, List.append_nil]
    exact hown
  | some ad =>
    obtain ⟨b, o', sp⟩ := ad
    exact wpList_append_own w hgd s x 25 ho base 54 i0 (.agg #[.string ⟨#[]⟩, .int .i64 0]) 2 24 Try.underlying25 hi0 hz0 hz1 hz2 rfl (by decide) v n xs hs hown ⟨b, o', sp⟩ ys.length cap (cellsI ys) hx (cellsI_length ys) hy0.news (cellsI_one ys) (by unfold maxLen; omega) (by omega) hbase (fun v' w' h1 h2 _ => h v' w' h1 h2)

theorem rest_le (b a : List Itm) : (restI b a).length ≤ b.length := List.length_filter_le _ _

set_option maxHeartbeats 1600000 in
set_option maxRecDepth 100000 in
theorem sJoinCounts_any (va vb : Value) (a b : List Itm) (w : World) (ha : Items w va a) (hb : Items w vb b) :
    Calls Try.prog 50 #[va, vb] w (NewI2 (if (validI a && validI b) = true then chkI (posI (sumL a (posI (sumL b a (-1))) 1)) else []) ((validI a && validI b) && validI (posI (sumL a (posI (sumL b a (-1))) 1))) w) := by
  go_enter Try.func50, Try.ntmps50
  cases hv : (validI a && validI b)
  · have H := Lib.hid hv
    clear hv
    go_wp2_with fail
    refine (both_v _ ha hb H.out).mono ?_
    rintro e w1 ⟨rfl, hb1⟩
    go_wp2
    go_ret2
    exact ⟨_, rfl, OwnI_nil _ _ _, hb1⟩
  · have H := Lib.hid hv
    clear hv
    have HV := both_yes H.out
    have hn := valid_len HV.1
    have hnb := valid_len HV.2
    have hrl := rest_le b a
    have HE : Hid (posI (sumL a (posI (sumL b a (-1))) 1) = posI ((a ++ restI b a).map fun x => (x.1, max (cnt a x.1) (cnt b x.1)))) := by
      unfold Hid
      rw [sumL_valid HV.1, sumL_valid HV.2]
      exact join_eq (valid_uniq HV.1) (valid_uniq HV.2)
    have hca := valid_cnt HV.1
    have hcb := valid_cnt HV.2
    have hok : okI (a ++ restI b a) := fun x hx => by
      rcases List.mem_append.1 hx with h | h
      · exact ha.ok x h
      · exact hb.ok x (List.mem_filter.1 h).1
    go_wp2_with fail
    refine (both_v _ ha hb H.out).mono ?_
    rintro e w1 ⟨rfl, hb1⟩
    have HA1 := Lib.hid (ha.mono hb1 (Nat.le_refl _))
    have HB1 := Lib.hid (hb.mono hb1 (Nat.le_refl _))
    clear ha hb
    go_wp2_with fail
    refine (copyItems_any va a w1 HA1.out (by omega)).mono ?_
    rintro e w2 ⟨v2, rfl, ho2, hb2⟩
    go_wp2_with fail
    refine (srest_any vb va b a w2 (HB1.out.mono hb2 (Nat.le_refl _)) (HA1.out.mono hb2 (Nat.le_refl _)) (by omega)).mono ?_
    rintro e w3 ⟨v3, rfl, ho3, hb3⟩
    have ho23 := ho2.below hb3 (Nat.le_refl _)
    have hb23 := hb2.trans (hb3.mono hb2.size)
    have hI3 := Lib.hid ho3.items
    go_wp2_with (at_builtin; refine wpl_append_items _ rfl _ _ rfl w1.heap.size v2 a.length (cellsI a) rfl ho23.1 v3 (restI b a) rfl hI3.out (by omega) (by omega) hb23.size ?_; intro v4 w4 hown4 hgrow4)
    have hb4 := Lib.hid (hb23.grown hgrow4 hb23.size (fun k hk => (ho23.1.lt k hk).1))
    clear hgrow4 ho23 ho2 ho3 hb2 hb3 hb23
    obtain ⟨ao, cap, rfl, hlc, hcm⟩ := own_slice hown4
    have hrow0 : w4.ownsRow w1.heap.size 54 2 (.slice ao (a.length + (restI b a).length) cap) (a.length + (restI b a).length) (cellsI (mapTo (fun x => max (cnt a x.1) (cnt b x.1)) (a ++ restI b a) 0)) := by
      have e : mapTo (fun x => max (cnt a x.1) (cnt b x.1)) (a ++ restI b a) 0 = a ++ restI b a := by simp [mapTo]
      rw [e, cellsI_append]; exact hown4
    clear hown4
    obtain ⟨L, hL⟩ : ∃ L, L = a ++ restI b a := ⟨_, rfl⟩
    obtain ⟨n, hN⟩ : ∃ n, n = a.length + (restI b a).length := ⟨_, rfl⟩
    have hLn : L.length = n := by rw [hL, hN, List.length_append]
    rw [← hL] at hrow0 hok HE
    rw [← hN] at hrow0 hlc ⊢
    have hn16 : n ≤ 16 := by omega
    clear hL hN hrl
    go_wp2
    go_loopw [7] (fun i wr => ∃ k : Nat, k ≤ n ∧ i = .int .i64 k ∧ wr.ownsRow w1.heap.size 54 2 (.slice ao n cap) n (cellsI (mapTo (fun x => max (cnt a x.1) (cnt b x.1)) L k)) ∧ Below w1.heap.size w1 wr) (fun i _ => n - (intOf i).toNat)
    case atStart => exact ⟨0, Nat.zero_le _, rfl, hrow0, hb4.out⟩
    case round =>
      obtain ⟨k, hk, rfl, hrow, hbl⟩ := hrel
      by_cases hlt : k < n
      · obtain ⟨g, cap', e, hgc, hgB⟩ := own_shape hrow (by omega)
        simp only [Value.slice.injEq] at e
        obtain ⟨rfl, _, rfl⟩ := e
        have hltL : k < L.length := by omega
        have hg := mapTo_get (f := fun x => max (cnt a x.1) (cnt b x.1)) hltL
        have hc := cells_at (l := mapTo (fun x => max (cnt a x.1) (cnt b x.1)) L k) (k := k) (by rw [mapTo_length]; exact hltL)
        rw [hg] at hc
        have c1 := row_cell_at hrow hc.1
        have c2 := row_cell_at hrow hc.2
        have f1 := hrow.frozenAt (k * 2 + 1)
        have hrow3 := row_number hrow (k := k) (by rw [mapTo_length]; exact hltL) (max (cnt a L[k].1) (cnt b L[k].1))
        rw [hg, mapTo_step hltL] at hrow3
        have HR := Lib.hid hrow3
        have hIa := Lib.hid (HA1.out.mono hbl (Nat.le_refl _))
        have hIb := Lib.hid (HB1.out.mono hbl (Nat.le_refl _))
        clear hg hc hrow hrow3
        go_wp2_with fail
        refine wp_region_still_tail 19 (by kernel_rfl) (by kernel_rfl) ?_
        simp only [List.take_succ_cons, List.take_zero, List.drop_succ_cons, List.drop_zero]
        repeat still_step
        still_call (count_v _ hIa.out.drew)
        repeat still_step
        still_call (count_v _ hIb.out.drew)
        repeat still_step
        refine wpStill_nil ?_
        change wpList _ _ _ _ _ wr.drew
        go_wp2
        go_roundw
        case rel => exact ⟨k + 1, by omega, by go_num, by rw [max_if]; exact HR.out, hbl.drew.setCell hgB _⟩
        case measure => simp [intOf]; omega
      · obtain rfl : k = n := by omega
        rw [← hLn, mapTo_all] at hrow
        have hoI : OwnI 54 wr w1.heap.size (.slice ao k cap) (L.map fun x => (x.1, max (cnt a x.1) (cnt b x.1))) := ⟨by rw [List.length_map]; rw [hLn] at hrow ⊢; exact hrow, fun x hx => by
          obtain ⟨y, hy, rfl⟩ := List.mem_map.1 hx
          have h1 := hok y hy
          have h2 := hca y.1
          have h3 := hcb y.1
          refine ⟨h1.1, ?_, ?_⟩
          · show _ ≤ max (cnt a y.1) (cnt b y.1); omega
          · show max (cnt a y.1) (cnt b y.1) ≤ _; omega⟩
        go_wp2_with fail
        refine (spositive_any _ _ wr hoI.items (by rw [List.length_map]; omega)).mono ?_
        rintro e w5 ⟨v5, rfl, ho5, hb5⟩
        rw [← HE.out] at ho5
        go_wp2_with fail
        refine (schecked_any _ ho5).mono ?_
        rintro e w6 ⟨v6, rfl, ho6, hb6⟩
        have h15 := hbl.trans (hb5.mono hbl.size)
        go_wp2
        go_ret2
        exact ⟨_, rfl, ho6.base (Nat.le_trans hb1.size hbl.size), hb1.trans ((h15.trans (hb6.mono h15.size)).mono hb1.size)⟩
theorem if_meet_le {a b : List Itm} : (if (validI a && validI b) = true then posI (sumL a (posI (sumL a b (-1))) (-1)) else []).length ≤ 10000000 := by
  cases hv : (validI a && validI b)
  · simp
  · have HV := both_yes hv
    have e : posI (sumL a (posI (sumL a b (-1))) (-1)) = posI (a.map fun x => (x.1, min x.2 (cnt b x.1))) := by
      rw [sumL_valid HV.1, sumL_valid HV.1]
      exact meet_eq (valid_uniq HV.1) (valid_uniq HV.2)
    simp only [if_true, e]
    have h1 : (posI (a.map fun x => (x.1, min x.2 (cnt b x.1)))).length ≤ (a.map fun x => (x.1, min x.2 (cnt b x.1))).length := List.length_filter_le _ _
    have h2 := valid_len HV.1
    rw [List.length_map] at h1
    omega
end Go.Proofs.Ytbiflkekhabpoaa
