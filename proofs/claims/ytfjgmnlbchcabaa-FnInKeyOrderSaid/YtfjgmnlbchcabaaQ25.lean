/-
  Ink2.
-/
import Derived.Test.YtfjgmnlbchcabaaQ13
import Derived.Test.YtfjgmnlbchcabaaQ21
/-
  Items in the order of keys, by the program.
-/
namespace Go.Proofs.Ytfjgmnlbchcabaa
open Go.RowKit

theorem RingAt.reK {K K' : Nat → Prop} {w : World} {r rt : Nat} {ns : List Nod} (h : RingAt K w r rt ns) (hK : ∀ b ∈ r :: rt :: blk ns, ¬ K' b) : RingAt K' w r rt ns :=
  ⟨h.head, h.chain, h.nodup, ⟨hK r (by simp), fun b hb => hK b (List.mem_cons_of_mem _ hb)⟩, h.ok⟩

set_option maxHeartbeats 3200000 in
set_option maxRecDepth 100000 in
theorem InKeyOrder_any (v vk : Value) (xs : List Itm) (ks : List ByteArray) (w : World) (h : Items w v xs) (hkk : Texts w vk ks) :
    Calls Try.prog 40 #[v, vk] w (NewI (inkL xs ks) w) := by
  go_enter Try.func40, Try.ntmps40
  cases hv : validI xs
  all_goals
    have HV := Lib.hid hv
    clear hv
    go_wp2_with fail
    refine (Vi_v _ h HV.out).mono ?_
    rintro e w1 ⟨rfl, hb1⟩
  · go_wp2
    go_ret
    exact ⟨_, rfl, by unfold inkL; rw [HV.out]; exact OwnI_nil _ _ _, hb1⟩
  · have hl := valid_len HV.out
    have HLEN := Lib.hid (ink_len (valid_uniq HV.out))
    have HUQ := Lib.hid (valid_uniq HV.out)
    have HI := Lib.hid (h.mono hb1 (Nat.le_refl _))
    have hok := h.ok
    have HB1 := Lib.hid hb1
    obtain ⟨ko, kcap, rfl, hkl, hkc, _, hkcell⟩ := hkk.mono hb1 (Nat.le_refl _)
    obtain ⟨i0, hi, hz0, hz1, hz2⟩ := info_parts Try.infoI
    have hbytes : i0.bytes * xs.length ≤ 281474976710656 := by rw [hz2]; omega
    obtain ⟨ao, acap, rfl, hal, hac, _, _⟩ := HI.out
    clear h hkk hb1
    go_wp2_with fail
    refine (ringOf_any _ xs _ HI.out (by omega)).mono ?_
    rintro e w2 ⟨r, rt, ns0, rfl, hns, hR0, hb2⟩
    have HS0 : Hid (∀ b ∈ r :: rt :: blk ns0, b < w2.heap.size) := by
      have := hR0.lt
      intro b hb
      rcases List.mem_cons.1 hb with e | e
      · rw [e]; exact this.1
      · exact this.2 b e
    have HR0 := Lib.hid hR0
    have HB2 := Lib.hid hb2
    have hs12 := hb2.size
    have HN0 := Lib.hid hns
    clear hR0 hb2 hns
    go_wp2_with (at_make; refine wpList_make_own _ rfl _ _ 23 rfl w2.heap.size 32 i0 _ 2 Try.underlying23 hi hz0 hz1 _ _ _ xs.length rfl rfl rfl hbytes (by unfold maxLen; omega) (Nat.le_refl _) ?_; intro w3 hown3 hgrow3)
    have hb3 : Below w2.heap.size w2 w3 := (Below.refl _ _).grown hgrow3 (Nat.le_refl _) (fun k hk => by cases hk)
    have HR3 := Lib.hid (HR0.out.below hb3)
    have HB3 : Hid (Below w1.heap.size w1 w3) := HB2.out.trans (hb3.mono HB2.out.size)
    have hs3 := hb3.size
    clear hb3 hgrow3 HR0
    go_loopw [6, 20] (fun x i wr => ∃ (k : Nat) (ns : List Nod), k ≤ ks.length ∧ i = .int .i64 k ∧ Hid (its ns = restI xs (inkI xs (ks.take k))) ∧ Hid (RingAt (· < w1.heap.size) wr r rt ns) ∧ Hid (∀ b ∈ r :: rt :: blk ns, b < w2.heap.size) ∧ wr.ownsRow w2.heap.size 32 2 x (inkI xs (ks.take k)).length (cellsI (inkI xs (ks.take k))) ∧ Hid (Below w1.heap.size w1 wr) ∧ w2.heap.size ≤ wr.heap.size) (fun _ i _ => ks.length - (intOf i).toNat)
    case atStart =>
      refine ⟨0, ns0, Nat.zero_le _, rfl, ?_, HR3.out, HS0.out, hown3, HB3.out, hs3⟩
      unfold Hid
      rw [HN0.out]
      symm
      show restI xs [] = xs
      unfold restI
      rw [List.filter_eq_self]
      intro x _
      rfl
    case round =>
      obtain ⟨k, ns, hk', rfl, HN, HR, HS, hrow, HB, hsz⟩ := hrel
      have hln := HLEN.out (ks.take k)
      have hln2 : ns.length ≤ 8 := by
        have := congrArg List.length HN.out
        rw [its_len] at this
        omega
      obtain ⟨xo, xcap, rfl, _, _⟩ := own_slice hrow
      have HROW := Lib.hid hrow
      have hw1r := HB.out.size
      by_cases hlt : k < ks.length
      · obtain ⟨b1, o1, rfl, hb1', h1⟩ := hkcell k hlt
        have c1 := (HB.out.cell (p := ⟨b1, _, none⟩) hb1').trans h1
        have HRK := Lib.hid (HR.out.reK (K' := fun j => j < w1.heap.size ∨ (w2.heap.size ≤ j ∧ j < wr.heap.size)) (fun b hb => by
          have h2 := HS.out b hb
          rcases List.mem_cons.1 hb with e | e
          · have := HR.out.out.1
            subst e
            omega
          · have := HR.out.out.2 b e
            omega))
        clear h1 hrow
        cases hh : hasI (its ns) ks[k]
        · have e1 := Lib.hid (ink_no hlt (by rw [← has_rest, ← HN.out]; exact hh))
          have HF := Lib.hid (find_no hh)
          clear hh
          go_wp2_with fail
          refine (hasKey_any ks[k] wr).mono ?_
          rintro e w4 ⟨rfl, rfl⟩
          go_wp2_with fail
          refine (look_any HRK.out (fun j hj => by omega) ks[k]).mono ?_
          rw [HF.out]
          rintro e w4 ⟨rfl, hR4, hk4, hb4⟩
          have HR4 := Lib.hid (HR.out.below hb4)
          have HB4 := Lib.hid (HB.out.trans (hb4.mono hw1r))
          have HO4 := Lib.hid (ownsRow_below HROW.out hb4 (Nat.le_refl _))
          have hs4 := hb4.size
          clear hR4 hk4 hb4
          go_wp2
          go_roundw
          case rel => exact ⟨k + 1, ns, by omega, by go_num, by rw [e1.out]; exact HN, HR4, HS, by rw [e1.out]; exact HO4.out, HB4, by omega⟩
          case measure => simp [intOf]; omega
        · have hh2 : (hasI xs ks[k] && !hasI (inkI xs (ks.take k)) ks[k]) = true := by rw [← has_rest, ← HN.out]; exact hh
          have e1 := Lib.hid (ink_yes hlt hh2)
          obtain ⟨p, a, x, q, rfl, hx, hp, hf⟩ := find_yes hh
          have hxe : x = (ks[k], cnt xs ks[k]) := by
            have h1 : cnt (its (p ++ (a, x) :: q)) ks[k] = x.2 := by rw [its_app]; exact cnt_sp hx hp
            rw [HN.out, cnt_rest (by simp at hh2; exact hh2.2)] at h1
            exact Prod.ext hx h1.symm
          have HN2 : Hid (its (p ++ q) = restI xs (inkI xs (ks.take (k + 1)))) := by
            unfold Hid
            rw [e1.out, ← del_rest _ HUQ.out, ← HN.out, its_app, its_app]
            exact (delI_sp hx hp).symm
          have HF := Lib.hid hf
          clear hh hh2 hx hp hf
          go_wp2_with fail
          refine (hasKey_any ks[k] wr).mono ?_
          rintro e w4 ⟨rfl, rfl⟩
          go_wp2_with fail
          refine (look_any HRK.out (fun j hj => by omega) ks[k]).mono ?_
          rw [HF.out]
          rintro e w4 ⟨rfl, hR4, hk4, hb4⟩
          have HB4 := Lib.hid (HB.out.trans (hb4.mono hw1r))
          have HO4 := Lib.hid (ownsRow_below HROW.out hb4 (Nat.le_refl _))
          have hs4 := hb4.size
          have HR4 := Lib.hid hR4
          clear hR4 hk4 hb4
          go_wp2_with fail
          refine (cut_any HR4.out (by omega)).mono ?_
          rintro e w5 ⟨rfl, hR5, ⟨⟨u1, u2, hN⟩, _, hKa, _⟩, hk5, hs5⟩
          have HB5 : Hid (Below w1.heap.size w1 w5) := HB4.out.trans (hk5.below (fun j hj => .inl hj))
          have HO5 := Lib.hid (hk5.own HO4.out (fun g hg => .inr ⟨(own_range HROW.out hg).1, (own_range HROW.out hg).2⟩))
          have cN := ndx_cells hN
          have d0 := cN.1
          have d1 := cN.2.1
          have hxo := HR4.out.ok x (by simp)
          rw [hxe] at d0 d1 hxo
          have HXO := Lib.hid hxo
          have HR5 := Lib.hid hR5
          have HS5 : Hid (∀ b ∈ r :: rt :: blk (p ++ q), b < w2.heap.size) := fun b hb => HS.out b (by
            simp only [List.map_append, List.map_cons, List.mem_cons, List.mem_append] at hb ⊢
            rcases hb with e | e | e | e
            · exact .inl e
            · exact .inr (.inl e)
            · exact .inr (.inr (.inl e))
            · exact .inr (.inr (.inr (.inr e))))
          clear hR5 hN cN hKa hk5 hxe hxo
          go_wp2_with (at_builtin; refine wpl_append_items _ rfl _ _ rfl w2.heap.size (.slice xo (inkI xs (ks.take k)).length xcap) (inkI xs (ks.take k)).length (cellsI (inkI xs (ks.take k))) rfl (HO5.out.alloc _) (.slice (some ⟨w5.heap.size, 0, none⟩) 1 1) [(ks[k], cnt xs ks[k])] rfl (Items_one _ _ _ _ HXO.out.1 HXO.out.2) (by omega) (by simp) (by simp; omega) ?_; intro v' w6 hown6 hgrow6)
          have hs6 := hgrow6.size
          simp at hs6
          have hrow6 : w6.ownsRow w2.heap.size 32 2 v' (inkI xs (ks.take (k + 1))).length (cellsI (inkI xs (ks.take (k + 1)))) := by
            rw [e1.out, cellsI_append, List.length_append]; exact hown6
          have hgr := fun j (hj : (Value.slice xo (inkI xs (ks.take k)).length xcap).ownBlock = some j) => (HO5.out.lt j hj).1
          have HB6 : Hid (Below w1.heap.size w1 w6) := (HB5.out.alloc HB5.out.size _).grown hgrow6 (size_alloc_le HB5.out.size _) (fun j hj => Nat.le_trans hs12 (hgr j hj))
          have HR6 : Hid (RingAt (· < w1.heap.size) w6 r rt (p ++ q)) := by
            have hlt5 : ∀ b ∈ r :: rt :: blk (p ++ q), b < w5.heap.size := fun b hb => by have := HS5.out b hb; omega
            refine (HR5.out.keeps (Keeps.grown (K := fun j => j ∈ r :: rt :: blk (p ++ q)) (Keeps.alloc (Keeps.refl _ _) hlt5 _) hgrow6 hlt5 (fun j hj hm => ?_)) ⟨by simp, fun b hb => List.mem_cons_of_mem _ hb⟩).reK (fun b hb => ?_)
            · have h1 := hgr j hj
              have h2 := HS5.out j hm
              omega
            · rcases List.mem_cons.1 hb with e | e
              · have := HR5.out.out.1
                subst e
                omega
              · have := HR5.out.out.2 b e
                omega
          clear hown6 hgrow6 c1 d0 d1 hgr
          go_roundw
          case rel => exact ⟨k + 1, p ++ q, by omega, by go_num, HN2, HR6, HS5, hrow6, HB6, by omega⟩
          case measure => simp [intOf]; omega
      · obtain rfl : k = ks.length := by omega
        rw [List.take_length] at HROW hln HN
        have HL := Lib.hid (show inkL xs ks = inkI xs ks ++ its ns by unfold inkL; rw [HV.out, if_pos rfl, HN.out])
        have HOK := Lib.hid (okI_app (okI_ink hok ks) HR.out.ok)
        clear hrow
        rw [List.take_length]
        go_wp2_with fail
        refine (values_any HR.out (by omega)).mono ?_
        rintro e w4 ⟨v4, rfl, ho4, hb4⟩
        have ho4' := ho4.1
        rw [its_len] at ho4'
        obtain ⟨yo, ycap, rfl, _, _⟩ := own_slice ho4'
        clear ho4'
        have hs4 := hb4.size
        have hile : (its ns).length ≤ 1000000 := by rw [its_len]; omega
        go_wp2_with (at_builtin; refine wpl_append_items _ rfl _ _ rfl w2.heap.size (.slice xo (inkI xs ks).length xcap) (inkI xs ks).length (cellsI (inkI xs ks)) rfl (ownsRow_below HROW.out hb4 (Nat.le_refl _)) (.slice yo ns.length ycap) (its ns) rfl ho4.items (by omega) hile (by omega) ?_; intro v' w5 hown5 hgrow5)
        go_ret
        refine ⟨_, rfl, ?_, HB1.out.trans (((HB.out.trans (hb4.mono hw1r)).grown hgrow5 (by omega) (fun j hj => Nat.le_trans hs12 (HROW.out.lt j hj).1)).mono HB1.out.size)⟩
        rw [HL.out]
        exact own_app hown5 (Nat.le_trans HB1.out.size hs12) HOK.out
end Go.Proofs.Ytfjgmnlbchcabaa
