/-
  SrtS, SrtK, Mcm.
-/
import Derived.Test.YtmjcijhbhdfhdaaQ13
import Derived.Test.YtmjcijhbhdfhdaaQ18
/-
  Sorts by the model: each item put behind those that go ahead of it.
-/
namespace Go.Proofs.Ytmjcijhbhdfhdaa
open Go.RowKit

def geN (y x : Itm) : Bool := decide (x.2 ≤ y.2)
def geK (y x : Itm) : Bool := keyLt y.1 x.1
theorem insD_go {ge : Itm → Itm → Bool} {y x : Itm} {q : List Itm} (h : ge y x = true) : insD ge (y :: q) x = y :: insD ge q x := by
  unfold insD
  simp [h]
theorem insD_stop {ge : Itm → Itm → Bool} {y x : Itm} {q : List Itm} (h : ge y x = false) : insD ge (y :: q) x = x :: y :: q := by
  unfold insD
  simp [h]
theorem sortD_take {ge : Itm → Itm → Bool} {l : List Itm} {k : Nat} (h : k < l.length) : sortD ge (l.take (k + 1)) = insD ge (sortD ge (l.take k)) l[k] := by
  unfold sortD
  rw [List.take_succ_eq_append_getElem h, List.foldl_append]
  rfl

set_option maxHeartbeats 3200000 in
set_option maxRecDepth 100000 in
theorem falling_any (v : Value) (xs : List Itm) (w : World) (h : Items w v xs) (hn : xs.length ≤ 1000) :
    Calls Try.prog 86 #[v] w (FreshI (sortD geN xs) w) := by
  have HOK := Lib.hid h.ok
  obtain ⟨ao, acap, rfl, hlc, hcm, hok, hcell⟩ := h
  have HC := Lib.hid hcell
  have hown0 := World.ownsRow_lit (base := w.heap.size) (e := 30) (size := 2) w #[] 0 (Nat.le_refl _) (by unfold maxLen; omega) rfl
  clear hcell hok
  go_enter Try.func86, Try.ntmps86
  go_wp2
  go_loopw [3, 4] (fun x i wr => ∃ (k g cap : Nat), k ≤ xs.length ∧ i = .int .i64 k ∧ x = .slice (some ⟨g, 0, none⟩) k cap ∧ Hid (wr.ownsRow w.heap.size 30 2 (.slice (some ⟨g, 0, none⟩) k cap) k (cellsI (sortD geN (xs.take k)))) ∧ Hid (Below w.heap.size w wr) ∧ w.heap.size < wr.heap.size) (fun _ i _ => xs.length - (intOf i).toNat)
  case atStart => exact ⟨0, w.heap.size, 0, Nat.zero_le _, rfl, rfl, hown0, (Below.refl _ _).alloc (Nat.le_refl _) _, by simp⟩
  case round =>
    clear hown0
    obtain ⟨i, g, cap, hi, rfl, rfl, HROW, HB, hsz⟩ := hrel
    by_cases hlt : i < xs.length
    · obtain ⟨b, o, rfl, hb, h1, h2⟩ := HC.out i hlt
      have c1 := (HB.out.cell (p := ⟨b, _, none⟩) hb).trans h1
      have c2 := (HB.out.cell (p := ⟨b, _, none⟩) hb).trans h2
      have HSN := Lib.hid (sortD_take (ge := geN) hlt)
      have hxk := HOK.out _ (List.getElem_mem hlt)
      have HPOK : Hid (okI (sortD geN (xs.take i))) := okI_perm (fun y hy => HOK.out y (List.mem_of_mem_take hy)) (sortD_perm _)
      have HPL : Hid ((sortD geN (xs.take i)).length = i) := by
        show _ = _
        rw [(sortD_perm _).length_eq]
        simp
        omega
      clear h1 h2
      generalize sortD geN (xs.take i) = p at *
      obtain ⟨y, hy⟩ : ∃ y, xs[i] = y := ⟨_, rfl⟩
      rw [hy] at c1 c2 hxk HSN
      clear hy
      have hci : i ≤ cap := by
        obtain ⟨_, _, e, h3, _⟩ := own_slice HROW.out
        simp only [Value.slice.injEq] at e
        omega
      have hcm2 : cap ≤ 9223372036854775807 := by
        obtain ⟨_, _, e, _, h3⟩ := own_slice HROW.out
        simp only [Value.slice.injEq] at e
        omega
      have HIT : Hid (Items wr (.slice (some ⟨g, 0, none⟩) i cap) p) := OwnI.items ⟨by rw [HPL.out]; exact HROW.out, HPOK.out⟩
      go_wp2_with fail
      go_loopw [5] (fun q wr' => ∃ k : Nat, k ≤ i ∧ q = .int .i64 k ∧ Hid (insD geN p y = p.take k ++ insD geN (p.drop k) y) ∧ Hid (∃ n, wr' = wr.drewN n)) (fun q _ => i - (intOf q).toNat)
      case atStart => exact ⟨0, Nat.zero_le _, rfl, by unfold Hid; simp, ⟨0, rfl⟩⟩
      case round =>
        obtain ⟨k, hk, rfl, HI, HW⟩ := hrel
        obtain ⟨nw, hnw⟩ := HW.out
        subst hnw
        by_cases hki : k < i
        · have hkp : k < p.length := by rw [HPL.out]; exact hki
          obtain ⟨b3, o3, _, e3, _, _, _, d1, d2⟩ := HIT.out.at hkp
          simp only [Value.slice.injEq, Option.some.injEq, Addr.mk.injEq, and_true] at e3
          obtain ⟨⟨rfl, rfl⟩, -, -⟩ := e3
          have d1' : wr.cell? ⟨g, k * 2, none⟩ = some (.string p[k].1) := by rw [Nat.zero_add] at d1; exact d1
          have d2' : wr.cell? ⟨g, k * 2 + 1, none⟩ = some (.int .i64 p[k].2) := by rw [Nat.zero_add] at d2; exact d2
          have hkz : (k : Int) < (i : Int) := by omega
          have hlz : (i : Int) < (xs.length : Int) := by omega
          by_cases hge : geN p[k] y = true
          · have HI2 : Hid (insD geN p y = p.take (k + 1) ++ insD geN (p.drop (k + 1)) y) := by
              unfold Hid
              rw [HI.out, List.drop_eq_getElem_cons hkp, insD_go hge, List.take_succ_eq_append_getElem hkp, List.append_assoc]
              rfl
            have hge1 : y.2 ≤ p[k].2 := of_decide_eq_true hge
            clear hge d1 d2
            go_wp2_with fail
            go_quiet (fail)
            go_wp2
            go_roundw
            case rel => exact ⟨k + 1, by omega, by go_num, HI2, ⟨_, rfl⟩⟩
            case measure => simp [intOf]; omega
          · have HI2 : Hid (insD geN p y = p.take k ++ y :: p.drop k) := by
              unfold Hid
              rw [HI.out, List.drop_eq_getElem_cons hkp, insD_stop (by simpa using hge)]
            have hge1 : p[k].2 < y.2 := by unfold geN at hge; simp at hge; exact hge
            clear hge d1 d2
            go_wp2_with fail
            go_quiet (fail)
            obtain ⟨wx, hwx⟩ : ∃ wx, wx = (wr.drewN nw).drewN nq := ⟨_, rfl⟩
            have e1 : wx.cell? ⟨b, o + i * 2, none⟩ = some (.string y.1) := by rw [hwx]; exact c1
            have e2 : wx.cell? ⟨b, o + i * 2 + 1, none⟩ = some (.int .i64 y.2) := by rw [hwx]; exact c2
            have HBx : Hid (Below w.heap.size w wx) := by unfold Hid; rw [hwx]; exact HB.out.trans ((drewN_belows (w' := (wr.drewN nw).drewN nq) ⟨nw + nq, (by simp [World.drewN, Nat.add_assoc])⟩).mono HB.out.size)
            have HIx : Hid (Items wx (.slice (some ⟨g, 0, none⟩) i cap) p) := by unfold Hid; rw [hwx]; exact HIT.out
            have HT := Lib.hid (HIx.out.take (k := k) (by rw [HPL.out]; exact hk))
            have HLB : Hid (b < wx.heap.size) := Nat.lt_of_lt_of_le hb HBx.out.size
            have HTL : Hid ((p.take k).length = k) := by show _ = _; rw [List.length_take, HPL.out]; omega
            have HDL : Hid ((p.drop k).length = i - k) := by show _ = _; rw [List.length_drop, HPL.out]
            obtain ⟨A, hA, HD⟩ : ∃ A, (if cap = k then some ⟨g, 0, none⟩ else some ⟨g, k * 2, none⟩ : Option Addr) = A ∧ Hid (Items wx (.slice A (i - k) (cap - k)) (p.drop k)) := by
              refine ⟨_, rfl, ?_⟩
              unfold Hid
              by_cases hc : cap = k
              · rw [if_pos hc]; subst hc; exact HIx.out.dropAll (by omega)
              · rw [if_neg hc]
                have := HIx.out.drop (k := k) hk
                rw [Nat.zero_add] at this
                exact this
            have hkc : k ≤ cap := by omega
            have hkz2 : (k : Int) ≤ (i : Int) := by omega
            have hlz2 : (i : Int) < (xs.length : Int) := by omega
            have WXL : Hid (wr.heap.size ≤ wx.heap.size) := by unfold Hid; rw [hwx]; exact Nat.le_refl _
            rw [← hwx]
            clear hwx c1 c2
            have HI3 : Hid (i + 1 ≤ 1000) := by show _ ≤ _; omega
            go_wp2_with fail
            go_region_held3 (fun w' : World => (w'.cell? ⟨b, o + i * 2, none⟩ = some (.string y.1) ∧ w'.cell? ⟨b, o + i * 2 + 1, none⟩ = some (.int .i64 y.2)) ∧ Below wx.heap.size wx w')
              (first | exact ⟨⟨e1, e2⟩, (Below.refl _ _).drew⟩ | assumption | exact hS2 | exact Two.alloc (by assumption) HLB.out _ | exact hS3 | exact hS4)
              (first
                | (go_at_call 113; refine (copyItems_any _ (p.take k) _ (Items.mono HT.out (below_of (by assumption)) (Nat.le_refl _)) (by rw [HTL.out]; omega)).mono ?_; rintro e w1 ⟨v1, rfl, ho1, hb1⟩; have hS2 := Two.go (by assumption) HLB.out hb1)
                | (refine step_append_items _ rfl (.tmp 35) (.tmp 40) rfl _ v1 _ _ (by simp [Act.eval]) (ho1.1.alloc _) (.slice (some ⟨w1.heap.size, 0, none⟩) 1 1) [y] (by simp [Act.eval]) (Items_one _ _ _ _ hxk.1 hxk.2) (by rw [HTL.out]; omega) (by simp) (size_alloc_le hb1.size _) ?_; intro v2 w2 hown2 hgrow2; have hS3 := Two.grown (Two.alloc hS2 HLB.out _) HLB.out hgrow2 (fun j hj => (ho1.1.lt j hj).1))
                | (refine step_append_items _ rfl (.tmp 35) (.tmp 40) rfl _ v1 _ _ (by simp [Act.eval]) ho1.1 (.slice (some ⟨wx.heap.size, 0, none⟩) 1 1) [y] (by simp [Act.eval]) (Items.mono (Items_one wx.drew _ _ _ hxk.1 hxk.2) hb1 (Nat.le_refl _)) (by rw [HTL.out]; omega) (by simp) hb1.size ?_; intro v2 w2 hown2 hgrow2; have hS3 := Two.grown hS2 HLB.out hgrow2 (fun j hj => Nat.le_trans (size_alloc_le (Nat.le_refl _) _) (ho1.1.lt j hj).1))
                | (refine step_append_items _ rfl (.tmp 41) (.tmp 44) rfl wx.heap.size v2 _ _ (by simp [Act.eval]) (by first | exact hown2 | exact ownsRow_base hown2 (size_alloc_le (Nat.le_refl _) _)) (.slice A (i - k) (cap - k)) (p.drop k) (by simp [Act.eval]) (Items.mono HD.out hS3.2 (Nat.le_refl _)) (by rw [HTL.out]; simp; omega) (by rw [HDL.out]; omega) hS3.2.size ?_; intro v3 w3 hown3 hgrow3; have hS4 := Two.grown hS3 HLB.out hgrow3 (fun j hj => (World.ownsRow.lt (by first | exact hown2 | exact ownsRow_base hown2 (size_alloc_le (Nat.le_refl _) _)) j hj).1)))
            all_goals
              have HR3 : Hid (w3.ownsRow w.heap.size 30 2 v3 (i + 1) (cellsI (sortD geN (xs.take (i + 1))))) := by
                have e9 : (p.take k).length + [y].length + (p.drop k).length = i + 1 := by rw [HTL.out, HDL.out]; simp; omega
                have e8 : cellsI (p.take k) ++ cellsI [y] ++ cellsI (p.drop k) = cellsI (p.take k ++ y :: p.drop k) := by simp [cellsI]
                have := ownsRow_base hown3 HBx.out.size
                unfold Hid
                rw [HSN.out, HI2.out, ← e8, ← e9]
                exact this
              have HB3 : Hid (Below w.heap.size w w3) := HBx.out.trans (hS4.2.mono HBx.out.size)
              have hs3 : w.heap.size < w3.heap.size := Nat.lt_of_lt_of_le (Nat.lt_of_lt_of_le hsz WXL.out) hS4.2.size
              obtain ⟨g3, cap3, rfl, _, _⟩ := own_shape HR3.out (by omega)
              clear hown2 hown3 hgrow2 hgrow3 hS2 hS3 hS4 hb1 ho1 e1 e2
              go_wp2
              go_roundw
              case rel => exact ⟨i + 1, g3, cap3, by omega, by go_num, rfl, HR3, HB3, hs3⟩
              case measure => simp [intOf]; omega
        · have hkz' : ¬ (k : Int) < (i : Int) := by omega
          have HI2 : Hid (insD geN p y = p.take k ++ y :: p.drop k) := by
            unfold Hid
            rw [HI.out, List.drop_eq_nil_of_le (by rw [HPL.out]; omega)]
            rfl
          go_wp2_with fail
          go_quiet (fail)
          obtain ⟨wx, hwx⟩ : ∃ wx, wx = (wr.drewN nw).drewN nq := ⟨_, rfl⟩
          have e1 : wx.cell? ⟨b, o + i * 2, none⟩ = some (.string y.1) := by rw [hwx]; exact c1
          have e2 : wx.cell? ⟨b, o + i * 2 + 1, none⟩ = some (.int .i64 y.2) := by rw [hwx]; exact c2
          have HBx : Hid (Below w.heap.size w wx) := by unfold Hid; rw [hwx]; exact HB.out.trans ((drewN_belows (w' := (wr.drewN nw).drewN nq) ⟨nw + nq, (by simp [World.drewN, Nat.add_assoc])⟩).mono HB.out.size)
          have HIx : Hid (Items wx (.slice (some ⟨g, 0, none⟩) i cap) p) := by unfold Hid; rw [hwx]; exact HIT.out
          have HT := Lib.hid (HIx.out.take (k := k) (by rw [HPL.out]; exact hk))
          have HLB : Hid (b < wx.heap.size) := Nat.lt_of_lt_of_le hb HBx.out.size
          have HTL : Hid ((p.take k).length = k) := by show _ = _; rw [List.length_take, HPL.out]; omega
          have HDL : Hid ((p.drop k).length = i - k) := by show _ = _; rw [List.length_drop, HPL.out]
          obtain ⟨A, hA, HD⟩ : ∃ A, (if cap = k then some ⟨g, 0, none⟩ else some ⟨g, k * 2, none⟩ : Option Addr) = A ∧ Hid (Items wx (.slice A (i - k) (cap - k)) (p.drop k)) := by
            refine ⟨_, rfl, ?_⟩
            unfold Hid
            by_cases hc : cap = k
            · rw [if_pos hc]; subst hc; exact HIx.out.dropAll (by omega)
            · rw [if_neg hc]
              have := HIx.out.drop (k := k) hk
              rw [Nat.zero_add] at this
              exact this
          have hkc : k ≤ cap := by omega
          have hkz2 : (k : Int) ≤ (i : Int) := by omega
          have hlz2 : (i : Int) < (xs.length : Int) := by omega
          have WXL : Hid (wr.heap.size ≤ wx.heap.size) := by unfold Hid; rw [hwx]; exact Nat.le_refl _
          rw [← hwx]
          clear hwx c1 c2
          have HI3 : Hid (i + 1 ≤ 1000) := by show _ ≤ _; omega
          go_wp2_with fail
          go_region_held3 (fun w' : World => (w'.cell? ⟨b, o + i * 2, none⟩ = some (.string y.1) ∧ w'.cell? ⟨b, o + i * 2 + 1, none⟩ = some (.int .i64 y.2)) ∧ Below wx.heap.size wx w')
            (first | exact ⟨⟨e1, e2⟩, (Below.refl _ _).drew⟩ | assumption | exact hS2 | exact Two.alloc (by assumption) HLB.out _ | exact hS3 | exact hS4)
            (first
              | (go_at_call 113; refine (copyItems_any _ (p.take k) _ (Items.mono HT.out (below_of (by assumption)) (Nat.le_refl _)) (by rw [HTL.out]; omega)).mono ?_; rintro e w1 ⟨v1, rfl, ho1, hb1⟩; have hS2 := Two.go (by assumption) HLB.out hb1)
              | (refine step_append_items _ rfl (.tmp 35) (.tmp 40) rfl _ v1 _ _ (by simp [Act.eval]) (ho1.1.alloc _) (.slice (some ⟨w1.heap.size, 0, none⟩) 1 1) [y] (by simp [Act.eval]) (Items_one _ _ _ _ hxk.1 hxk.2) (by rw [HTL.out]; omega) (by simp) (size_alloc_le hb1.size _) ?_; intro v2 w2 hown2 hgrow2; have hS3 := Two.grown (Two.alloc hS2 HLB.out _) HLB.out hgrow2 (fun j hj => (ho1.1.lt j hj).1))
              | (refine step_append_items _ rfl (.tmp 35) (.tmp 40) rfl _ v1 _ _ (by simp [Act.eval]) ho1.1 (.slice (some ⟨wx.heap.size, 0, none⟩) 1 1) [y] (by simp [Act.eval]) (Items.mono (Items_one wx.drew _ _ _ hxk.1 hxk.2) hb1 (Nat.le_refl _)) (by rw [HTL.out]; omega) (by simp) hb1.size ?_; intro v2 w2 hown2 hgrow2; have hS3 := Two.grown hS2 HLB.out hgrow2 (fun j hj => Nat.le_trans (size_alloc_le (Nat.le_refl _) _) (ho1.1.lt j hj).1))
              | (refine step_append_items _ rfl (.tmp 41) (.tmp 44) rfl wx.heap.size v2 _ _ (by simp [Act.eval]) (by first | exact hown2 | exact ownsRow_base hown2 (size_alloc_le (Nat.le_refl _) _)) (.slice A (i - k) (cap - k)) (p.drop k) (by simp [Act.eval]) (Items.mono HD.out hS3.2 (Nat.le_refl _)) (by rw [HTL.out]; simp; omega) (by rw [HDL.out]; omega) hS3.2.size ?_; intro v3 w3 hown3 hgrow3; have hS4 := Two.grown hS3 HLB.out hgrow3 (fun j hj => (World.ownsRow.lt (by first | exact hown2 | exact ownsRow_base hown2 (size_alloc_le (Nat.le_refl _) _)) j hj).1)))
          all_goals
            have HR3 : Hid (w3.ownsRow w.heap.size 30 2 v3 (i + 1) (cellsI (sortD geN (xs.take (i + 1))))) := by
              have e9 : (p.take k).length + [y].length + (p.drop k).length = i + 1 := by rw [HTL.out, HDL.out]; simp; omega
              have e8 : cellsI (p.take k) ++ cellsI [y] ++ cellsI (p.drop k) = cellsI (p.take k ++ y :: p.drop k) := by simp [cellsI]
              have := ownsRow_base hown3 HBx.out.size
              unfold Hid
              rw [HSN.out, HI2.out, ← e8, ← e9]
              exact this
            have HB3 : Hid (Below w.heap.size w w3) := HBx.out.trans (hS4.2.mono HBx.out.size)
            have hs3 : w.heap.size < w3.heap.size := Nat.lt_of_lt_of_le (Nat.lt_of_lt_of_le hsz WXL.out) hS4.2.size
            obtain ⟨g3, cap3, rfl, _, _⟩ := own_shape HR3.out (by omega)
            clear hown2 hown3 hgrow2 hgrow3 hS2 hS3 hS4 hb1 ho1 e1 e2
            go_wp2
            go_roundw
            case rel => exact ⟨i + 1, g3, cap3, by omega, by go_num, rfl, HR3, HB3, hs3⟩
            case measure => simp [intOf]; omega
    · obtain rfl : i = xs.length := by omega
      have hr := HROW.out
      rw [List.take_length] at hr
      have HR := Lib.hid hr
      clear hr
      go_wp2
      go_ret
      exact ⟨_, rfl, ⟨by rw [(sortD_perm (ge := geN) xs).length_eq]; exact HR.out, okI_perm HOK.out (sortD_perm _)⟩, HB.out⟩
end Go.Proofs.Ytmjcijhbhdfhdaa
/-
  SortKeys by the model.
-/
namespace Go.Proofs.Ytmjcijhbhdfhdaa
open Go.RowKit

def skD (l : List Itm) : List Itm := if validI l = true then sortD geK l else []

/-! ### both ways are one -/
theorem sort_numbers (l : List Itm) : sortR ltN l = sortD geN l := by
  refine (sort_same (lt := ltN) (ge := geN) (fun x y => ?_) (fun a b c h1 h2 => ?_) (fun a b => ?_) l).1
  · unfold geN ltN
    by_cases h : y.2 < x.2
    · rw [decide_eq_true h, decide_eq_false (by omega)]; rfl
    · rw [decide_eq_false h, decide_eq_true (by omega)]; rfl
  · unfold geN at *
    simp only [decide_eq_true_eq] at *
    omega
  · unfold geN
    simp only [decide_eq_true_eq]
    omega
def geL (y x : Itm) : Bool := !ltK x y
theorem uniq_pair {l : List Itm} (h : uniqI l = true) : l.Pairwise fun a b => a.1 ≠ b.1 := by
  induction l with
  | nil => exact List.Pairwise.nil
  | cons x r ih =>
    simp only [uniqI, Bool.and_eq_true, Bool.not_eq_true'] at h
    refine List.pairwise_cons.2 ⟨fun y hy e => ?_, ih h.2⟩
    have : hasI r x.1 = true := hasI_mem.2 ⟨y, hy, e.symm⟩
    rw [h.1] at this
    cases this
theorem insD_congr {ge ge' : Itm → Itm → Bool} {p : List Itm} {x : Itm} (h : ∀ y ∈ p, ge y x = ge' y x) : insD ge p x = insD ge' p x := by
  induction p with
  | nil => rfl
  | cons y p ih =>
    have h1 := h y (by simp)
    have h2 := ih fun z hz => h z (by simp [hz])
    cases hy : ge y x
    · rw [insD_stop hy, insD_stop (h1 ▸ hy)]
    · rw [insD_go hy, insD_go (h1 ▸ hy), h2]
theorem sortD_keys {l : List Itm} (hu : uniqI l = true) : sortD geK l = sortD geL l := by
  have hp := uniq_pair hu
  have : ∀ k, k ≤ l.length → sortD geK (l.take k) = sortD geL (l.take k) := by
    intro k
    induction k with
    | zero => intro _; simp; rfl
    | succ k ih =>
      intro hk
      rw [sortD_take (by omega), sortD_take (by omega), ih (by omega)]
      refine insD_congr fun y hy => ?_
      have hy' : y ∈ l.take k := (sortD_perm _).mem_iff.1 hy
      obtain ⟨j, hj, rfl⟩ := List.getElem_of_mem hy'
      rw [List.getElem_take]
      have hj' : j < k := by simp at hj; omega
      have hne := List.pairwise_iff_getElem.1 hp j k (by omega) (by omega) hj'
      unfold geK geL ltK
      cases h1 : keyLt (l[k]).1 (l[j]).1
      · cases h2 : keyLt (l[j]).1 (l[k]).1
        · exact absurd (key_total h2 h1) hne
        · rfl
      · rw [key_asymm h1]; rfl
  have := this l.length (Nat.le_refl _)
  rw [List.take_length] at this
  exact this
theorem sort_keys {l : List Itm} (hu : uniqI l = true) : sortR ltK l = sortD geK l := by
  rw [sortD_keys hu]
  refine (sort_same (lt := ltK) (ge := geL) (fun x y => rfl) (fun a b c h1 h2 => ?_) (fun a b => ?_) l).1
  · unfold geL ltK at *
    simp only [Bool.not_eq_true'] at *
    rw [← Bool.not_eq_true]
    intro h3
    cases h4 : keyLt b.1 c.1
    · have := key_total h4 h2
      rw [← this] at h3
      rw [h3] at h1
      cases h1
    · have := key_trans h4 h3
      rw [this] at h1
      cases h1
  · unfold geL ltK
    simp only [Bool.not_eq_true']
    cases h : keyLt b.1 a.1
    · exact .inl rfl
    · exact .inr (key_asymm h)
theorem sk_same (l : List Itm) : skD l = skL l := by
  unfold skD skL
  split
  · rename_i h
    rw [sort_keys (valid_uniq h)]
  · rfl

end Go.Proofs.Ytmjcijhbhdfhdaa
/-
  MostCommon, by the program and by the model.
-/
namespace Go.Proofs.Ytmjcijhbhdfhdaa
open Go.RowKit

theorem cells_take (l : List Itm) (k : Nat) : (cellsI l).take (k * 2) = cellsI (l.take k) := by
  induction l generalizing k with
  | nil => simp [cellsI]
  | cons x r ih =>
    cases k with
    | zero => simp [cellsI]
    | succ k =>
      have c : ∀ L : List Itm, cellsI (x :: L) = .string x.1 :: .int .i64 x.2 :: cellsI L := fun L => by simp [cellsI]
      rw [show (k + 1) * 2 = k * 2 + 1 + 1 by omega, List.take_succ_cons, c, c, List.take_succ_cons, List.take_succ_cons, ih]
theorem own_take {w : World} {B E cap : Nat} {ao : Option Addr} {l : List Itm} (h : w.ownsRow B E 2 (.slice ao l.length cap) l.length (cellsI l)) {k : Nat} (hk : k ≤ l.length) : w.ownsRow B E 2 (.slice ao k cap) k (cellsI (l.take k)) := by
  have hl : (cellsI (l.take k)).length = k * 2 := by rw [cellsI_length, List.length_take, Nat.min_eq_left hk]
  rcases h.2 with ⟨e, h0⟩ | ⟨g, cap', cur, e, hb, hg, hnc, hcm, hcs, htake⟩
  · simp only [Value.slice.injEq] at e
    obtain ⟨rfl, _, rfl⟩ := e
    obtain rfl : k = 0 := by omega
    exact World.ownsRow_nil _ _ _ _
  · simp only [Value.slice.injEq] at e
    obtain ⟨rfl, _, rfl⟩ := e
    refine ⟨hl, .inr ⟨g, cap, cur, rfl, hb, hg, by omega, hcm, hcs, ?_⟩⟩
    rw [← cells_take, ← htake, List.take_take, Nat.min_eq_left (by omega)]

set_option maxHeartbeats 800000 in
theorem MostCommon_any (v : Value) (xs : List Itm) (n : Int) (w : World) (h : Items w v xs) (hb : -9223372036854775808 ≤ n ∧ n ≤ 9223372036854775807) :
    Calls Try.prog 31 #[v, .int .i64 n] w (NewL (fun v => v) (mcL xs n) w) := by
  go_enter Try.func31, Try.ntmps31
  cases hv : validI xs
  all_goals
    have HV := Lib.hid hv
    clear hv
    go_wp2_with fail
    refine (Vi_v _ h HV.out).mono ?_
    rintro e w1 ⟨rfl, hb1⟩
  · go_wp2
    go_ret
    exact ⟨_, rfl, by rw [show mcL xs n = [] from if_neg (by rw [HV.out]; decide)]; exact OwnI_nil _ _ _, hb1⟩
  · have hl := valid_len HV.out
    go_wp2_with fail
    refine (slClone_any v xs w1 (h.mono hb1 (Nat.le_refl _)) (by omega)).mono ?_
    rintro e w2 ⟨v2, rfl, ho2, hb2⟩
    go_wp2_with fail
    refine (sortStable_any w2 ho2 hl).mono ?_
    rintro e w3 ⟨rfl, hr3, hb3⟩
    obtain ⟨ao, cap, rfl, hlc, hcm⟩ := own_slice ho2.1
    have HB := Lib.hid (hb1.trans ((hb2.trans hb3).mono hb1.size))
    have HOK := Lib.hid (okI_perm ho2.2 (sortR_perm ltN xs))
    have HSL := Lib.hid (sortR_length ltN xs)
    have HR : Hid (w3.ownsRow w.heap.size 30 2 (.slice ao (sortR ltN xs).length cap) (sortR ltN xs).length (cellsI (sortR ltN xs))) := by
      unfold Hid
      rw [HSL.out]
      exact ownsRow_base hr3 hb1.size
    have HG := Lib.hid (show mcL xs n = mcI xs n from if_pos HV.out)
    clear hr3 hb1 hb2 hb3 ho2
    by_cases h0 : n < 0
    · have HM : Hid (mcI xs n = sortR ltN xs) := if_neg (by omega)
      go_wp2
      go_ret
      refine ⟨_, rfl, ?_, HB.out⟩
      rw [HG.out, HM.out]
      exact ⟨by have := HR.out; rw [HSL.out] at this ⊢; exact this, HOK.out⟩
    · by_cases h1 : (xs.length : Int) < n
      · have HM : Hid (mcI xs n = sortR ltN xs) := if_neg (by omega)
        go_wp2
        go_ret
        refine ⟨_, rfl, ?_, HB.out⟩
        rw [HG.out, HM.out]
        exact ⟨by have := HR.out; rw [HSL.out] at this ⊢; exact this, HOK.out⟩
      · obtain ⟨k, rfl⟩ : ∃ k : Nat, n = k := ⟨n.toNat, by omega⟩
        have hk : k ≤ xs.length := by omega
        have hkc : k ≤ cap := by omega
        have HM : Hid (mcI xs k = (sortR ltN xs).take k) := by
          unfold Hid mcI
          rw [if_pos (by omega), Int.toNat_natCast]
        go_wp2
        go_ret
        refine ⟨_, rfl, ?_, HB.out⟩
        rw [HG.out, HM.out]
        have := own_take HR.out (k := k) (by rw [HSL.out]; exact hk)
        exact ⟨by rw [List.length_take, HSL.out, Nat.min_eq_left hk]; exact this, fun x hx => HOK.out x (List.mem_of_mem_take hx)⟩

set_option maxHeartbeats 800000 in
theorem sMostCommon_any (v : Value) (xs : List Itm) (n : Int) (w : World) (h : Items w v xs) (hb : -9223372036854775808 ≤ n ∧ n ≤ 9223372036854775807) :
    Calls Try.prog 32 #[v, .int .i64 n] w (NewL (fun v => v) (mcL xs n) w) := by
  go_enter Try.func32, Try.ntmps32
  cases hv : validI xs
  all_goals
    have HV := Lib.hid hv
    clear hv
    go_wp2_with fail
    refine (sVi_v _ h HV.out).mono ?_
    rintro e w1 ⟨rfl, hb1⟩
  · go_wp2
    go_ret
    exact ⟨_, rfl, by rw [show mcL xs n = [] from if_neg (by rw [HV.out]; decide)]; exact OwnI_nil _ _ _, hb1⟩
  · have hl := valid_len HV.out
    go_wp2_with fail
    refine (falling_any v xs w1 (h.mono hb1 (Nat.le_refl _)) (by omega)).mono ?_
    rintro e w2 ⟨v2, rfl, ho2, hb2⟩
    rw [← sort_numbers] at ho2
    have HSL := Lib.hid (sortR_length ltN xs)
    have HOW := Lib.hid (ho2.base (B' := w.heap.size) hb1.size)
    obtain ⟨ao, cap, rfl, hlc, hcm⟩ := own_slice ho2.1
    rw [HSL.out] at hlc
    have HR : Hid (w2.ownsRow w.heap.size 30 2 (.slice ao (sortR ltN xs).length cap) (sortR ltN xs).length (cellsI (sortR ltN xs))) := HOW.out.1
    rw [HSL.out]
    have HB := Lib.hid (hb1.trans (hb2.mono hb1.size))
    have HG := Lib.hid (show mcL xs n = mcI xs n from if_pos HV.out)
    clear hb1 hb2 ho2
    by_cases h0 : n < 0
    · have HM : Hid (mcI xs n = sortR ltN xs) := if_neg (by omega)
      go_wp2
      go_ret
      refine ⟨_, rfl, ?_, HB.out⟩
      rw [HG.out, HM.out]
      exact ⟨by have := HR.out; rw [HSL.out] at this ⊢; exact this, HOW.out.2⟩
    · by_cases h1 : (xs.length : Int) < n
      · have HM : Hid (mcI xs n = sortR ltN xs) := if_neg (by omega)
        go_wp2
        go_ret
        refine ⟨_, rfl, ?_, HB.out⟩
        rw [HG.out, HM.out]
        exact ⟨by have := HR.out; rw [HSL.out] at this ⊢; exact this, HOW.out.2⟩
      · obtain ⟨k, rfl⟩ : ∃ k : Nat, n = k := ⟨n.toNat, by omega⟩
        have hk : k ≤ xs.length := by omega
        have hkc : k ≤ cap := by omega
        have HM : Hid (mcI xs k = (sortR ltN xs).take k) := by
          unfold Hid mcI
          rw [if_pos (by omega), Int.toNat_natCast]
        go_wp2
        go_ret
        refine ⟨_, rfl, ?_, HB.out⟩
        rw [HG.out, HM.out]
        have := own_take HR.out (k := k) (by rw [HSL.out]; exact hk)
        exact ⟨by rw [List.length_take, HSL.out, Nat.min_eq_left hk]; exact this, fun x hx => HOW.out.2 x (List.mem_of_mem_take hx)⟩
end Go.Proofs.Ytmjcijhbhdfhdaa
