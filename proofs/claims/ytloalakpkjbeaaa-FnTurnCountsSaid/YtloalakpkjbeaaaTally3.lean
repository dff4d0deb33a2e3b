/-
  Sums made by the program, and what is positive of them.
-/
import Derived.Test.YtloalakpkjbeaaaTally2
namespace Go.Proofs.Ytloalakpkjbeaaa
open Go.RowKit

theorem sumOf_any (K : Nat → Prop) (va vb : Value) (a b : List Itm) (m : Int) (w : World) (hK : ∀ k, K k → k < w.heap.size) (ha : Items w va a) (hb : Items w vb b)
    (hka : InK K va) (hkb : InK K vb) (hsa : smallI a 1) (hsb : smallI b m) :
    Calls Try.prog 63 #[va, vb, .int .i64 m] w fun e w' => ∃ t, e = .returned (.pointer (some ⟨t, 0, none⟩)) ∧ TallyAt K w' t (sumL a b m) ∧ Keeps K w w' := by
  go_enter Try.func63, Try.ntmps63
  go_wp2_with fail
  refine (newTally_any K w hK).mono ?_
  rintro e w1 ⟨t, rfl, hT, hk1⟩
  go_wp2_with fail
  refine (sum_any K t [] va vb a b m w1 (fun j hj => Nat.lt_of_lt_of_le (hK j hj) hk1.size) hT (ha.keeps hk1 hka) (hb.keeps hk1 hkb) hka hkb hsa hsb).mono ?_
  rintro e w2 ⟨rfl, hT2, hk2⟩
  go_wp2
  go_ret
  exact ⟨t, rfl, hT2, hk1.trans hk2⟩

/-! ### what a sum holds -/
theorem addAll_mem (b : List Itm) (m : Int) : ∀ (t : List Itm) (s : ByteArray), hasI (addAll t b m) s = (hasI t s || hasI b s) := by
  induction b with
  | nil => intro t s; simp [addAll, hasI]
  | cons x r ih =>
    intro t s
    have e : addAll t (x :: r) m = addAll (putI t x.1 (cnt t x.1 + x.2 * m)) r m := rfl
    rw [e, ih, hasI_putI]
    simp only [hasI]
    cases decide (x.1 = s) <;> simp

theorem okI_of {l : List Itm} (hu : uniqI l = true) (hk : ∀ s, hasI l s = true → s.size ≤ 9223372036854775807) (hc : cntLe l 9000000000000000000) : okI l := by
  intro x hx
  obtain ⟨k, hk', rfl⟩ := List.mem_iff_getElem.1 hx
  have h1 := hk l[k].1 (hasI_mem.2 ⟨_, List.getElem_mem hk', rfl⟩)
  have h2 := hc l[k].1
  rw [cnt_at hk' hu] at h2
  exact ⟨h1, by omega, by omega⟩

theorem sumL_le {a b : List Itm} {m : Int} (hsa : smallI a 1) (hsb : smallI b m) : cntLe (sumL a b m) 80000000000 := by
  have h1 := addAll_le a 1 hsa.2 [] 0 cntLe_nil
  have h2 := addAll_le b m hsb.2 _ _ h1
  have h3 := hsa.1
  have h4 := hsb.1
  intro s
  have := h2 s
  unfold sumL
  omega
theorem sumL_uniq (a b : List Itm) (m : Int) : uniqI (sumL a b m) = true := uniqI_addAll b m _ (uniqI_addAll a 1 [] rfl)
theorem sumL_length {a b : List Itm} {m : Int} (hsa : smallI a 1) (hsb : smallI b m) : (sumL a b m).length ≤ 80 := by
  have h1 := addAll_length a 1 []
  have h2 := addAll_length b m (addAll [] a 1)
  have h3 := hsa.1
  have h4 := hsb.1
  unfold sumL
  simp at h1
  omega
theorem sumL_ok {a b : List Itm} {m : Int} (hsa : smallI a 1) (hsb : smallI b m) (ha : okI a) (hb : okI b) : okI (sumL a b m) := by
  refine okI_of (sumL_uniq a b m) (fun s hs => ?_) (fun s => by have := sumL_le hsa hsb s; omega)
  unfold sumL at hs
  rw [addAll_mem, addAll_mem] at hs
  simp only [hasI, Bool.false_or, Bool.or_eq_true] at hs
  rcases hs with hs | hs
  · obtain ⟨x, hx, rfl⟩ := hasI_mem.1 hs; exact (ha x hx).1
  · obtain ⟨x, hx, rfl⟩ := hasI_mem.1 hs; exact (hb x hx).1
def PosPost (K : Nat → Prop) (t : Nat) (l : List Itm) (w : World) (e : Ending) (w' : World) : Prop :=
  ∃ v, e = .returned v ∧ OwnI 39 w' w.heap.size v l ∧ TallyAt K w' t l ∧ Keeps K w w'

theorem TallyAt.below {K : Nat → Prop} {w w' : World} {t : Nat} {l : List Itm} (h : TallyAt K w t l) {C : Nat} (hb : Below C w w') (hC : w.heap.size ≤ C) : TallyAt K w' t l := by
  obtain ⟨v, mb, h1, h2, h3, h4, h5, h6⟩ := h
  exact ⟨v, mb, (hb.block t (Nat.lt_of_lt_of_le (lt_of_block h1) hC)).trans h1, h2, h3, h4, ownsRow_below h5 hb hC, h6.below hb hC⟩

theorem positive_any (K : Nat → Prop) (t : Nat) (l : List Itm) (va vb : Value) (a b : List Itm) (m : Int) (w : World) (hK : ∀ k, K k → k < w.heap.size) (h : TallyAt K w t l) (ha : Items w va a) (hb : Items w vb b)
    (hka : InK K va) (hkb : InK K vb) (hsa : smallI a 1) (hsb : smallI b m) :
    Calls Try.prog 76 #[.pointer (some ⟨t, 0, none⟩), va, vb, .int .i64 m] w (PosPost K t (posI (sumL a b m)) w) := by
  have hok := sumL_ok hsa hsb ha.ok hb.ok
  have hlen := sumL_length hsa hsb
  go_enter Try.func76, Try.ntmps76
  go_wp2_with fail
  refine (sum_any K t l va vb a b m w hK h ha hb hka hkb hsa hsb).mono ?_
  rintro e w1 ⟨rfl, hT1, hk1⟩
  go_wp2_with fail
  refine (keepPos_any K t (sumL a b m) (fun n => decide (0 < n)) w1 (fun j hj => Nat.lt_of_lt_of_le (hK j hj) hk1.size) hT1 (by omega) hok isPositive_any).mono ?_
  rintro e w2 ⟨rfl, hT2, hk2⟩
  go_wp2_with fail
  refine (items_any K t _ w2 hT2 (Nat.le_trans (List.length_filter_le _ _) (by omega)) (okI_filter hok _)).mono ?_
  rintro e w3 ⟨v, rfl, ho3, hb3⟩
  go_wp2
  go_ret
  have h12 := hk1.trans hk2
  exact ⟨v, rfl, ho3.base h12.size, hT2.below hb3 (Nat.le_refl _), h12.trans (Keeps.of_below hb3 (fun k hk => Nat.lt_of_lt_of_le (hK k hk) h12.size))⟩
end Go.Proofs.Ytloalakpkjbeaaa
