/-
  Pop.
-/
import Derived.Test.YtmjcijhbhdfhdaaP12
import Derived.Test.YtmjcijhbhdfhdaaP13
import Derived.Test.YtmjcijhbhdfhdaaP18
/-
  An item taken off an end, by the model and by the program.
-/
namespace Go.Proofs.Ytmjcijhbhdfhdaa
open Go.RowKit

def NewX (l : List Itm) (x : Itm) (b : Bool) : World → Ending → World → Prop := NewL (fun v => .tuple #[v, .agg #[.string x.1, .int .i64 x.2], .bool b]) l
theorem ret_lxb {a b : Value} {x y : Itm} {c d : Bool} (h : a = b) (h1 : x = y) (h' : c = d) : Ending.returned (.tuple #[a, .agg #[.string x.1, .int .i64 x.2], .bool c]) = .returned (.tuple #[b, .agg #[.string y.1, .int .i64 y.2], .bool d]) := by rw [h, h1, h']
theorem okE_no {xs : List Itm} (h : validI xs = false ∨ xs = []) : okE xs = false := by
  unfold okE
  rcases h with h | h
  · rw [h]; rfl
  · rw [h]; simp
theorem pop_no {xs : List Itm} {last : Bool} (h : okE xs = false) : popL xs last = [] ∧ popX xs last = zI := by
  unfold popL popX
  rw [h]
  exact ⟨rfl, rfl⟩
theorem pop_yes {xs : List Itm} {last : Bool} (hv : validI xs = true) (hn : xs ≠ []) : okE xs = true ∧ popL xs last = popI xs last ∧ popX xs last = endI xs last := by
  have e : okE xs = true := by
    unfold okE
    rw [hv]
    cases xs with
    | nil => exact absurd rfl hn
    | cons x r => rfl
  unfold popL popX
  rw [e]
  exact ⟨rfl, rfl, rfl⟩
theorem pop_first {xs : List Itm} (h : 0 < xs.length) : xs.take 0 ++ xs.drop (0 + 1) = popI xs false ∧ xs[0] = endI xs false := by
  cases xs with
  | nil => simp at h
  | cons x r => exact ⟨rfl, rfl⟩
theorem pop_last {xs : List Itm} {k : Nat} (h : k < xs.length) (hk : k = xs.length - 1) : xs.take k ++ xs.drop (k + 1) = popI xs true ∧ xs[k] = endI xs true := by
  subst hk
  refine ⟨?_, ?_⟩
  · rw [List.drop_eq_nil_of_le (by omega), List.append_nil]
    show _ = xs.dropLast
    rw [List.dropLast_eq_take]
  · show _ = xs.getLastD zI
    rw [List.getLastD_eq_getLast?, List.getLast?_eq_getElem?, List.getElem?_eq_getElem h]
    rfl

theorem pop_le (xs : List Itm) (last : Bool) : (popL xs last).length ≤ 10000000 := by
  refine if_len (fun h => ?_)
  have hv : validI xs = true := by unfold okE at h; simp at h; exact h.1
  have hl := valid_len hv
  unfold popI
  cases last
  · simp; omega
  · simp; omega

set_option maxHeartbeats 1600000 in
set_option maxRecDepth 100000 in
theorem sPopItem_any (v : Value) (xs : List Itm) (last : Bool) (w : World) (h : Items w v xs) :
    Calls Try.prog 54 #[v, .bool last] w (NewX (popL xs last) (popX xs last) (okE xs) w) := by
  go_enter Try.func54, Try.ntmps54
  have HA : Hid (Below w.heap.size w (w.alloc (.cells #[.string ⟨#[]⟩, .int .i64 0] 30))) := (Below.refl _ _).alloc (Nat.le_refl _) _
  cases hv : validI xs
  all_goals
    have HV := Lib.hid hv
    clear hv
    go_wp2_with fail
    refine (sVi_v _ (h.mono HA.out (Nat.le_refl _)) HV.out).mono ?_
    rintro e w1 ⟨rfl, hb1⟩
    obtain ⟨hc, hf⟩ := bcell hb1
    simp at hc hf
    have c0 := hc w.heap.size 0 (by omega)
    have c1 := hc w.heap.size 1 (by omega)
    have f0 := hf w.heap.size 0 (by omega)
    have f1 := hf w.heap.size 1 (by omega)
    simp at c0 c1 f0 f1
    clear hc hf
  · have HP := Lib.hid (pop_no (last := last) (okE_no (.inl HV.out)))
    have HO := Lib.hid (okE_no (.inl HV.out))
    have hs1 := hb1.size
    simp at hs1
    go_wp2
    exact bodyPost_ret (v := .tuple #[.slice none 0 0, .agg #[.string ⟨#[]⟩, .int .i64 0], .bool false]) (by simp [results, Try.results54, go_sem, c0, c1]) rfl ⟨_, ret_lxb rfl HP.out.2.symm HO.out.symm, by rw [HP.out.1]; exact OwnI_nil _ _ _, ((HA.out.trans (hb1.mono (by simp))).setCell (Nat.le_refl _) _).setCell (Nat.le_refl _) _⟩
  · have hs1 := hb1.size
    simp at hs1
    by_cases hn : xs = []
    · have HP := Lib.hid (pop_no (last := last) (okE_no (.inr hn)))
      have HO := Lib.hid (okE_no (.inr hn))
      obtain ⟨ao, cap, rfl, hlc, hcm, _, _⟩ := h
      subst hn
      go_wp2
      exact bodyPost_ret (v := .tuple #[.slice none 0 0, .agg #[.string ⟨#[]⟩, .int .i64 0], .bool false]) (by simp [results, Try.results54, go_sem, c0, c1]) rfl ⟨_, ret_lxb rfl HP.out.2.symm HO.out.symm, by rw [HP.out.1]; exact OwnI_nil _ _ _, ((HA.out.trans (hb1.mono (by simp))).setCell (Nat.le_refl _) _).setCell (Nat.le_refl _) _⟩
    · have HP := Lib.hid (pop_yes (last := last) HV.out hn)
      have hlen : 0 < xs.length := List.length_pos_iff.2 hn
      have hl := valid_len HV.out
      have HB1 : Hid (Below w.heap.size w w1) := HA.out.trans (hb1.mono (by simp))
      have HI := Lib.hid (h.mono HB1.out (Nat.le_refl _))
      clear hb1 h hn
      obtain ⟨k, hk, HK⟩ : ∃ k : Nat, k < xs.length ∧ Hid (if last = true then k = xs.length - 1 else k = 0) := by
        cases last
        · exact ⟨0, hlen, by unfold Hid; rw [if_neg (by simp)]⟩
        · exact ⟨xs.length - 1, by omega, by unfold Hid; rw [if_pos rfl]⟩
      have HE : Hid (xs.take k ++ xs.drop (k + 1) = popI xs last ∧ xs[k] = endI xs last) := by
        have := HK.out
        cases last
        · rw [if_neg (by simp)] at this; subst this; exact pop_first hlen
        · rw [if_pos rfl] at this; exact pop_last hk this
      obtain ⟨b, o, cap, rfl, hlc, hcm, hb, d0, d1⟩ := HI.out.at hk
      rw [HE.out.2, ← HP.out.2.2] at d0 d1
      have HB := Lib.hid hb
      clear hb
      cases last
      all_goals
        have hk2 := HK.out
        simp at hk2
      · subst hk2
        simp only [Nat.zero_mul, Nat.add_zero] at d0 d1
        go_wp2_with fail
        go_region_law (first
          | (go_simp; go_at_call 103; refine (swithout_any _ xs 0 _ (Items.drew HI.out) hk (by omega)).mono ?_; rintro e w2 ⟨v2, rfl, ho2, hb2⟩; obtain ⟨hc, hf⟩ := bcell hb2; have d0' := (hc b o HB.out).trans d0; have d1' := (hc b (o + 1) HB.out).trans d1; have c0' := (hc w.heap.size 0 (by assumption)).trans c0; have c1' := (hc w.heap.size 1 (by assumption)).trans c1; have f0' := (hf w.heap.size 0 (by assumption)).trans f0; have f1' := (hf w.heap.size 1 (by assumption)).trans f1))
        all_goals go_wp2
        all_goals exact bodyPost_ret (v := .tuple #[v2, .agg #[.string (popX xs false).1, .int .i64 (popX xs false).2], .bool true]) (by simp [results, Try.results54, go_sem, Act.put, c0', c1']) rfl ⟨_, ret_lxb rfl rfl HP.out.1.symm, by
          rw [HP.out.2.1, ← HE.out.1]
          exact (ho2.past (((Keeps.refl _ _).past hs1 _).past hs1 _)).base HB1.out.size, ((HB1.out.trans ((Below.undrew hb2).mono HB1.out.size)).setCell (Nat.le_refl _) _).setCell (Nat.le_refl _) _⟩
      · have ej : (xs.length : Int) - 1 = (k : Int) := by omega
        have HLK := Lib.hid hk2
        clear hk2
        go_wp2_with fail
        go_region_law (first
          | (go_simp; go_at_call 103; refine (swithout_any _ xs k _ (Items.drew HI.out) hk (by omega)).mono ?_; rintro e w2 ⟨v2, rfl, ho2, hb2⟩; obtain ⟨hc, hf⟩ := bcell hb2; have d0' := (hc b (o + k * 2) HB.out).trans d0; have d1' := (hc b (o + k * 2 + 1) HB.out).trans d1; have c0' := (hc w.heap.size 0 (by assumption)).trans c0; have c1' := (hc w.heap.size 1 (by assumption)).trans c1; have f0' := (hf w.heap.size 0 (by assumption)).trans f0; have f1' := (hf w.heap.size 1 (by assumption)).trans f1))
        all_goals go_wp2
        all_goals exact bodyPost_ret (v := .tuple #[v2, .agg #[.string (popX xs true).1, .int .i64 (popX xs true).2], .bool true]) (by simp [results, Try.results54, go_sem, Act.put, c0', c1']) rfl ⟨_, ret_lxb rfl rfl HP.out.1.symm, by
          rw [HP.out.2.1, ← HE.out.1]
          exact (ho2.past (((Keeps.refl _ _).past hs1 _).past hs1 _)).base HB1.out.size, ((HB1.out.trans ((Below.undrew hb2).mono HB1.out.size)).setCell (Nat.le_refl _) _).setCell (Nat.le_refl _) _⟩
theorem pop_ring_first {ns : List Nod} {xs : List Itm} (h : its ns = xs) (hl : 0 < xs.length) : ∃ a x q, ns = (a, x) :: q ∧ its q = popI xs false ∧ x = endI xs false := by
  cases ns with
  | nil => subst h; simp at hl
  | cons n q => exact ⟨n.1, n.2, q, rfl, by subst h; rfl, by subst h; rfl⟩
theorem pop_ring_last {ns : List Nod} {xs : List Itm} (h : its ns = xs) (hl : 0 < xs.length) : ∃ p a x, ns = p ++ [(a, x)] ∧ its p = popI xs true ∧ x = endI xs true := by
  have hn : ns ≠ [] := by
    intro e
    subst e; subst h; simp at hl
  obtain ⟨p, n, rfl⟩ : ∃ p n, ns = p ++ [n] := ⟨ns.dropLast, ns.getLast hn, (List.dropLast_concat_getLast hn).symm⟩
  subst h
  refine ⟨p, n.1, n.2, rfl, ?_, ?_⟩
  · show its p = (its (p ++ [n])).dropLast
    rw [its_app]; simp
  · show n.2 = (its (p ++ [n])).getLastD zI
    rw [its_app]; simp
theorem lst_snoc (p : List Nod) (a rt : Nat) (x : Itm) : lstOr rt (p ++ [(a, x)]) = a := by rw [lstOr_app]; rfl

set_option maxHeartbeats 1600000 in
set_option maxRecDepth 100000 in
theorem PopItem_any (v : Value) (xs : List Itm) (last : Bool) (w : World) (h : Items w v xs) :
    Calls Try.prog 53 #[v, .bool last] w (NewX (popL xs last) (popX xs last) (okE xs) w) := by
  go_enter Try.func53, Try.ntmps53
  have HA : Hid (Below w.heap.size w (w.alloc (.cells #[.string ⟨#[]⟩, .int .i64 0] 30))) := (Below.refl _ _).alloc (Nat.le_refl _) _
  cases hv : validI xs
  all_goals
    have HV := Lib.hid hv
    clear hv
    go_wp2_with fail
    refine (Vi_v _ (h.mono HA.out (Nat.le_refl _)) HV.out).mono ?_
    rintro e w1 ⟨rfl, hb1⟩
    obtain ⟨hc, hf⟩ := bcell hb1
    simp at hc hf
    have c0 := hc w.heap.size 0 (by omega)
    have c1 := hc w.heap.size 1 (by omega)
    have f0 := hf w.heap.size 0 (by omega)
    have f1 := hf w.heap.size 1 (by omega)
    simp at c0 c1 f0 f1
    clear hc hf
  · have HP := Lib.hid (pop_no (last := last) (okE_no (.inl HV.out)))
    have HO := Lib.hid (okE_no (.inl HV.out))
    have hs1 := hb1.size
    simp at hs1
    go_wp2
    exact bodyPost_ret (v := .tuple #[.slice none 0 0, .agg #[.string ⟨#[]⟩, .int .i64 0], .bool false]) (by simp [results, Try.results53, go_sem, c0, c1]) rfl ⟨_, ret_lxb rfl HP.out.2.symm HO.out.symm, by rw [HP.out.1]; exact OwnI_nil _ _ _, ((HA.out.trans (hb1.mono (by simp))).setCell (Nat.le_refl _) _).setCell (Nat.le_refl _) _⟩
  · have hs1 := hb1.size
    simp at hs1
    by_cases hn : xs = []
    · have HP := Lib.hid (pop_no (last := last) (okE_no (.inr hn)))
      have HO := Lib.hid (okE_no (.inr hn))
      obtain ⟨ao, cap, rfl, hlc, hcm, _, _⟩ := h
      subst hn
      go_wp2
      exact bodyPost_ret (v := .tuple #[.slice none 0 0, .agg #[.string ⟨#[]⟩, .int .i64 0], .bool false]) (by simp [results, Try.results53, go_sem, c0, c1]) rfl ⟨_, ret_lxb rfl HP.out.2.symm HO.out.symm, by rw [HP.out.1]; exact OwnI_nil _ _ _, ((HA.out.trans (hb1.mono (by simp))).setCell (Nat.le_refl _) _).setCell (Nat.le_refl _) _⟩
    · have HP := Lib.hid (pop_yes (last := last) HV.out hn)
      have hlen : 0 < xs.length := List.length_pos_iff.2 hn
      have hl := valid_len HV.out
      have HB1 : Hid (Below w.heap.size w w1) := HA.out.trans (hb1.mono (by simp))
      have HI := Lib.hid (h.mono HB1.out (Nat.le_refl _))
      clear hb1 h hn
      obtain ⟨ao, cap, rfl, hlc, hcm, _, _⟩ := HI.out
      go_wp2_with fail
      refine (ringOf_any _ xs _ HI.out (by omega)).mono ?_
      rintro e w2 ⟨r, rt, ns, rfl, hns, hR, hb2⟩
      obtain ⟨hc, hf⟩ := bcell hb2
      have c0' := (hc w.heap.size 0 hs1).trans c0
      have c1' := (hc w.heap.size 1 hs1).trans c1
      have f0' := (hf w.heap.size 0 hs1).trans f0
      have f1' := (hf w.heap.size 1 hs1).trans f1
      have HR := Lib.hid hR
      have HB2 := Lib.hid (HB1.out.trans (hb2.mono HB1.out.size))
      have HKB : Hid (w1.heap.size ≤ w2.heap.size) := hb2.size
      clear hR hb2 hc hf c0 c1 f0 f1
      cases last
      · obtain ⟨a, x, q, rfl, hq, hx⟩ := pop_ring_first hns hlen
        have HQ := Lib.hid hq
        have HX := Lib.hid hx
        have hlq : ((a, x) :: q).length ≤ 8 := by rw [← its_len, hns]; exact hl
        clear hns hq hx
        go_wp2_with fail
        refine (show Calls Try.prog 107 #[.pointer (some ⟨r, 0, none⟩)] w2 (fun e w' => e = .returned (.pointer (some ⟨a, 0, none⟩)) ∧ w2 = w') from first_any HR.out).mono ?_
        rintro e w3 ⟨rfl, rfl⟩
        go_wp2_with fail
        refine (cut_any (l := []) (r2 := q) (a := a) (x := x) HR.out (by simp at hlq ⊢; omega)).mono ?_
        rintro e w3 ⟨rfl, hR3, ⟨⟨u1, u2, hN⟩, _, hKa, _⟩, hk3, hs3⟩
        have HR3 := Lib.hid (show RingAt _ w3.drew r rt q from RingAt.below hR3 (Below.refl _ _).drew)
        have c0 := (hk3.cell (a := ⟨w.heap.size, 0, none⟩) hs1).trans c0'
        have c1 := (hk3.cell (a := ⟨w.heap.size, 1, none⟩) hs1).trans c1'
        have f0 : w3.frozen? ⟨w.heap.size, 0, none⟩ = false := by
          rw [← f0']; unfold World.frozen?; rw [hk3.block w.heap.size hs1]
        have f1 : w3.frozen? ⟨w.heap.size, 1, none⟩ = false := by
          rw [← f1']; unfold World.frozen?; rw [hk3.block w.heap.size hs1]
        have cN := ndx_cells hN
        have d0 := cN.1
        have d1 := cN.2.1
        rw [HX.out, ← HP.out.2.2] at d0 d1
        have ha3 : a < w3.heap.size := World.block_lt_of_cell? _ _ d0
        have HB3 : Hid (Below w.heap.size w w3) := HB2.out.trans (hk3.below (fun k hk => Nat.lt_of_lt_of_le hk HB1.out.size))
        have hs13 : w.heap.size < w3.heap.size := by have := HKB.out; omega
        have hl3 : (q).length ≤ 8 := by simp at hlq ⊢; omega
        clear hR3 c0' c1' f0' f1' hk3 hs3 hN cN hKa
        go_wp2_with fail
        go_region_law (first
          | (go_simp; go_at_call 100; refine (values_any HR3.out (by omega)).mono ?_; rintro e w4 ⟨v4, rfl, ho4, hb4⟩; obtain ⟨hc, hf⟩ := bcell hb4; have d0' := (hc a 0 ha3).trans d0; have d1' := (hc a 1 ha3).trans d1; have c0' := (hc w.heap.size 0 hs13).trans c0; have c1' := (hc w.heap.size 1 hs13).trans c1; have f0' := (hf w.heap.size 0 hs13).trans f0; have f1' := (hf w.heap.size 1 hs13).trans f1))
        all_goals go_wp2
        all_goals exact bodyPost_ret (v := .tuple #[v4, .agg #[.string (popX xs false).1, .int .i64 (popX xs false).2], .bool true]) (by simp [results, Try.results53, go_sem, Act.put, c0', c1']) rfl ⟨_, ret_lxb rfl rfl HP.out.1.symm, by
          rw [HP.out.2.1, ← HQ.out]
          exact (ho4.past (((Keeps.refl _ _).past hs13 _).past hs13 _)).base HB3.out.size, ((HB3.out.trans ((Below.undrew hb4).mono HB3.out.size)).setCell (Nat.le_refl _) _).setCell (Nat.le_refl _) _⟩
      · obtain ⟨p, a, x, rfl, hq, hx⟩ := pop_ring_last hns hlen
        have HQ := Lib.hid hq
        have HX := Lib.hid hx
        have hlq : (p ++ [(a, x)]).length ≤ 8 := by rw [← its_len, hns]; exact hl
        clear hns hq hx
        go_wp2_with fail
        refine (first_any HR.out).mono ?_
        rintro e w3 ⟨rfl, rfl⟩
        go_wp2_with fail
        refine (show Calls Try.prog 108 #[.pointer (some ⟨r, 0, none⟩)] w2 (fun e w' => e = .returned (.pointer (some ⟨a, 0, none⟩)) ∧ w2 = w') from lst_snoc p a rt x ▸ last_any HR.out).mono ?_
        rintro e w3 ⟨rfl, rfl⟩
        go_wp2_with fail
        refine (cut_any (l := p) (r2 := []) (a := a) (x := x) HR.out (by simp at hlq ⊢; omega)).mono ?_
        rintro e w3 ⟨rfl, hR3, ⟨⟨u1, u2, hN⟩, _, hKa, _⟩, hk3, hs3⟩
        rw [List.append_nil] at hR3
        have HR3 := Lib.hid (show RingAt _ w3.drew r rt p from RingAt.below hR3 (Below.refl _ _).drew)
        have c0 := (hk3.cell (a := ⟨w.heap.size, 0, none⟩) hs1).trans c0'
        have c1 := (hk3.cell (a := ⟨w.heap.size, 1, none⟩) hs1).trans c1'
        have f0 : w3.frozen? ⟨w.heap.size, 0, none⟩ = false := by
          rw [← f0']; unfold World.frozen?; rw [hk3.block w.heap.size hs1]
        have f1 : w3.frozen? ⟨w.heap.size, 1, none⟩ = false := by
          rw [← f1']; unfold World.frozen?; rw [hk3.block w.heap.size hs1]
        have cN := ndx_cells hN
        have d0 := cN.1
        have d1 := cN.2.1
        rw [HX.out, ← HP.out.2.2] at d0 d1
        have ha3 : a < w3.heap.size := World.block_lt_of_cell? _ _ d0
        have HB3 : Hid (Below w.heap.size w w3) := HB2.out.trans (hk3.below (fun k hk => Nat.lt_of_lt_of_le hk HB1.out.size))
        have hs13 : w.heap.size < w3.heap.size := by have := HKB.out; omega
        have hl3 : (p).length ≤ 8 := by simp at hlq ⊢; omega
        clear hR3 c0' c1' f0' f1' hk3 hs3 hN cN hKa
        go_wp2_with fail
        go_region_law (first
          | (go_simp; go_at_call 100; refine (values_any HR3.out (by omega)).mono ?_; rintro e w4 ⟨v4, rfl, ho4, hb4⟩; obtain ⟨hc, hf⟩ := bcell hb4; have d0' := (hc a 0 ha3).trans d0; have d1' := (hc a 1 ha3).trans d1; have c0' := (hc w.heap.size 0 hs13).trans c0; have c1' := (hc w.heap.size 1 hs13).trans c1; have f0' := (hf w.heap.size 0 hs13).trans f0; have f1' := (hf w.heap.size 1 hs13).trans f1))
        all_goals go_wp2
        all_goals exact bodyPost_ret (v := .tuple #[v4, .agg #[.string (popX xs true).1, .int .i64 (popX xs true).2], .bool true]) (by simp [results, Try.results53, go_sem, Act.put, c0', c1']) rfl ⟨_, ret_lxb rfl rfl HP.out.1.symm, by
          rw [HP.out.2.1, ← HQ.out]
          exact (ho4.past (((Keeps.refl _ _).past hs13 _).past hs13 _)).base HB3.out.size, ((HB3.out.trans ((Below.undrew hb4).mono HB3.out.size)).setCell (Nat.le_refl _) _).setCell (Nat.le_refl _) _⟩
end Go.Proofs.Ytmjcijhbhdfhdaa
