/-
  Ring2, Ring3.
-/
import Derived.BigRegion
import Derived.Deep.LoopGhost
import Derived.Test.YtlclhdolcokipaaH0
import Derived.Test.YtlclhdolcokipaaH5
/-
  The program's ring: a link cut out, hung, moved, looked for.
-/
namespace Go.Proofs.Ytlclhdolcokipaa
open Go.RowKit

section
variable {K : Nat → Prop} {w : World} {r rt : Nat} {ns : List Nod}
theorem RingAt.root (h : RingAt K w r rt ns) : ∃ z, Nd w rt z (lstOr rt ns) (fstOr ns rt) := by
  obtain ⟨z, hc⟩ := h.chain
  exact ⟨z, hc.1⟩
theorem first_any (h : RingAt K w r rt ns) : Calls Try.prog 113 #[.pointer (some ⟨r, 0, none⟩)] w fun e w' => e = .returned (.pointer (some ⟨fstOr ns rt, 0, none⟩)) ∧ w = w' := by
  have c0 := two_cell0 h.head
  obtain ⟨z, hz⟩ := h.root
  have c3 := (nd_cells hz).2.2.2
  clear h hz
  go_enter Try.func113, Try.ntmps113
  go_wp2
  go_ret
  exact ⟨rfl, rfl⟩
theorem last_any (h : RingAt K w r rt ns) : Calls Try.prog 118 #[.pointer (some ⟨r, 0, none⟩)] w fun e w' => e = .returned (.pointer (some ⟨lstOr rt ns, 0, none⟩)) ∧ w = w' := by
  have c0 := two_cell0 h.head
  obtain ⟨z, hz⟩ := h.root
  have c3 := (nd_cells hz).2.2.1
  clear h hz
  go_enter Try.func118, Try.ntmps118
  go_wp2
  go_ret
  exact ⟨rfl, rfl⟩
end

/-- The same memory; what is drawn may differ. -/
def AsIs (w1 w' : World) : Prop := w'.heap = w1.heap ∧ w'.os = w1.os ∧ w'.tape = w1.tape ∧ w'.output = w1.output

set_option maxHeartbeats 1600000 in
set_option maxRecDepth 100000 in
theorem cut_low (r a p s : Nat) (n : Int) (w : World) (hn : 0 ≤ n ∧ n ≤ 1000000000) (c2 : w.cell? ⟨a, 2, none⟩ = some (.pointer (some ⟨p, 0, none⟩))) (c3 : w.cell? ⟨a, 3, none⟩ = some (.pointer (some ⟨s, 0, none⟩)))
    (up us : Value) (d3 : w.cell? ⟨p, 3, none⟩ = some up) (d2 : w.cell? ⟨s, 2, none⟩ = some us) (f3 : w.frozen? ⟨p, 3, none⟩ = false) (f2 : w.frozen? ⟨s, 2, none⟩ = false)
    (e1 : w.cell? ⟨r, 1, none⟩ = some (.int .i64 n)) (fr : w.frozen? ⟨r, 1, none⟩ = false) (hap : a ≠ p) (has : a ≠ s) (hrp : r ≠ p) (hrs : r ≠ s) :
    Calls Try.prog 116 #[.pointer (some ⟨r, 0, none⟩), .pointer (some ⟨a, 0, none⟩)] w fun e w' => e = .returned (.tuple #[]) ∧
      AsIs (((w.setCell ⟨p, 3, none⟩ (.pointer (some ⟨s, 0, none⟩))).setCell ⟨s, 2, none⟩ (.pointer (some ⟨p, 0, none⟩))).setCell ⟨r, 1, none⟩ (.int .i64 (n - 1))) w' := by
  have hpa : p ≠ a := fun e => hap e.symm
  have hsa : s ≠ a := fun e => has e.symm
  have hpr : p ≠ r := fun e => hrp e.symm
  have hsr : s ≠ r := fun e => hrs e.symm
  go_enter Try.func116, Try.ntmps116
  go_wp2_with fail
  go_region
  all_goals go_wp2
  all_goals go_end0
  all_goals exact ⟨rfl, rfl, rfl, rfl, rfl⟩

set_option maxHeartbeats 1600000 in
set_option maxRecDepth 100000 in
theorem hang_low (r a x s : Nat) (n : Int) (w : World) (hn : 0 ≤ n ∧ n ≤ 1000000000) (ua ub us : Value) (c2 : w.cell? ⟨a, 2, none⟩ = some ua) (c3 : w.cell? ⟨a, 3, none⟩ = some ub) (g2 : w.frozen? ⟨a, 2, none⟩ = false) (g3 : w.frozen? ⟨a, 3, none⟩ = false)
    (d3 : w.cell? ⟨x, 3, none⟩ = some (.pointer (some ⟨s, 0, none⟩))) (d2 : w.cell? ⟨s, 2, none⟩ = some us) (f3 : w.frozen? ⟨x, 3, none⟩ = false) (f2 : w.frozen? ⟨s, 2, none⟩ = false)
    (e1 : w.cell? ⟨r, 1, none⟩ = some (.int .i64 n)) (fr : w.frozen? ⟨r, 1, none⟩ = false) (hax : a ≠ x) (has : a ≠ s) (hrp : r ≠ x) (hrs : r ≠ s) (hra : r ≠ a) :
    Calls Try.prog 117 #[.pointer (some ⟨r, 0, none⟩), .pointer (some ⟨a, 0, none⟩), .pointer (some ⟨x, 0, none⟩)] w fun e w' => e = .returned (.tuple #[]) ∧
      AsIs (((((w.setCell ⟨a, 2, none⟩ (.pointer (some ⟨x, 0, none⟩))).setCell ⟨a, 3, none⟩ (.pointer (some ⟨s, 0, none⟩))).setCell ⟨x, 3, none⟩ (.pointer (some ⟨a, 0, none⟩))).setCell ⟨s, 2, none⟩ (.pointer (some ⟨a, 0, none⟩))).setCell ⟨r, 1, none⟩ (.int .i64 (n + 1))) w' := by
  have hpa : x ≠ a := fun e => hax e.symm
  have hsa : s ≠ a := fun e => has e.symm
  have hpr : x ≠ r := fun e => hrp e.symm
  have hsr : s ≠ r := fun e => hrs e.symm
  have har : a ≠ r := fun e => hra e.symm
  go_enter Try.func117, Try.ntmps117
  go_wp2
  go_region
  all_goals go_wp2
  all_goals go_end0
  all_goals exact ⟨rfl, rfl, rfl, rfl, rfl⟩
end Go.Proofs.Ytlclhdolcokipaa
/-
  The program's ring: what its operations leave.
-/
namespace Go.Proofs.Ytlclhdolcokipaa
open Go.RowKit

section
variable {K : Nat → Prop} {w w1 w' : World} {r rt : Nat} {ns : List Nod}
theorem AsIs.cell (h : AsIs w1 w') (a : Addr) : w'.cell? a = w1.cell? a := by unfold World.cell?; rw [h.1]
theorem AsIs.keeps (h : AsIs w1 w') (hk : Keeps K w w1) : Keeps K w w' := ⟨h.2.1.trans hk.os, h.2.2.1.trans hk.tape, h.2.2.2.trans hk.output, by rw [h.1]; exact hk.size, fun k hK => by rw [h.1]; exact hk.block k hK⟩
theorem AsIs.ring (h : AsIs w1 w') (hr : RingAt K w1 r rt ns) : RingAt K w' r rt ns := by
  obtain ⟨z, hc⟩ := hr.chain
  exact ⟨by rw [h.1]; exact hr.head, ⟨z, chain_keeps (fun b _ => by rw [h.1]) hc⟩, hr.nodup, hr.out, hr.ok⟩
theorem AsIs.ndx (h : AsIs w1 w') {a : Nat} {x : Itm} {u v : Value} (hn : NdX w1 a x u v) : NdX w' a x u v := by unfold NdX at hn ⊢; rw [h.1]; exact hn
theorem nd_x {a p q : Nat} {x : Itm} (h : Nd w a x p q) : NdX w a x (.pointer (some ⟨p, 0, none⟩)) (.pointer (some ⟨q, 0, none⟩)) := h

/-- Every link of a ring, the root too. -/
theorem RingAt.nd (h : RingAt K w r rt ns) {b : Nat} (hb : b ∈ rt :: blk ns) : ∃ x p q, Nd w b x p q := by
  obtain ⟨z, hc⟩ := h.chain
  have : ∀ {l : List Nod} {p s : Nat}, Chain w p l s → b ∈ blk l → ∃ x p q, Nd w b x p q := by
    intro l
    induction l with
    | nil => intro p s _ h; simp at h
    | cons n l ih =>
      intro p s hc h
      rcases List.mem_cons.1 (by simpa using h : b ∈ n.1 :: blk l) with e | h
      · rw [e]; exact ⟨_, _, _, hc.1⟩
      · exact ih hc.2 h
  exact this hc hb

/-- A free link. -/
def Free (K : Nat → Prop) (w : World) (r rt : Nat) (ns : List Nod) (a : Nat) (x : Itm) : Prop := (∃ u v, NdX w a x u v) ∧ a ∉ rt :: blk ns ∧ ¬ K a ∧ a ≠ r

theorem fst_in : fstOr ns rt ∈ rt :: blk ns := by
  rcases fst_mem ns rt with h | h
  · rw [h]; simp
  · exact List.mem_cons_of_mem _ h

set_option maxHeartbeats 800000 in
theorem cut_any {l r2 : List Nod} {a : Nat} {x : Itm} (h : RingAt K w r rt (l ++ (a, x) :: r2)) (hl : (l ++ (a, x) :: r2).length ≤ 1000000) :
    Calls Try.prog 116 #[.pointer (some ⟨r, 0, none⟩), .pointer (some ⟨a, 0, none⟩)] w fun e w' => e = .returned (.tuple #[]) ∧ RingAt K w' r rt (l ++ r2) ∧ Free K w' r rt (l ++ r2) a x ∧ Keeps K w w' ∧ w.heap.size = w'.heap.size := by
  have hnd := h.nodup
  obtain ⟨n1, n2, n3, n4, n5, n6⟩ := nodup_mid hnd
  obtain ⟨z, hc⟩ := h.chain
  obtain ⟨hA, hC⟩ := chain_cut hc hnd
  have hp : lstOr rt l ∈ rt :: blk (l ++ (a, x) :: r2) := by
    have := lst_in (rt := rt) (l := l)
    rcases List.mem_cons.1 this with e | e
    · rw [e]; simp
    · exact List.mem_cons_of_mem _ (by simp only [List.map_append]; exact List.mem_append_left _ e)
  have hs : fstOr r2 rt ∈ rt :: blk (l ++ (a, x) :: r2) := by
    rcases fst_mem r2 rt with e | e
    · rw [e]; simp
    · exact List.mem_cons_of_mem _ (by simp only [List.map_append, List.map_cons]; exact List.mem_append_right _ (List.mem_cons_of_mem _ e))
  have ha : a ∈ rt :: blk (l ++ (a, x) :: r2) := List.mem_cons_of_mem _ (by simp)
  have hap : a ≠ lstOr rt l := fun e => n3 (by rw [e]; exact lst_in)
  have has : a ≠ fstOr r2 rt := by
    intro e
    rcases fst_mem r2 rt with e' | e'
    · rw [e'] at e; exact n3 (by rw [e]; simp)
    · rw [← e] at e'; exact n4 e'
  have hne := h.ne
  have hrp : r ≠ lstOr rt l := fun e => hne (by rw [e]; exact hp)
  have hrs : r ≠ fstOr r2 rt := fun e => hne (by rw [e]; exact hs)
  have hra : r ≠ a := fun e => hne (by rw [e]; exact ha)
  obtain ⟨xp, pp, qp, hP⟩ := h.nd hp
  obtain ⟨xs, ps, qs, hS⟩ := h.nd hs
  have cA := nd_cells hA
  refine (cut_low r a (lstOr rt l) (fstOr r2 rt) _ w ⟨by omega, by omega⟩ cA.2.2.1 cA.2.2.2 _ _ (nd_cells hP).2.2.2 (nd_cells hS).2.2.1 (nd_free hP 3) (nd_free hS 2) (two_cell1 h.head) (two_free h.head 1) hap has hrp hrs).mono ?_
  rintro e w' ⟨rfl, hw⟩
  have hlen : (((l ++ (a, x) :: r2).length : Int) - 1) = ((l ++ r2).length : Int) := by simp only [List.length_append, List.length_cons]; omega
  rw [hlen] at hw
  have h3 := chain_other hC (a := ⟨r, 1, none⟩) (fun hr => hne (by
    have hr' : r ∈ rt :: blk (l ++ r2) := hr
    rcases List.mem_cons.1 hr' with e | e
    · rw [e]; simp
    · refine List.mem_cons_of_mem _ ?_
      simp only [List.map_append, List.map_cons, List.mem_append, List.mem_cons] at e ⊢
      rcases e with e | e
      · exact .inl e
      · exact .inr (.inr e))) (.int .i64 (l ++ r2).length)
  have hR : RingAt K (((w.setCell ⟨lstOr rt l, 3, none⟩ (.pointer (some ⟨fstOr r2 rt, 0, none⟩))).setCell ⟨fstOr r2 rt, 2, none⟩ (.pointer (some ⟨lstOr rt l, 0, none⟩))).setCell ⟨r, 1, none⟩ (.int .i64 (l ++ r2).length)) r rt (l ++ r2) := by
    refine ⟨?_, ⟨z, h3⟩, n6, ⟨h.out.1, fun b hb => h.out.2 b ?_⟩, ?_⟩
    · have e := two_set1 (t := r) (w := (w.setCell ⟨lstOr rt l, 3, none⟩ (.pointer (some ⟨fstOr r2 rt, 0, none⟩))).setCell ⟨fstOr r2 rt, 2, none⟩ (.pointer (some ⟨lstOr rt l, 0, none⟩))) (by rw [heap_setCell_other _ _ _ _ hrs, heap_setCell_other _ _ _ _ hrp]; exact h.head) (.int .i64 (l ++ r2).length)
      exact e
    · rcases List.mem_cons.1 hb with e | e
      · rw [e]; simp
      · refine List.mem_cons_of_mem _ ?_
        simp only [List.map_append, List.map_cons, List.mem_append, List.mem_cons] at e ⊢
        rcases e with e | e
        · exact .inl e
        · exact .inr (.inr e)
    · intro y hy
      refine h.ok y ?_
      simp only [List.map_append, List.map_cons, List.mem_append, List.mem_cons] at hy ⊢
      rcases hy with e | e
      · exact .inl e
      · exact .inr (.inr e)
  have hKs := h.out.2
  refine ⟨rfl, hw.ring hR, ⟨⟨_, _, hw.ndx (ndx_other (ndx_other (ndx_other (nd_x hA) (a := ⟨lstOr rt l, 3, none⟩) hap _) (a := ⟨fstOr r2 rt, 2, none⟩) has _) (a := ⟨r, 1, none⟩) (fun e => hra e.symm) _)⟩, ?_, hKs a ha, fun e => hra e.symm⟩,
    hw.keeps ((((Keeps.refl K w).setCell (a := ⟨lstOr rt l, 3, none⟩) (hKs _ hp) _).setCell (a := ⟨fstOr r2 rt, 2, none⟩) (hKs _ hs) _).setCell (a := ⟨r, 1, none⟩) h.out.1 _), ?_⟩
  · intro hm
    rcases List.mem_cons.1 hm with e | e
    · exact n3 (by rw [e]; simp)
    · simp only [List.map_append, List.mem_append] at e
      rcases e with e | e
      · exact n3 (List.mem_cons_of_mem _ e)
      · exact n4 e
  · rw [hw.1]; simp

set_option maxHeartbeats 800000 in
theorem hang_any {l r2 : List Nod} {a : Nat} {x : Itm} (h : RingAt K w r rt (l ++ r2)) (hl : (l ++ r2).length ≤ 1000000) (hf : Free K w r rt (l ++ r2) a x) (hx : okI [x]) {p : Nat} (hpx : p = lstOr rt l) :
    Calls Try.prog 117 #[.pointer (some ⟨r, 0, none⟩), .pointer (some ⟨a, 0, none⟩), .pointer (some ⟨p, 0, none⟩)] w fun e w' => e = .returned (.tuple #[]) ∧ RingAt K w' r rt (l ++ (a, x) :: r2) ∧ Keeps K w w' ∧ w.heap.size = w'.heap.size := by
  subst hpx
  obtain ⟨⟨u, v, hN⟩, hna, hKa, har⟩ := hf
  obtain ⟨z, hc⟩ := h.chain
  have hnd : (rt :: blk (l ++ (a, x) :: r2)).Nodup := by
    have h0 := h.nodup
    simp only [List.map_append, List.map_cons, List.nodup_cons, List.nodup_append, List.mem_append, List.mem_cons, not_or] at h0 hna ⊢
    obtain ⟨⟨h1, h3⟩, h4, h6, h7⟩ := h0
    refine ⟨⟨h1, fun e => hna.1 e.symm, h3⟩, h4, ⟨hna.2.2, h6⟩, ?_⟩
    rintro b hb c (rfl | hc) e
    · exact hna.2.1 (e ▸ hb)
    · exact h7 b hb c hc e
  have hC := chain_hang hc hnd hN
  have hp : lstOr rt l ∈ rt :: blk (l ++ r2) := by
    rcases List.mem_cons.1 (lst_in (rt := rt) (l := l)) with e | e
    · rw [e]; simp
    · exact List.mem_cons_of_mem _ (by simp only [List.map_append]; exact List.mem_append_left _ e)
  have hs : fstOr r2 rt ∈ rt :: blk (l ++ r2) := by
    rcases fst_mem r2 rt with e | e
    · rw [e]; simp
    · exact List.mem_cons_of_mem _ (by simp only [List.map_append]; exact List.mem_append_right _ e)
  have hap : a ≠ lstOr rt l := fun e => hna (by rw [e]; exact hp)
  have has : a ≠ fstOr r2 rt := fun e => hna (by rw [e]; exact hs)
  have hne := h.ne
  have hrp : r ≠ lstOr rt l := fun e => hne (by rw [e]; exact hp)
  have hrs : r ≠ fstOr r2 rt := fun e => hne (by rw [e]; exact hs)
  have hra : r ≠ a := fun e => har e.symm
  obtain ⟨xs, ps, qs, hS⟩ := h.nd hs
  have hP3 : w.cell? ⟨lstOr rt l, 3, none⟩ = some (.pointer (some ⟨fstOr r2 rt, 0, none⟩)) ∧ w.frozen? ⟨lstOr rt l, 3, none⟩ = false := by
    have e : (rt, z) :: (l ++ r2) = ((rt, z) :: l) ++ r2 := rfl
    rw [e, chain_app] at hc
    have : ∀ (m : List Nod) (p s : Nat), Chain w p m s → m ≠ [] → w.cell? ⟨lstOr p m, 3, none⟩ = some (.pointer (some ⟨s, 0, none⟩)) ∧ w.frozen? ⟨lstOr p m, 3, none⟩ = false := by
      intro m
      induction m with
      | nil => intro p s _ h; exact absurd rfl h
      | cons n m ih =>
        intro p s hm _
        cases m with
        | nil => exact ⟨(nd_cells hm.1).2.2.2, nd_free hm.1 3⟩
        | cons n' m => exact ih n.1 s hm.2 (by simp)
    exact this ((rt, z) :: l) _ _ hc.1 (by simp)
  have cN := ndx_cells hN
  refine (hang_low r a (lstOr rt l) (fstOr r2 rt) _ w ⟨by omega, by omega⟩ _ _ _ cN.2.2.1 cN.2.2.2 (ndx_free hN 2) (ndx_free hN 3) hP3.1 (nd_cells hS).2.2.1 hP3.2 (nd_free hS 2) (two_cell1 h.head) (two_free h.head 1) hap has hrp hrs hra).mono ?_
  rintro e w' ⟨rfl, hw⟩
  have hlen : (((l ++ r2).length : Int) + 1) = ((l ++ (a, x) :: r2).length : Int) := by simp only [List.length_append, List.length_cons]; omega
  rw [hlen] at hw
  have hrn : r ∉ rt :: blk (l ++ (a, x) :: r2) := by
    intro hm
    rcases List.mem_cons.1 hm with e | e
    · exact hne (by rw [e]; simp)
    · simp only [List.map_append, List.map_cons, List.mem_append, List.mem_cons] at e
      rcases e with e | e | e
      · exact hne (List.mem_cons_of_mem _ (by simp only [List.map_append]; exact List.mem_append_left _ e))
      · exact hra e
      · exact hne (List.mem_cons_of_mem _ (by simp only [List.map_append]; exact List.mem_append_right _ e))
  have h3 := chain_other hC (a := ⟨r, 1, none⟩) hrn (.int .i64 (l ++ (a, x) :: r2).length)
  have hKs := h.out.2
  refine ⟨rfl, hw.ring ⟨?_, ⟨z, h3⟩, hnd, ⟨h.out.1, ?_⟩, ?_⟩,
    hw.keeps ((((((Keeps.refl K w).setCell (a := ⟨a, 2, none⟩) hKa _).setCell (a := ⟨a, 3, none⟩) hKa _).setCell (a := ⟨lstOr rt l, 3, none⟩) (hKs _ hp) _).setCell (a := ⟨fstOr r2 rt, 2, none⟩) (hKs _ hs) _).setCell (a := ⟨r, 1, none⟩) h.out.1 _), ?_⟩
  · exact two_set1 (t := r) (by rw [heap_setCell_other _ _ _ _ hrs, heap_setCell_other _ _ _ _ hrp, heap_setCell_other _ _ _ _ hra, heap_setCell_other _ _ _ _ hra]; exact h.head) _
  · intro b hb
    rcases List.mem_cons.1 hb with e | e
    · exact hKs b (by rw [e]; simp)
    · simp only [List.map_append, List.map_cons, List.mem_append, List.mem_cons] at e
      rcases e with e | e | e
      · exact hKs b (List.mem_cons_of_mem _ (by simp only [List.map_append]; exact List.mem_append_left _ e))
      · rw [e]; exact hKa
      · exact hKs b (List.mem_cons_of_mem _ (by simp only [List.map_append]; exact List.mem_append_right _ e))
  · intro y hy
    simp only [List.map_append, List.map_cons, List.mem_append, List.mem_cons] at hy
    rcases hy with e | e | e
    · exact h.ok y (by simp only [List.map_append]; exact List.mem_append_left _ e)
    · exact hx y (by simp [e])
    · exact h.ok y (by simp only [List.map_append]; exact List.mem_append_right _ e)
  · rw [hw.1]; simp
end
end Go.Proofs.Ytlclhdolcokipaa
