/-
  A ring of links: blocks that point to each other; what a cut and a hanging leave.
-/
import Derived.Test.YtigiliakcmpekaaKeep
namespace Go.Proofs.Ytigiliakcmpekaa
open Go.RowKit

abbrev Nod := Nat × Itm
abbrev blk (l : List Nod) : List Nat := l.map (·.1)
abbrev its (l : List Nod) : List Itm := l.map (·.2)

/-- Block b is a link with the value x, behind the link p and ahead of the link q. -/
def Nd (w : World) (b : Nat) (x : Itm) (p q : Nat) : Prop :=
  w.heap[b]? = some (.cells #[.string x.1, .int .i64 x.2, .pointer (some ⟨p, 0, none⟩), .pointer (some ⟨q, 0, none⟩)] 199 (0, 0))

/-- The same, whatever it points to. -/
def NdX (w : World) (b : Nat) (x : Itm) (u v : Value) : Prop :=
  w.heap[b]? = some (.cells #[.string x.1, .int .i64 x.2, u, v] 199 (0, 0))

def fstOr : List Nod → Nat → Nat
  | [], d => d
  | n :: _, _ => n.1
def lstOr : Nat → List Nod → Nat
  | d, [] => d
  | _, n :: r => lstOr n.1 r

/-- The links l, one behind the other, between the links p and s. -/
def Chain (w : World) : Nat → List Nod → Nat → Prop
  | _, [], _ => True
  | p, n :: r, s => Nd w n.1 n.2 p (fstOr r s) ∧ Chain w n.1 r s

theorem fstOr_app (l r : List Nod) (s : Nat) : fstOr (l ++ r) s = fstOr l (fstOr r s) := by cases l <;> rfl
theorem lstOr_app (l : List Nod) : ∀ (p : Nat) (r : List Nod), lstOr p (l ++ r) = lstOr (lstOr p l) r := by
  induction l with
  | nil => intro p r; rfl
  | cons n l ih => intro p r; exact ih n.1 r
theorem lst_mem (l : List Nod) : ∀ p, lstOr p l = p ∨ lstOr p l ∈ blk l := by
  induction l with
  | nil => intro p; exact .inl rfl
  | cons n l ih =>
    intro p
    rcases ih n.1 with h | h
    · exact .inr (by simp [lstOr, h])
    · exact .inr (by simp only [lstOr, List.map_cons, List.mem_cons]; exact .inr h)
theorem fst_mem (l : List Nod) (s : Nat) : fstOr l s = s ∨ fstOr l s ∈ blk l := by
  cases l with
  | nil => exact .inl rfl
  | cons n l => exact .inr (by simp [fstOr])

theorem chain_app (w : World) (l : List Nod) : ∀ (p : Nat) (r : List Nod) (s : Nat), Chain w p (l ++ r) s ↔ Chain w p l (fstOr r s) ∧ Chain w (lstOr p l) r s := by
  induction l with
  | nil => intro p r s; simp [Chain, lstOr]
  | cons n l ih =>
    intro p r s
    simp only [List.cons_append, Chain, ih, fstOr_app, lstOr, and_assoc]

theorem chain_keeps {w w' : World} {l : List Nod} : ∀ {p s : Nat}, (∀ b ∈ blk l, w'.heap[b]? = w.heap[b]?) → Chain w p l s → Chain w' p l s := by
  induction l with
  | nil => intro p s _ _; trivial
  | cons n l ih =>
    intro p s h hc
    exact ⟨(h n.1 (by simp)).trans hc.1, ih (fun b hb => h b (by simp only [List.map_cons, List.mem_cons]; exact .inr hb)) hc.2⟩

theorem chain_lt {w : World} {l : List Nod} : ∀ {p s : Nat}, Chain w p l s → ∀ b ∈ blk l, b < w.heap.size := by
  induction l with
  | nil => intro p s _ b hb; simp at hb
  | cons n l ih =>
    intro p s hc b hb
    rcases List.mem_cons.1 (by simpa using hb : b ∈ n.1 :: blk l) with rfl | hb
    · exact lt_of_block hc.1
    · exact ih hc.2 b hb

theorem nd_set0 {w : World} {b p q : Nat} {x : Itm} (h : Nd w b x p q) (s : ByteArray) : Nd (w.setCell ⟨b, 0, none⟩ (.string s)) b (s, x.2) p q := by
  unfold Nd at h ⊢; rw [heap_setCell_same w b 0 _ _ _ h]; rfl
theorem nd_set1 {w : World} {b p q : Nat} {x : Itm} (h : Nd w b x p q) (n : Int) : Nd (w.setCell ⟨b, 1, none⟩ (.int .i64 n)) b (x.1, n) p q := by
  unfold Nd at h ⊢; rw [heap_setCell_same w b 1 _ _ _ h]; rfl
theorem nd_set2 {w : World} {b p q : Nat} {x : Itm} (h : Nd w b x p q) (p' : Nat) : Nd (w.setCell ⟨b, 2, none⟩ (.pointer (some ⟨p', 0, none⟩))) b x p' q := by
  unfold Nd at h ⊢; rw [heap_setCell_same w b 2 _ _ _ h]; rfl
theorem nd_set3 {w : World} {b p q : Nat} {x : Itm} (h : Nd w b x p q) (q' : Nat) : Nd (w.setCell ⟨b, 3, none⟩ (.pointer (some ⟨q', 0, none⟩))) b x p q' := by
  unfold Nd at h ⊢; rw [heap_setCell_same w b 3 _ _ _ h]; rfl
theorem ndx_other {w : World} {b : Nat} {u u' : Value} {x : Itm} (h : NdX w b x u u') {a : Addr} (ha : b ≠ a.block) (v : Value) : NdX (w.setCell a v) b x u u' := by
  unfold NdX at h ⊢; rw [heap_setCell_other w a b v ha, h]
theorem ndx_set23 {w : World} {b : Nat} {u v : Value} {x : Itm} (h : NdX w b x u v) (p q : Nat) : Nd ((w.setCell ⟨b, 2, none⟩ (.pointer (some ⟨p, 0, none⟩))).setCell ⟨b, 3, none⟩ (.pointer (some ⟨q, 0, none⟩))) b x p q := by
  unfold NdX at h
  unfold Nd
  rw [heap_setCell_same _ b 3 _ _ _ (heap_setCell_same w b 2 _ _ _ h)]
  rfl
theorem ndx_cells {w : World} {b : Nat} {u v : Value} {x : Itm} (h : NdX w b x u v) :
    w.cell? ⟨b, 0, none⟩ = some (.string x.1) ∧ w.cell? ⟨b, 1, none⟩ = some (.int .i64 x.2) ∧ w.cell? ⟨b, 2, none⟩ = some u ∧ w.cell? ⟨b, 3, none⟩ = some v := by
  unfold NdX at h
  refine ⟨?_, ?_, ?_, ?_⟩ <;> simp [World.cell?, h]
theorem ndx_free {w : World} {b : Nat} {u v : Value} {x : Itm} (h : NdX w b x u v) (j : Nat) : w.frozen? ⟨b, j, none⟩ = false := by
  unfold NdX at h
  simp [World.frozen?, h]
theorem nd_other {w : World} {b p q : Nat} {x : Itm} (h : Nd w b x p q) {a : Addr} (ha : b ≠ a.block) (v : Value) : Nd (w.setCell a v) b x p q := by
  unfold Nd at h ⊢; rw [heap_setCell_other w a b v ha, h]
theorem nd_cells {w : World} {b p q : Nat} {x : Itm} (h : Nd w b x p q) :
    w.cell? ⟨b, 0, none⟩ = some (.string x.1) ∧ w.cell? ⟨b, 1, none⟩ = some (.int .i64 x.2) ∧ w.cell? ⟨b, 2, none⟩ = some (.pointer (some ⟨p, 0, none⟩)) ∧ w.cell? ⟨b, 3, none⟩ = some (.pointer (some ⟨q, 0, none⟩)) := by
  unfold Nd at h
  refine ⟨?_, ?_, ?_, ?_⟩ <;> simp [World.cell?, h]
theorem nd_free {w : World} {b p q : Nat} {x : Itm} (h : Nd w b x p q) (j : Nat) : w.frozen? ⟨b, j, none⟩ = false := by
  unfold Nd at h
  simp [World.frozen?, h]

theorem chain_other {w : World} {l : List Nod} {p s : Nat} (h : Chain w p l s) {a : Addr} (ha : a.block ∉ blk l) (v : Value) : Chain (w.setCell a v) p l s :=
  chain_keeps (fun b hb => heap_setCell_other w a b v (fun e => ha (e ▸ hb))) h

theorem chain_setR {w : World} {l : List Nod} : ∀ {p s : Nat}, Chain w p l s → l ≠ [] → (blk l).Nodup → ∀ s', Chain (w.setCell ⟨lstOr p l, 3, none⟩ (.pointer (some ⟨s', 0, none⟩))) p l s' := by
  induction l with
  | nil => intro p s _ h; exact absurd rfl h
  | cons n l ih =>
    intro p s hc _ hn s'
    cases l with
    | nil => exact ⟨nd_set3 hc.1 s', trivial⟩
    | cons m l =>
      have hn' : n.1 ∉ blk (m :: l) ∧ (blk (m :: l)).Nodup := List.nodup_cons.1 hn
      have hm : lstOr n.1 (m :: l) ∈ blk (m :: l) := by
        rcases lst_mem l m.1 with h | h
        · simp [lstOr, h]
        · simp only [lstOr, List.map_cons, List.mem_cons]; exact .inr h
      refine ⟨nd_other hc.1 (fun e => ?_) _, ih hc.2 (by simp) hn'.2 s'⟩
      exact hn'.1 (by rw [e]; exact hm)

theorem chain_setL {w : World} {n : Nod} {l : List Nod} {p s : Nat} (hc : Chain w p (n :: l) s) (hn : (blk (n :: l)).Nodup) (p' : Nat) : Chain (w.setCell ⟨n.1, 2, none⟩ (.pointer (some ⟨p', 0, none⟩))) p' (n :: l) s :=
  ⟨nd_set2 hc.1 p', chain_other hc.2 (List.nodup_cons.1 hn).1 _⟩

theorem nodup_mid {rt a : Nat} {x : Itm} {l r : List Nod} (hn : (rt :: blk (l ++ (a, x) :: r)).Nodup) :
    (rt :: blk l).Nodup ∧ (blk r).Nodup ∧ a ∉ rt :: blk l ∧ a ∉ blk r ∧ (∀ b ∈ rt :: blk l, b ∉ blk r) ∧ (rt :: blk (l ++ r)).Nodup := by
  simp only [List.map_append, List.map_cons, List.nodup_cons, List.nodup_append, List.mem_append, List.mem_cons, not_or] at hn ⊢
  obtain ⟨⟨h1, h2, h3⟩, h4, ⟨h5, h6⟩, h7⟩ := hn
  refine ⟨⟨h1, h4⟩, h6, ⟨fun e => h2 e.symm, fun h => h7 a h a (.inl rfl) rfl⟩, h5, ?_, ⟨h1, h3⟩, h4, h6, fun b hb c hc => h7 b hb c (.inr hc)⟩
  rintro b (rfl | hb) hr
  · exact h3 hr
  · exact h7 b hb b (.inr hr) rfl

theorem lst_in {rt : Nat} {l : List Nod} : lstOr rt l ∈ rt :: blk l := by
  rcases lst_mem l rt with h | h
  · simp [h]
  · exact List.mem_cons_of_mem _ h

/-- A link cut out. -/
theorem chain_cut {w : World} {rt a : Nat} {z x : Itm} {l r : List Nod} (hc : Chain w (lstOr rt (l ++ (a, x) :: r)) ((rt, z) :: (l ++ (a, x) :: r)) rt) (hn : (rt :: blk (l ++ (a, x) :: r)).Nodup) :
    Nd w a x (lstOr rt l) (fstOr r rt) ∧
    Chain ((w.setCell ⟨lstOr rt l, 3, none⟩ (.pointer (some ⟨fstOr r rt, 0, none⟩))).setCell ⟨fstOr r rt, 2, none⟩ (.pointer (some ⟨lstOr rt l, 0, none⟩))) (lstOr rt (l ++ r)) ((rt, z) :: (l ++ r)) rt := by
  obtain ⟨n1, n2, n3, n4, n5, n6⟩ := nodup_mid hn
  have e : (rt, z) :: (l ++ (a, x) :: r) = ((rt, z) :: l) ++ (a, x) :: r := rfl
  rw [e, chain_app] at hc
  obtain ⟨hL, hA, hR⟩ := hc
  have hl : lstOr (lstOr rt (l ++ (a, x) :: r)) ((rt, z) :: l) = lstOr rt l := rfl
  rw [hl] at hA
  refine ⟨hA, ?_⟩
  have h1 := chain_setR hL (by simp) n1 (fstOr r rt)
  rw [hl] at h1
  cases r with
  | nil =>
    have h2 := chain_setL h1 n1 (lstOr rt l)
    simpa [fstOr] using h2
  | cons c r =>
    have e2 : (rt, z) :: (l ++ c :: r) = ((rt, z) :: l) ++ c :: r := rfl
    rw [e2, chain_app]
    have hR1 := chain_other hR (a := ⟨lstOr rt l, 3, none⟩) (n5 _ lst_in) (.pointer (some ⟨fstOr (c :: r) rt, 0, none⟩))
    refine ⟨?_, chain_setL hR1 n2 _⟩
    have h3 := chain_other h1 (a := ⟨fstOr (c :: r) rt, 2, none⟩) (fun h => n5 _ h (by simp [fstOr])) (.pointer (some ⟨lstOr rt l, 0, none⟩))
    have e3 : lstOr rt (l ++ (a, x) :: c :: r) = lstOr rt (l ++ c :: r) := by rw [lstOr_app, lstOr_app]; rfl
    rw [e3] at h3
    exact h3

/-- A link hung between two. -/
theorem chain_hang {w : World} {rt a : Nat} {pu qu : Value} {z v : Itm} {l r : List Nod} (hc : Chain w (lstOr rt (l ++ r)) ((rt, z) :: (l ++ r)) rt) (hn : (rt :: blk (l ++ (a, v) :: r)).Nodup) (ha : NdX w a v pu qu) :
    Chain ((((w.setCell ⟨a, 2, none⟩ (.pointer (some ⟨lstOr rt l, 0, none⟩))).setCell ⟨a, 3, none⟩ (.pointer (some ⟨fstOr r rt, 0, none⟩))).setCell ⟨lstOr rt l, 3, none⟩ (.pointer (some ⟨a, 0, none⟩))).setCell ⟨fstOr r rt, 2, none⟩ (.pointer (some ⟨a, 0, none⟩)))
      (lstOr rt (l ++ (a, v) :: r)) ((rt, z) :: (l ++ (a, v) :: r)) rt := by
  obtain ⟨n1, n2, n3, n4, n5, n6⟩ := nodup_mid hn
  have e : (rt, z) :: (l ++ r) = ((rt, z) :: l) ++ r := rfl
  rw [e, chain_app] at hc
  obtain ⟨hL, hR⟩ := hc
  have a1 := ndx_set23 ha (lstOr rt l) (fstOr r rt)
  have L1 := chain_other (chain_other hL (a := ⟨a, 2, none⟩) n3 (.pointer (some ⟨lstOr rt l, 0, none⟩))) (a := ⟨a, 3, none⟩) n3 (.pointer (some ⟨fstOr r rt, 0, none⟩))
  have R1 := chain_other (chain_other hR (a := ⟨a, 2, none⟩) n4 (.pointer (some ⟨lstOr rt l, 0, none⟩))) (a := ⟨a, 3, none⟩) n4 (.pointer (some ⟨fstOr r rt, 0, none⟩))
  have hl : ∀ d, lstOr d ((rt, z) :: l) = lstOr rt l := fun d => rfl
  rw [hl] at R1
  have L2 := chain_setR L1 (by simp) n1 a
  rw [hl] at L2
  have hin : lstOr rt l ∈ rt :: blk l := lst_in
  have a2 := nd_other a1 (a := ⟨lstOr rt l, 3, none⟩) (fun e => n3 (by rw [e]; exact hin)) (.pointer (some ⟨a, 0, none⟩))
  have R2 := chain_other R1 (a := ⟨lstOr rt l, 3, none⟩) (n5 _ hin) (.pointer (some ⟨a, 0, none⟩))
  have e4 : (rt, z) :: (l ++ (a, v) :: r) = ((rt, z) :: l) ++ (a, v) :: r := rfl
  rw [e4, chain_app, hl]
  cases r with
  | nil =>
    have L3 := chain_setL L2 n1 a
    have a3 := nd_other a2 (a := ⟨rt, 2, none⟩) (fun e => n3 (by rw [e]; simp)) (.pointer (some ⟨a, 0, none⟩))
    refine ⟨?_, a3, trivial⟩
    have e5 : lstOr rt (l ++ [(a, v)]) = a := by rw [lstOr_app]; rfl
    rw [e5]
    exact L3
  | cons c r =>
    have hc : c.1 ∈ blk (c :: r) := by simp
    have a3 := nd_other a2 (a := ⟨fstOr (c :: r) rt, 2, none⟩) (fun e => n4 (by rw [e]; exact hc)) (.pointer (some ⟨a, 0, none⟩))
    have L3 := chain_other L2 (a := ⟨fstOr (c :: r) rt, 2, none⟩) (fun h => n5 _ h hc) (.pointer (some ⟨a, 0, none⟩))
    have R3 := chain_setL R2 n2 a
    have e5 : lstOr rt (l ++ (a, v) :: c :: r) = lstOr rt (l ++ c :: r) := by rw [lstOr_app, lstOr_app]; rfl
    rw [e5]
    exact ⟨L3, a3, R3⟩

/-- Another value. -/
theorem chain_val {w : World} {p s a : Nat} {x y : Itm} {l r : List Nod} (hc : Chain w p (l ++ (a, x) :: r) s) (hn : (blk (l ++ (a, x) :: r)).Nodup) {j : Nat} {u : Value}
    (hy : ∀ p q, Nd w a x p q → Nd (w.setCell ⟨a, j, none⟩ u) a y p q) : Chain (w.setCell ⟨a, j, none⟩ u) p (l ++ (a, y) :: r) s := by
  rw [chain_app] at hc ⊢
  obtain ⟨hL, hA, hR⟩ := hc
  simp only [List.map_append, List.map_cons, List.nodup_append, List.nodup_cons, List.mem_cons] at hn
  obtain ⟨h1, ⟨h2, h3⟩, h4⟩ := hn
  exact ⟨chain_other hL (fun h => h4 a h a (.inl rfl) rfl) _, hy _ _ hA, chain_other hR h2 _⟩

/-- r is a ring of the links ns, with the root rt; none of its memory lies in K. -/
structure RingAt (K : Nat → Prop) (w : World) (r rt : Nat) (ns : List Nod) : Prop where
  head : w.heap[r]? = some (.cells #[.pointer (some ⟨rt, 0, none⟩), .int .i64 ns.length] 201 (0, 0))
  chain : ∃ z : Itm, Chain w (lstOr rt ns) ((rt, z) :: ns) rt
  nodup : (rt :: blk ns).Nodup
  out : ¬ K r ∧ ∀ b ∈ rt :: blk ns, ¬ K b
  ok : okI (its ns)

theorem RingAt.lt {K : Nat → Prop} {w : World} {r rt : Nat} {ns : List Nod} (h : RingAt K w r rt ns) : r < w.heap.size ∧ ∀ b ∈ rt :: blk ns, b < w.heap.size :=
  ⟨lt_of_block h.head, fun b hb => by obtain ⟨z, hc⟩ := h.chain; exact chain_lt hc b hb⟩
theorem RingAt.ne {K : Nat → Prop} {w : World} {r rt : Nat} {ns : List Nod} (h : RingAt K w r rt ns) : r ∉ rt :: blk ns := by
  obtain ⟨z, hc⟩ := h.chain
  intro hr
  have : ∀ {l : List Nod} {p s : Nat}, Chain w p l s → r ∈ blk l → False := by
    intro l
    induction l with
    | nil => intro p s _ h; simp at h
    | cons n l ih =>
      intro p s hc h
      rcases List.mem_cons.1 (by simpa using h : r ∈ n.1 :: blk l) with e | h
      · have h1 := hc.1
        unfold Nd at h1
        rw [← e, ‹RingAt K w r rt ns›.head] at h1
        simp at h1
      · exact ih hc.2 h
  exact this hc hr
/-- Nothing of it has turned. -/
theorem RingAt.keeps {K K' : Nat → Prop} {w w' : World} {r rt : Nat} {ns : List Nod} (h : RingAt K w r rt ns) (hk : Keeps K' w w') (hr : K' r ∧ ∀ b ∈ rt :: blk ns, K' b) : RingAt K w' r rt ns := by
  obtain ⟨z, hc⟩ := h.chain
  exact ⟨(hk.block r hr.1).trans h.head, ⟨z, chain_keeps (fun b hb => hk.block b (hr.2 b hb)) hc⟩, h.nodup, h.out, h.ok⟩
theorem RingAt.below {K : Nat → Prop} {w w' : World} {r rt : Nat} {ns : List Nod} (h : RingAt K w r rt ns) (hb : Below w.heap.size w w') : RingAt K w' r rt ns :=
  h.keeps (Keeps.of_below hb (fun _ h => h)) h.lt
end Go.Proofs.Ytigiliakcmpekaa
