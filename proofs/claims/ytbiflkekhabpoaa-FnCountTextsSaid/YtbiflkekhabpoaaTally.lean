/-
  The program's tally: a struct of an order of keys and a map of counts, behind a pointer.
-/
import Derived.Test.YtbiflkekhabpoaaImplV
import Derived.Test.YtbiflkekhabpoaaSums
import Derived.Maps.AppendAt
namespace Go.Proofs.Ytbiflkekhabpoaa
open Go.RowKit

theorem zeroN (w : World) : (zeroValue 3).run Try.prog w = .ok (.int .i64 0) w := by kernel_rfl
theorem Try.infoS : (Try.prog.info? 9).map (fun i => (i.zero, i.size, i.bytes)) = some (some (.string ⟨#[]⟩), 1, 16) := by kernel_rfl

/-- Of the blocks in K nothing has turned. -/
structure Keeps (K : Nat → Prop) (w w' : World) : Prop where
  os : w'.os = w.os
  tape : w'.tape = w.tape
  output : w'.output = w.output
  size : w.heap.size ≤ w'.heap.size
  block : ∀ k, K k → w'.heap[k]? = w.heap[k]?

section
variable {K : Nat → Prop} {w w' w'' : World}
theorem Keeps.refl (K : Nat → Prop) (w : World) : Keeps K w w := ⟨rfl, rfl, rfl, Nat.le_refl _, fun _ _ => rfl⟩
theorem Keeps.trans (h : Keeps K w w') (h' : Keeps K w' w'') : Keeps K w w'' :=
  ⟨h'.os.trans h.os, h'.tape.trans h.tape, h'.output.trans h.output, Nat.le_trans h.size h'.size, fun k hk => (h'.block k hk).trans (h.block k hk)⟩
theorem Keeps.drew (h : Keeps K w w') : Keeps K w w'.drew := ⟨h.os, h.tape, h.output, h.size, h.block⟩
theorem Keeps.alloc (h : Keeps K w w') (hK : ∀ k, K k → k < w.heap.size) (o : Obj) : Keeps K w (w'.alloc o) :=
  h.trans ⟨rfl, rfl, rfl, by simp, fun k hk => Below.heap_alloc _ _ _ (Nat.lt_of_lt_of_le (hK k hk) h.size)⟩
theorem Keeps.setCell (h : Keeps K w w') {a : Addr} (ha : ¬ K a.block) (u : Value) : Keeps K w (w'.setCell a u) :=
  h.trans ⟨rfl, rfl, rfl, by simp, fun k hk => Below.heap_setCell _ _ _ _ (fun e => ha (e ▸ hk))⟩
theorem Keeps.grown {row : Option Nat} (h : Keeps K w w') (hg : w'.grownBy w'' row) (hK : ∀ k, K k → k < w.heap.size) (hr : ∀ k, row = some k → ¬ K k) : Keeps K w w'' :=
  h.trans ⟨hg.os, hg.tape, hg.output, hg.size, fun k hk => hg.block k (Nat.lt_of_lt_of_le (hK k hk) h.size) (fun e => hr k e.symm hk)⟩
theorem Keeps.of_below {B : Nat} (h : Below B w w') (hK : ∀ k, K k → k < B) : Keeps K w w' := ⟨h.os, h.tape, h.output, h.size, fun k hk => h.block k (hK k hk)⟩
theorem Keeps.below {B : Nat} (h : Keeps K w w') (hK : ∀ k, k < B → K k) : Below B w w' := ⟨h.os, h.tape, h.output, h.size, fun k hk => h.block k (hK k hk)⟩
theorem Keeps.mono {K' : Nat → Prop} (h : Keeps K w w') (hK : ∀ k, K' k → K k) : Keeps K' w w' := ⟨h.os, h.tape, h.output, h.size, fun k hk => h.block k (hK k hk)⟩
theorem Keeps.cell (h : Keeps K w w') {a : Addr} (ha : K a.block) : w'.cell? a = w.cell? a := World.cell?_of_block (h.block _ ha)
theorem Keeps.own {B E S n : Nat} {v : Value} {xs : List Value} (h : Keeps K w w') (ho : w.ownsRow B E S v n xs) (hv : ∀ g, v.ownBlock = some g → K g) : w'.ownsRow B E S v n xs := by
  refine ⟨ho.1, ?_⟩
  rcases ho.2 with h2 | ⟨g, cap, cur, rfl, hg, hh, r⟩
  · exact .inl h2
  · exact .inr ⟨g, cap, cur, rfl, hg, (h.block g (hv g rfl)).trans hh, r⟩
/-- A slice all of whose cells lie in K. -/
def InK (K : Nat → Prop) (v : Value) : Prop := ∀ a n c, v = .slice (some a) n c → 0 < n → K a.block
theorem Items.inK {v : Value} {xs : List Itm} (h : Items w v xs) : InK (· < w.heap.size) v := by
  obtain ⟨ao, cap, rfl, hl, hc, hok, hcell⟩ := h
  intro a n c e hn
  simp only [Value.slice.injEq] at e
  obtain ⟨rfl, rfl, rfl⟩ := e
  obtain ⟨b, o, ha, hs, _⟩ := hcell 0 hn
  simp only [Option.some.injEq] at ha
  subst ha
  exact hs
theorem InK.mono {K K' : Nat → Prop} {v : Value} (h : InK K v) (hK : ∀ k, K k → K' k) : InK K' v := fun a n c e hn => hK _ (h a n c e hn)
theorem InK.nil (K : Nat → Prop) : InK K (.slice none 0 0) := fun a n c e => by cases e
theorem Items.nil (w : World) : Items w (.slice none 0 0) [] := ⟨none, 0, rfl, Nat.le_refl _, by omega, fun x hx => by simp at hx, fun k hk => by simp at hk⟩
theorem Items.keeps {v : Value} {xs : List Itm} (h : Items w v xs) (hk : Keeps K w w') (hv : InK K v) : Items w' v xs := by
  obtain ⟨ao, cap, rfl, hl, hc, hok, hcell⟩ := h
  refine ⟨ao, cap, rfl, hl, hc, hok, fun k hlt => ?_⟩
  obtain ⟨b, o, rfl, hs, h1, h2⟩ := hcell k hlt
  have hb : K b := hv _ _ _ rfl (by omega)
  exact ⟨b, o, rfl, Nat.lt_of_lt_of_le hs hk.size, (hk.cell (a := ⟨b, _, none⟩) hb).trans h1, (hk.cell (a := ⟨b, _, none⟩) hb).trans h2⟩
end

def keysV (l : List Itm) : List Value := l.map fun x => .string x.1

/-- Block t is a tally of the items l; none of its memory lies in K. -/
def TallyAt (K : Nat → Prop) (w : World) (t : Nat) (l : List Itm) : Prop :=
  ∃ (v : Value) (mb : Nat), w.heap[t]? = some (.cells #[v, .map (some mb)] 67 (0, 0)) ∧ ¬ K t ∧ ¬ K mb ∧ (∀ g, v.ownBlock = some g → ¬ K g) ∧ w.ownsRow 0 9 1 v l.length (keysV l) ∧ MapN 3 w mb l

theorem own_shape {w : World} {B E S n : Nat} {v : Value} {xs : List Value} (h : w.ownsRow B E S v n xs) (hn : 0 < n) :
    ∃ g cap, v = .slice (some ⟨g, 0, none⟩) n cap ∧ n ≤ cap ∧ B ≤ g := by
  rcases h.2 with ⟨_, h'⟩ | ⟨g, cap, cur, rfl, hb, hg, hnc, hcm, hcs, htake⟩
  · omega
  · exact ⟨g, cap, rfl, hnc, hb⟩

theorem own_slice {w : World} {B E S n : Nat} {v : Value} {xs : List Value} (h : w.ownsRow B E S v n xs) : ∃ ao cap, v = .slice ao n cap ∧ n ≤ cap ∧ cap ≤ 9223372036854775807 := by
  rcases h.2 with ⟨rfl, rfl⟩ | ⟨g, cap, cur, rfl, hb, hg, hnc, hcm, hcs, htake⟩
  · exact ⟨none, 0, rfl, Nat.le_refl _, by omega⟩
  · exact ⟨_, cap, rfl, hnc, by unfold maxLen at hcm; exact hcm⟩

/-- A row of keys is no tally's block. -/
theorem own_ne {w : World} {B E T S n t : Nat} {v : Value} {xs : List Value} {cs : Array Value} (h : w.ownsRow B E S v n xs) (ht : w.heap[t]? = some (.cells cs T (0, 0))) (hE : E ≠ T) : v.ownBlock ≠ some t := by
  rcases h.2 with ⟨rfl, _⟩ | ⟨g, cap, cur, rfl, hb, hg, r⟩
  · simp [Value.ownBlock]
  · simp only [Value.ownBlock, ne_eq, Option.some.injEq]
    rintro rfl
    rw [hg] at ht
    simp only [Option.some.injEq, Obj.cells.injEq] at ht
    exact hE ht.2.1

theorem map_ne {w : World} {e mb t T : Nat} {l : List Itm} {cs : Array Value} (h : MapN e w mb l) (ht : w.heap[t]? = some (.cells cs T (0, 0))) : mb ≠ t := by
  rintro rfl
  obtain ⟨D, ⟨es, clock, hb, _⟩, _⟩ := h
  rw [hb] at ht
  simp at ht

theorem own_map_ne {w : World} {B E S e mb n : Nat} {v : Value} {xs : List Value} {l : List Itm} (h : w.ownsRow B E S v n xs) (hm : MapN e w mb l) : v.ownBlock ≠ some mb := by
  obtain ⟨D, ⟨es, clock, hb, _⟩, _⟩ := hm
  rcases h.2 with ⟨rfl, _⟩ | ⟨g, cap, cur, rfl, hb', hg, r⟩
  · simp [Value.ownBlock]
  · simp only [Value.ownBlock, ne_eq, Option.some.injEq]
    rintro rfl
    rw [hg] at hb
    simp at hb

section
variable {w : World} {t : Nat} {v u : Value} {T : TypeId}
theorem two_cell0 (h : w.heap[t]? = some (.cells #[v, u] T (0, 0))) : w.cell? ⟨t, 0, none⟩ = some v := by simp [World.cell?, h]
theorem two_cell1 (h : w.heap[t]? = some (.cells #[v, u] T (0, 0))) : w.cell? ⟨t, 1, none⟩ = some u := by simp [World.cell?, h]
theorem two_free (h : w.heap[t]? = some (.cells #[v, u] T (0, 0))) (j : Nat) : w.frozen? ⟨t, j, none⟩ = false := by simp [World.frozen?, h]
theorem two_set0 (h : w.heap[t]? = some (.cells #[v, u] T (0, 0))) (v' : Value) : (w.setCell ⟨t, 0, none⟩ v').heap[t]? = some (.cells #[v', u] T (0, 0)) := by
  have hlt := lt_of_block h
  have h' : w.heap[t] = .cells #[v, u] T (0, 0) := by simpa [Array.getElem?_eq_getElem hlt] using h
  show (w.heap.modify t _)[t]? = _
  rw [Array.getElem?_eq_getElem (by simpa using hlt), Array.getElem_modify_self, h']
  rfl
end

theorem grow_block {w w1 : World} {o : Obj} {t : Nat} {c : Obj} {row : Option Nat} (h : w.heap[t]? = some c) (hg : (w.alloc o).grownBy w1 row) (hne : row ≠ some t) : w1.heap[t]? = some c := by
  have hlt := lt_of_block h
  rw [hg.block t (by simp; omega) (Ne.symm hne), Below.heap_alloc _ _ _ hlt, h]

theorem TallyAt.alloc {K : Nat → Prop} {w : World} {t : Nat} {l : List Itm} (h : TallyAt K w t l) (o : Obj) : TallyAt K (w.alloc o) t l := by
  obtain ⟨v, mb, hb, h1, h2, h3, h4, h5⟩ := h
  exact ⟨v, mb, (Below.heap_alloc _ _ _ (lt_of_block hb)).trans hb, h1, h2, h3, h4.alloc o, h5.alloc o⟩

theorem sum_step {t b : List Itm} {m M : Int} {k : Nat} (hb : smallI b m) (ht : cntLe t M) (hk : k < b.length) :
    -(M + 40 * 1000000000 + 1000000000) ≤ cnt (addAll t (b.take k) m) b[k].1 + b[k].2 * m ∧ cnt (addAll t (b.take k) m) b[k].1 + b[k].2 * m ≤ M + 40 * 1000000000 + 1000000000 := by
  have h1 := addAll_le (b.take k) m (take_small hb k).2 t M ht b[k].1
  have h2 := hb.2 _ (List.getElem_mem hk)
  have h3 := hb.1
  have h4 : (b.take k).length ≤ 40 := (take_small hb k).1
  omega

def AddPost (K : Nat → Prop) (t : Nat) (l : List Itm) (w : World) (e : Ending) (w' : World) : Prop :=
  e = .returned (.tuple #[]) ∧ TallyAt K w' t l ∧ Keeps K w w'

theorem tally_new {K : Nat → Prop} {w1 w2 : World} {t mb g cp : Nat} {l : List Itm} {s : ByteArray} {n : Int} {v : Value} (hb1 : w1.heap[t]? = some (.cells #[v, .map (some mb)] 67 (0, 0))) (hBt : ¬ K t) (hBm : ¬ K mb) (hBg : ¬ K g)
    (hown1 : w1.ownsRow 0 9 1 (.slice (some ⟨g, 0, none⟩) (l.length + 1) cp) (l.length + 1) (keysV l ++ [.string s]))
    (hmap1 : MapN 3 (w1.setCell ⟨t, 0, none⟩ (.slice (some ⟨g, 0, none⟩) (l.length + 1) cp)) mb l)
    (hmap2 : MapN 3 w2 mb (l ++ [(s, n)])) (hg : (w1.setCell ⟨t, 0, none⟩ (.slice (some ⟨g, 0, none⟩) (l.length + 1) cp)).grownBy w2 (some mb)) : TallyAt K w2 t (l ++ [(s, n)]) := by
  have hb2 := two_set0 hb1 (.slice (some ⟨g, 0, none⟩) (l.length + 1) cp)
  have ho2 := ownsRow_setCell_other hown1 (a := ⟨t, 0, none⟩) (own_ne hown1 hb1 (by decide)) (.slice (some ⟨g, 0, none⟩) (l.length + 1) cp)
  refine ⟨.slice (some ⟨g, 0, none⟩) (l.length + 1) cp, mb, ?_, hBt, hBm, (fun k hk => by simp [Value.ownBlock] at hk; subst hk; exact hBg), ?_, hmap2⟩
  · rw [hg.block t (lt_of_block hb2) (by intro e; cases e; exact map_ne hmap1 hb2 rfl), hb2]
  · have e : (l ++ [(s, n)]).length = l.length + 1 := by simp
    have e2 : keysV (l ++ [(s, n)]) = keysV l ++ [.string s] := by simp [keysV]
    rw [e, e2]
    exact ho2.kept hg (.inr (own_map_ne ho2 hmap1))

set_option maxHeartbeats 800000 in
theorem add_new (K : Nat → Prop) (t : Nat) (l : List Itm) (s : ByteArray) (n : Int) (w : World) (hK : ∀ k, K k → k < w.heap.size) (h : TallyAt K w t l) (hs : s.size ≤ 9223372036854775807) (hl : l.length ≤ 1048576) (hn : -9223372036854775808 ≤ n ∧ n ≤ 9223372036854775807)
    (hhas : hasI l s = false) :
    Calls Try.prog 86 #[.pointer (some ⟨t, 0, none⟩), .string s, .int .i64 n] w (AddPost K t (l ++ [(s, n)]) w) := by
  obtain ⟨v, mb, hb, hBt, hBm, hBv, hown, hmap⟩ := h
  have hcnt := cnt_none hhas
  have hput := putI_new (n := n) hhas
  have HH := Lib.hid hhas
  have HC := Lib.hid hcnt
  have HP := Lib.hid hput
  have HV := Lib.hid hBv
  have HKK := Lib.hid hK
  clear hhas hcnt hput hBv hK
  obtain ⟨i0, hi, hz0, hz1, hz2⟩ := info_parts Try.infoS
  have c0 := two_cell0 hb
  have c1 := two_cell1 hb
  have f0 := two_free hb 0
  have hbs := lt_of_block hb
  have hw64 : (Lit.int .i64 n).wf = true := WalkArith.wf_i64 (by omega)
  go_enter Try.func86, Try.ntmps86
  go_wp2_with (first
    | (at_lookup; refine wpl_lookokN _ rfl _ _ 65 rfl hmap Try.underlying65 Try.underlying3 (zeroN _) rfl _ rfl hs ?_; rw [HH.out, HC.out])
    | (at_builtin; refine wpList_append_own_at _ rfl _ _ 31 rfl 0 9 i0 (.string ⟨#[]⟩) 1 16 Try.underlying31 hi hz0 hz1 hz2 rfl (by decide) v l.length (keysV l) rfl (hown.alloc _) ⟨w.heap.size, 0, none⟩ 1 1 [.string s] rfl rfl (cell_one_new _ _ _) (by intro u hu; simp at hu; subst hu; rfl) (by unfold maxLen; omega) (by omega) (by simp) ?_; intro v' w1 hown1 hgrow1 hnil1 hloc1; obtain ⟨g, cp, rfl, hcp, hgB⟩ := own_shape hown1 (by omega); have HL := Lib.hid hloc1; clear hloc1 hnil1; have hb1 := grow_block hb hgrow1 (own_ne hown hb (by decide)); have c0' := two_cell0 hb1; have c1' := two_cell1 hb1; have f0' := two_free hb1 0; have hmap1 := ((hmap.alloc _).kept hgrow1 (Ne.symm (own_map_ne hown hmap))).of_block (Below.heap_setCell w1 ⟨t, 0, none⟩ (.slice (some ⟨g, 0, none⟩) (l.length + 1) cp) mb (map_ne hmap hb)); clear c0 c1 f0)
    | (at_lookup; refine wpl_lookN _ rfl _ _ 65 rfl (by assumption) Try.underlying65 Try.underlying3 (zeroN _) rfl _ rfl hs ?_; rw [HC.out])
    | (at_mapUpdate; refine wpl_storeN _ rfl _ _ _ 65 rfl (by assumption) Try.underlying65 Try.underlying3 rfl _ rfl _ rfl hs (by go_wf) (by omega) ?_; intro w2 hmap2 hgrow2; rw [HP.out] at hmap2))
  go_end0
  have hg : ¬ K g := by
    rcases HL.out with h | h
    · exact HV.out g (h.symm.trans (by simp [Value.ownBlock]))
    · intro hk
      have := HKK.out g hk
      simp [Value.ownBlock] at h
      omega
  exact ⟨rfl, tally_new hb1 hBt hBm hg hown1 hmap1 hmap2 hgrow2, ((((Keeps.refl K _).alloc HKK.out _).grown hgrow1 HKK.out HV.out).setCell hBt _).grown hgrow2 HKK.out (fun k hk => by cases hk; exact hBm)⟩

theorem tally_old {K : Nat → Prop} {w w2 : World} {t mb : Nat} {l : List Itm} {s : ByteArray} {n : Int} {v : Value} (hb : w.heap[t]? = some (.cells #[v, .map (some mb)] 67 (0, 0))) (hBt : ¬ K t) (hBm : ¬ K mb) (hBv : ∀ g, v.ownBlock = some g → ¬ K g)
    (hown : w.ownsRow 0 9 1 v l.length (keysV l)) (hmap : MapN 3 w mb l) (hmap2 : MapN 3 w2 mb (putI l s n)) (hg : w.grownBy w2 (some mb)) (hh : hasI l s = true) : TallyAt K w2 t (putI l s n) := by
  have hk := putI_keys (n := n) hh
  have hl : (putI l s n).length = l.length := by simpa using congrArg List.length hk
  have hk' : keysV (putI l s n) = keysV l := by
    have := congrArg (List.map Value.string) hk
    simpa [keysV, Function.comp_def] using this
  refine ⟨v, mb, ?_, hBt, hBm, hBv, ?_, hmap2⟩
  · rw [hg.block t (lt_of_block hb) (by intro e; cases e; exact map_ne hmap hb rfl), hb]
  · rw [hl, hk']
    exact hown.kept hg (.inr (own_map_ne hown hmap))

set_option maxHeartbeats 800000 in
theorem add_old (K : Nat → Prop) (t : Nat) (l : List Itm) (s : ByteArray) (n : Int) (w : World) (hK : ∀ k, K k → k < w.heap.size) (h : TallyAt K w t l) (hs : s.size ≤ 9223372036854775807) (hl : l.length ≤ 1048576) (hn : -9223372036854775808 ≤ cnt l s + n ∧ cnt l s + n ≤ 9223372036854775807)
    (hhas : hasI l s = true) :
    Calls Try.prog 86 #[.pointer (some ⟨t, 0, none⟩), .string s, .int .i64 n] w (AddPost K t (putI l s (cnt l s + n)) w) := by
  obtain ⟨v, mb, hb, hBt, hBm, hBv, hown, hmap⟩ := h
  have HH := Lib.hid hhas
  have HV := Lib.hid hBv
  have HKK := Lib.hid hK
  clear hhas hBv hK
  have c0 := two_cell0 hb
  have c1 := two_cell1 hb
  have hbs := lt_of_block hb
  have hw64 : (Lit.int .i64 (cnt l s + n)).wf = true := WalkArith.wf_i64 (by omega)
  go_enter Try.func86, Try.ntmps86
  go_wp2_with (first
    | (at_lookup; refine wpl_lookokN _ rfl _ _ 65 rfl hmap Try.underlying65 Try.underlying3 (zeroN _) rfl _ rfl hs ?_; rw [HH.out])
    | (at_lookup; refine wpl_lookN _ rfl _ _ 65 rfl hmap Try.underlying65 Try.underlying3 (zeroN _) rfl _ rfl hs ?_)
    | (at_mapUpdate; refine wpl_storeN _ rfl _ _ _ 65 rfl hmap Try.underlying65 Try.underlying3 rfl _ rfl (cnt l s + n) rfl hs hw64 (by omega) ?_; intro w2 hmap2 hgrow2))
  go_end0
  exact ⟨rfl, tally_old hb hBt hBm HV.out hown hmap hmap2 hgrow2 HH.out, (Keeps.refl K _).grown hgrow2 HKK.out (fun k hk => by cases hk; exact hBm)⟩

theorem add_any (K : Nat → Prop) (t : Nat) (l : List Itm) (s : ByteArray) (n : Int) (w : World) (hK : ∀ k, K k → k < w.heap.size) (h : TallyAt K w t l) (hs : s.size ≤ 9223372036854775807) (hl : l.length ≤ 1048576) (hn : -9223372036854775808 ≤ cnt l s + n ∧ cnt l s + n ≤ 9223372036854775807) :
    Calls Try.prog 86 #[.pointer (some ⟨t, 0, none⟩), .string s, .int .i64 n] w (AddPost K t (putI l s (cnt l s + n)) w) := by
  cases hh : hasI l s
  · rw [cnt_none hh, Int.zero_add] at hn ⊢
    rw [putI_new hh]
    exact add_new K t l s n w hK h hs hl hn hh
  · exact add_old K t l s n w hK h hs hl hn hh

theorem newTally_any (K : Nat → Prop) (w : World) (hK : ∀ k, K k → k < w.heap.size) :
    Calls Try.prog 85 #[] w fun e w' => ∃ t, e = .returned (.pointer (some ⟨t, 0, none⟩)) ∧ TallyAt K w' t [] ∧ Keeps K w w' := by
  have hmm := @run_makeMap Try.prog
  go_enter Try.func85, Try.ntmps85
  go_wp2
  go_ret
  have h1 : (w.alloc (.map #[] 0)).heap.size = w.heap.size + 1 := by simp
  have hb : ((w.alloc (.map #[] 0)).alloc (.cells #[.slice none 0 0, .map (some w.heap.size)] 67)).heap[w.heap.size + 1]? = some (.cells #[.slice none 0 0, .map (some w.heap.size)] 67 (0, 0)) := by
    rw [← h1]; exact heap_alloc_new _ _
  exact ⟨w.heap.size + 1, rfl, ⟨.slice none 0 0, w.heap.size, hb, fun hk => by have := hK _ hk; omega, fun hk => by have := hK _ hk; omega, fun g hg => by simp [Value.ownBlock] at hg, World.ownsRow_nil _ _ _ _, (MapN_made _ w).alloc _⟩, ((Keeps.refl K w).alloc hK _).alloc hK _⟩

theorem tally_reset {K : Nat → Prop} {w w1 : World} {t mb : Nat} {v : Value} {l : List Itm} (hb : w.heap[t]? = some (.cells #[v, .map (some mb)] 67 (0, 0))) (hBt : ¬ K t) (hBm : ¬ K mb) (hmap : MapN 3 w mb l)
    (hmap1 : MapN 3 w1 mb []) (hg : (w.setCell ⟨t, 0, none⟩ (.slice none 0 0)).grownBy w1 (some mb)) : TallyAt K w1 t [] := by
  have hb2 := two_set0 hb (.slice none 0 0)
  refine ⟨.slice none 0 0, mb, ?_, hBt, hBm, fun g hg => by simp [Value.ownBlock] at hg, World.ownsRow_nil _ _ _ _, hmap1⟩
  rw [hg.block t (lt_of_block hb2) (by intro e; cases e; exact map_ne hmap hb rfl), hb2]

set_option maxHeartbeats 1600000 in
theorem sum_any (K : Nat → Prop) (t : Nat) (l : List Itm) (va vb : Value) (a b : List Itm) (m : Int) (w : World) (hK : ∀ k, K k → k < w.heap.size) (h : TallyAt K w t l) (ha : Items w va a) (hb : Items w vb b)
    (hka : InK K va) (hkb : InK K vb) (hsa : smallI a 1) (hsb : smallI b m) :
    Calls Try.prog 111 #[.pointer (some ⟨t, 0, none⟩), va, vb, .int .i64 m] w (AddPost K t (sumL a b m) w) := by
  have hb0 := Lib.hid hb
  obtain ⟨v, mb, hbl, hBt, hBm, hBv, hown, hmap⟩ := h
  obtain ⟨ao, acap, rfl, hlc, hcm, hok, hcell⟩ := ha
  have HV := Lib.hid hBv
  have HKK := Lib.hid hK
  clear hBv hK
  have c0 := two_cell0 hbl
  have c1 := two_cell1 hbl
  have f0 := two_free hbl 0
  have hbs := lt_of_block hbl
  go_enter Try.func111, Try.ntmps111
  go_wp2_with (refine wpl_clearN _ rfl (.tmp 18) 65 rfl (hmap.of_block (Below.heap_setCell w ⟨t, 0, none⟩ (.slice none 0 0) mb (map_ne hmap hbl))) Try.underlying65 rfl ?_; intro w1 hmap1 hgrow1)
  have hT1 := tally_reset hbl hBt hBm hmap hmap1 hgrow1
  have hk1 : Keeps K w w1 := ((Keeps.refl K w).setCell hBt _).grown hgrow1 HKK.out (fun k hk => by cases hk; exact hBm)
  clear hmap1 hgrow1 c0 c1 f0
  go_loopw [21] (fun i wr => ∃ k : Nat, k ≤ a.length ∧ i = .int .i64 k ∧ TallyAt K wr t (addAll [] (a.take k) 1) ∧ Keeps K w wr) (fun i _ => a.length - (intOf i).toNat)
  case atStart => exact ⟨0, Nat.zero_le _, rfl, hT1, hk1⟩
  case round =>
    obtain ⟨k, hk, rfl, hT, hkp⟩ := hrel
    by_cases hlt : k < a.length
    · obtain ⟨b1, o1, rfl, hb1, h1, h2⟩ := hcell k hlt
      have hkb1 : K b1 := hka _ _ _ rfl (by omega)
      have c1 := (hkp.cell (a := ⟨b1, o1 + k * 2, none⟩) hkb1).trans h1
      have c2 := (hkp.cell (a := ⟨b1, o1 + k * 2 + 1, none⟩) hkb1).trans h2
      have hs := (hok _ (List.getElem_mem hlt)).1
      have hsm := Lib.hid (sum_step (t := []) (m := 1) hsa cntLe_nil hlt)
      have hln := addAll_length (a.take k) 1 []
      have hl40 := hsa.1
      go_wp2_with (go_at_call 86; refine (add_any K t (addAll [] (a.take k) 1) _ _ _ (fun j hj => Nat.lt_of_lt_of_le (HKK.out j hj) (Nat.le_trans hkp.size (by simp))) (hT.alloc _) hs (by simp at hln; omega) (by have := hsm.out; omega)).mono ?_; rintro e w2 ⟨rfl, hT2, hk2⟩)
      have hT3 := Lib.hid hT2
      clear hT2 hT c1 c2 h1 h2 hln
      go_roundw
      case rel => exact ⟨k + 1, by omega, by go_num, by have := hT3.out; rw [addAll_take hlt, Int.mul_one]; exact this, hkp.trans (((Keeps.refl K wr).alloc (fun j hj => Nat.lt_of_lt_of_le (HKK.out j hj) hkp.size) _).trans hk2)⟩
      case measure => simp [intOf]; omega
    · obtain rfl : k = a.length := by omega
      rw [List.take_length] at hT
      obtain ⟨bo, bcap, rfl, hlc2, hcm2, hok2, hcell2⟩ := hb0.out
      have hla := addAll_length a 1 []
      have hca : cntLe (addAll [] a 1) (0 + a.length * 1000000000) := addAll_le a 1 hsa.2 [] 0 cntLe_nil
      have hl40 := hsa.1
      have hl41 := hsb.1
      clear hcell hok hb
      go_wp2
      obtain ⟨wq, rfl⟩ : ∃ wq : World, wq = wr := ⟨_, rfl⟩
      go_loopw [34] (fun i wr => ∃ k : Nat, k ≤ b.length ∧ i = .int .i64 k ∧ TallyAt K wr t (addAll (addAll [] a 1) (b.take k) m) ∧ Keeps K w wr) (fun i _ => b.length - (intOf i).toNat)
      case atStart => exact ⟨0, Nat.zero_le _, rfl, hT, hkp⟩
      case round =>
        obtain ⟨k, hk, rfl, hT, hkp⟩ := hrel
        by_cases hlt : k < b.length
        · obtain ⟨b1, o1, rfl, hb1, h1, h2⟩ := hcell2 k hlt
          have hkb1 : K b1 := hkb _ _ _ rfl (by omega)
          have c1 := (hkp.cell (a := ⟨b1, o1 + k * 2, none⟩) hkb1).trans h1
          have c2 := (hkp.cell (a := ⟨b1, o1 + k * 2 + 1, none⟩) hkb1).trans h2
          have hs := (hok2 _ (List.getElem_mem hlt)).1
          have hsm := Lib.hid (sum_step hsb hca hlt)
          have hln := addAll_length (b.take k) m (addAll [] a 1)
          have hmul := hsb.2 _ (List.getElem_mem hlt)
          have hmul1 := hmul.1
          have hmul2 := hmul.2
          clear hmul
          go_wp2_with (go_at_call 86; refine (add_any K t (addAll (addAll [] a 1) (b.take k) m) _ _ _ (fun j hj => Nat.lt_of_lt_of_le (HKK.out j hj) (Nat.le_trans hkp.size (by simp))) (hT.alloc _) hs (by simp at hln hla; omega) (by have := hsm.out; omega)).mono ?_; rintro e w2 ⟨rfl, hT2, hk2⟩)
          have hT3 := Lib.hid hT2
          clear hT2 hT c1 c2 h1 h2 hln hmul1 hmul2
          go_roundw
          case rel => exact ⟨k + 1, by omega, by go_num, by have := hT3.out; rw [addAll_take hlt]; exact this, hkp.trans (((Keeps.refl K wr).alloc (fun j hj => Nat.lt_of_lt_of_le (HKK.out j hj) hkp.size) _).trans hk2)⟩
          case measure => simp [intOf]; omega
        · obtain rfl : k = b.length := by omega
          rw [List.take_length] at hT
          go_wp2
          go_end0
          exact ⟨rfl, hT, hkp⟩
end Go.Proofs.Ytbiflkekhabpoaa
