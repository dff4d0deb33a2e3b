/-
  The program's tally: a struct of an order of keys and a map of counts, behind a pointer.
-/
import Derived.Test.YtloalakpkjbeaaaKeep
namespace Go.Proofs.Ytloalakpkjbeaaa
open Go.RowKit


def keysV (l : List Itm) : List Value := l.map fun x => .string x.1

/-- Block t is a tally of the items l; none of its memory lies in K. -/
def TallyAt (K : Nat → Prop) (w : World) (t : Nat) (l : List Itm) : Prop :=
  ∃ (v : Value) (mb : Nat), w.heap[t]? = some (.cells #[v, .map (some mb)] 56 (0, 0)) ∧ ¬ K t ∧ ¬ K mb ∧ (∀ g, v.ownBlock = some g → ¬ K g) ∧ w.ownsRow 0 9 1 v l.length (keysV l) ∧ MapN 3 w mb l

theorem map_ne {w : World} {e mb t T : Nat} {l : List Itm} {cs : Array Value} (h : MapN e w mb l) (ht : w.heap[t]? = some (.cells cs T (0, 0))) : mb ≠ t := by
  rintro rfl
  obtain ⟨D, ⟨es, clock, hb, _⟩, _⟩ := h
  rw [hb] at ht
  simp at ht

theorem own_map_ne {w : World} {B E S e mb n : Nat} {v : Value} {xs : List Value} {l : List Itm} (h : w.ownsRow B E S v n xs) (hm : MapN e w mb l) : v.ownBlock ≠ some mb := by
  obtain ⟨D, ⟨es, clock, hb, _⟩, _⟩ := hm
  rcases h.2 with ⟨rfl, _⟩ | ⟨g, cap, cur, rfl, hb', hg, r⟩
  · simp [Value.ownBlock]
  · simp only [Value.ownBlock, ne_eq, Option.some.injEq]
    rintro rfl
    rw [hg] at hb
    simp at hb


theorem TallyAt.alloc {K : Nat → Prop} {w : World} {t : Nat} {l : List Itm} (h : TallyAt K w t l) (o : Obj) : TallyAt K (w.alloc o) t l := by
  obtain ⟨v, mb, hb, h1, h2, h3, h4, h5⟩ := h
  exact ⟨v, mb, (Below.heap_alloc _ _ _ (lt_of_block hb)).trans hb, h1, h2, h3, h4.alloc o, h5.alloc o⟩

theorem sum_step {t b : List Itm} {m M : Int} {k : Nat} (hb : smallI b m) (ht : cntLe t M) (hk : k < b.length) :
    -(M + 40 * 1000000000 + 1000000000) ≤ cnt (addAll t (b.take k) m) b[k].1 + b[k].2 * m ∧ cnt (addAll t (b.take k) m) b[k].1 + b[k].2 * m ≤ M + 40 * 1000000000 + 1000000000 := by
  have h1 := addAll_le (b.take k) m (take_small hb k).2 t M ht b[k].1
  have h2 := hb.2 _ (List.getElem_mem hk)
  have h3 := hb.1
  have h4 : (b.take k).length ≤ 40 := (take_small hb k).1
  omega

def AddPost (K : Nat → Prop) (t : Nat) (l : List Itm) (w : World) (e : Ending) (w' : World) : Prop :=
  e = .returned (.tuple #[]) ∧ TallyAt K w' t l ∧ Keeps K w w'

theorem tally_new {K : Nat → Prop} {w1 w2 : World} {t mb g cp : Nat} {l : List Itm} {s : ByteArray} {n : Int} {v : Value} (hb1 : w1.heap[t]? = some (.cells #[v, .map (some mb)] 56 (0, 0))) (hBt : ¬ K t) (hBm : ¬ K mb) (hBg : ¬ K g)
    (hown1 : w1.ownsRow 0 9 1 (.slice (some ⟨g, 0, none⟩) (l.length + 1) cp) (l.length + 1) (keysV l ++ [.string s]))
    (hmap1 : MapN 3 (w1.setCell ⟨t, 0, none⟩ (.slice (some ⟨g, 0, none⟩) (l.length + 1) cp)) mb l)
    (hmap2 : MapN 3 w2 mb (l ++ [(s, n)])) (hg : (w1.setCell ⟨t, 0, none⟩ (.slice (some ⟨g, 0, none⟩) (l.length + 1) cp)).grownBy w2 (some mb)) : TallyAt K w2 t (l ++ [(s, n)]) := by
  have hb2 := two_set0 hb1 (.slice (some ⟨g, 0, none⟩) (l.length + 1) cp)
  have ho2 := ownsRow_setCell_other hown1 (a := ⟨t, 0, none⟩) (own_ne hown1 hb1 (by decide)) (.slice (some ⟨g, 0, none⟩) (l.length + 1) cp)
  refine ⟨.slice (some ⟨g, 0, none⟩) (l.length + 1) cp, mb, ?_, hBt, hBm, (fun k hk => by simp [Value.ownBlock] at hk; subst hk; exact hBg), ?_, hmap2⟩
  · rw [hg.block t (lt_of_block hb2) (by intro e; cases e; exact map_ne hmap1 hb2 rfl), hb2]
  · have e : (l ++ [(s, n)]).length = l.length + 1 := by simp
    have e2 : keysV (l ++ [(s, n)]) = keysV l ++ [.string s] := by simp [keysV]
    rw [e, e2]
    exact ho2.kept hg (.inr (own_map_ne ho2 hmap1))

set_option maxHeartbeats 800000 in
theorem add_new (K : Nat → Prop) (t : Nat) (l : List Itm) (s : ByteArray) (n : Int) (w : World) (hK : ∀ k, K k → k < w.heap.size) (h : TallyAt K w t l) (hs : s.size ≤ 9223372036854775807) (hl : l.length ≤ 1048576) (hn : -9223372036854775808 ≤ n ∧ n ≤ 9223372036854775807)
    (hhas : hasI l s = false) :
    Calls Try.prog 97 #[.pointer (some ⟨t, 0, none⟩), .string s, .int .i64 n] w (AddPost K t (l ++ [(s, n)]) w) := by
  obtain ⟨v, mb, hb, hBt, hBm, hBv, hown, hmap⟩ := h
  have hcnt := cnt_none hhas
  have hput := putI_new (n := n) hhas
  have HH := Lib.hid hhas
  have HC := Lib.hid hcnt
  have HP := Lib.hid hput
  have HV := Lib.hid hBv
  have HKK := Lib.hid hK
  clear hhas hcnt hput hBv hK
  obtain ⟨i0, hi, hz0, hz1, hz2⟩ := info_parts Try.infoS
  have c0 := two_cell0 hb
  have c1 := two_cell1 hb
  have f0 := two_free hb 0
  have hbs := lt_of_block hb
  have hw64 : (Lit.int .i64 n).wf = true := WalkArith.wf_i64 (by omega)
  go_enter Try.func97, Try.ntmps97
  go_wp2_with (first
    | (at_lookup; refine wpl_lookokN _ rfl _ _ 54 rfl hmap Try.underlying54 Try.underlying3 (zeroN _) rfl _ rfl hs ?_; rw [HH.out, HC.out])
    | (at_builtin; refine wpList_append_own_at _ rfl _ _ 41 rfl 0 9 i0 (.string ⟨#[]⟩) 1 16 Try.underlying41 hi hz0 hz1 hz2 rfl (by decide) v l.length (keysV l) rfl (hown.alloc _) ⟨w.heap.size, 0, none⟩ 1 1 [.string s] rfl rfl (cell_one_new _ _ _) (by intro u hu; simp at hu; subst hu; rfl) (by unfold maxLen; omega) (by omega) (by simp) ?_; intro v' w1 hown1 hgrow1 hnil1 hloc1; obtain ⟨g, cp, rfl, hcp, hgB⟩ := own_shape hown1 (by omega); have HL := Lib.hid hloc1; clear hloc1 hnil1; have hb1 := grow_block hb hgrow1 (own_ne hown hb (by decide)); have c0' := two_cell0 hb1; have c1' := two_cell1 hb1; have f0' := two_free hb1 0; have hmap1 := ((hmap.alloc _).kept hgrow1 (Ne.symm (own_map_ne hown hmap))).of_block (Below.heap_setCell w1 ⟨t, 0, none⟩ (.slice (some ⟨g, 0, none⟩) (l.length + 1) cp) mb (map_ne hmap hb)); clear c0 c1 f0)
    | (at_lookup; refine wpl_lookN _ rfl _ _ 54 rfl (by assumption) Try.underlying54 Try.underlying3 (zeroN _) rfl _ rfl hs ?_; rw [HC.out])
    | (at_mapUpdate; refine wpl_storeN _ rfl _ _ _ 54 rfl (by assumption) Try.underlying54 Try.underlying3 rfl _ rfl _ rfl hs (by go_wf) (by omega) ?_; intro w2 hmap2 hgrow2; rw [HP.out] at hmap2))
  go_end0
  have hg : ¬ K g := by
    rcases HL.out with h | h
    · exact HV.out g (h.symm.trans (by simp [Value.ownBlock]))
    · intro hk
      have := HKK.out g hk
      simp [Value.ownBlock] at h
      omega
  exact ⟨rfl, tally_new hb1 hBt hBm hg hown1 hmap1 hmap2 hgrow2, ((((Keeps.refl K _).alloc HKK.out _).grown hgrow1 HKK.out HV.out).setCell hBt _).grown hgrow2 HKK.out (fun k hk => by cases hk; exact hBm)⟩

theorem tally_old {K : Nat → Prop} {w w2 : World} {t mb : Nat} {l : List Itm} {s : ByteArray} {n : Int} {v : Value} (hb : w.heap[t]? = some (.cells #[v, .map (some mb)] 56 (0, 0))) (hBt : ¬ K t) (hBm : ¬ K mb) (hBv : ∀ g, v.ownBlock = some g → ¬ K g)
    (hown : w.ownsRow 0 9 1 v l.length (keysV l)) (hmap : MapN 3 w mb l) (hmap2 : MapN 3 w2 mb (putI l s n)) (hg : w.grownBy w2 (some mb)) (hh : hasI l s = true) : TallyAt K w2 t (putI l s n) := by
  have hk := putI_keys (n := n) hh
  have hl : (putI l s n).length = l.length := by simpa using congrArg List.length hk
  have hk' : keysV (putI l s n) = keysV l := by
    have := congrArg (List.map Value.string) hk
    simpa [keysV, Function.comp_def] using this
  refine ⟨v, mb, ?_, hBt, hBm, hBv, ?_, hmap2⟩
  · rw [hg.block t (lt_of_block hb) (by intro e; cases e; exact map_ne hmap hb rfl), hb]
  · rw [hl, hk']
    exact hown.kept hg (.inr (own_map_ne hown hmap))

set_option maxHeartbeats 800000 in
theorem add_old (K : Nat → Prop) (t : Nat) (l : List Itm) (s : ByteArray) (n : Int) (w : World) (hK : ∀ k, K k → k < w.heap.size) (h : TallyAt K w t l) (hs : s.size ≤ 9223372036854775807) (hl : l.length ≤ 1048576) (hn : -9223372036854775808 ≤ cnt l s + n ∧ cnt l s + n ≤ 9223372036854775807)
    (hhas : hasI l s = true) :
    Calls Try.prog 97 #[.pointer (some ⟨t, 0, none⟩), .string s, .int .i64 n] w (AddPost K t (putI l s (cnt l s + n)) w) := by
  obtain ⟨v, mb, hb, hBt, hBm, hBv, hown, hmap⟩ := h
  have HH := Lib.hid hhas
  have HV := Lib.hid hBv
  have HKK := Lib.hid hK
  clear hhas hBv hK
  have c0 := two_cell0 hb
  have c1 := two_cell1 hb
  have hbs := lt_of_block hb
  have hw64 : (Lit.int .i64 (cnt l s + n)).wf = true := WalkArith.wf_i64 (by omega)
  go_enter Try.func97, Try.ntmps97
  go_wp2_with (first
    | (at_lookup; refine wpl_lookokN _ rfl _ _ 54 rfl hmap Try.underlying54 Try.underlying3 (zeroN _) rfl _ rfl hs ?_; rw [HH.out])
    | (at_lookup; refine wpl_lookN _ rfl _ _ 54 rfl hmap Try.underlying54 Try.underlying3 (zeroN _) rfl _ rfl hs ?_)
    | (at_mapUpdate; refine wpl_storeN _ rfl _ _ _ 54 rfl hmap Try.underlying54 Try.underlying3 rfl _ rfl (cnt l s + n) rfl hs hw64 (by omega) ?_; intro w2 hmap2 hgrow2))
  go_end0
  exact ⟨rfl, tally_old hb hBt hBm HV.out hown hmap hmap2 hgrow2 HH.out, (Keeps.refl K _).grown hgrow2 HKK.out (fun k hk => by cases hk; exact hBm)⟩

theorem add_any (K : Nat → Prop) (t : Nat) (l : List Itm) (s : ByteArray) (n : Int) (w : World) (hK : ∀ k, K k → k < w.heap.size) (h : TallyAt K w t l) (hs : s.size ≤ 9223372036854775807) (hl : l.length ≤ 1048576) (hn : -9223372036854775808 ≤ cnt l s + n ∧ cnt l s + n ≤ 9223372036854775807) :
    Calls Try.prog 97 #[.pointer (some ⟨t, 0, none⟩), .string s, .int .i64 n] w (AddPost K t (putI l s (cnt l s + n)) w) := by
  cases hh : hasI l s
  · rw [cnt_none hh, Int.zero_add] at hn ⊢
    rw [putI_new hh]
    exact add_new K t l s n w hK h hs hl hn hh
  · exact add_old K t l s n w hK h hs hl hn hh

theorem newTally_any (K : Nat → Prop) (w : World) (hK : ∀ k, K k → k < w.heap.size) :
    Calls Try.prog 75 #[] w fun e w' => ∃ t, e = .returned (.pointer (some ⟨t, 0, none⟩)) ∧ TallyAt K w' t [] ∧ Keeps K w w' := by
  have hmm := @run_makeMap Try.prog
  go_enter Try.func75, Try.ntmps75
  go_wp2
  go_ret
  have h1 : (w.alloc (.map #[] 0)).heap.size = w.heap.size + 1 := by simp
  have hb : ((w.alloc (.map #[] 0)).alloc (.cells #[.slice none 0 0, .map (some w.heap.size)] 56)).heap[w.heap.size + 1]? = some (.cells #[.slice none 0 0, .map (some w.heap.size)] 56 (0, 0)) := by
    rw [← h1]; exact heap_alloc_new _ _
  exact ⟨w.heap.size + 1, rfl, ⟨.slice none 0 0, w.heap.size, hb, fun hk => by have := hK _ hk; omega, fun hk => by have := hK _ hk; omega, fun g hg => by simp [Value.ownBlock] at hg, World.ownsRow_nil _ _ _ _, (MapN_made _ w).alloc _⟩, ((Keeps.refl K w).alloc hK _).alloc hK _⟩

theorem tally_reset {K : Nat → Prop} {w w1 : World} {t mb : Nat} {v : Value} {l : List Itm} (hb : w.heap[t]? = some (.cells #[v, .map (some mb)] 56 (0, 0))) (hBt : ¬ K t) (hBm : ¬ K mb) (hmap : MapN 3 w mb l)
    (hmap1 : MapN 3 w1 mb []) (hg : (w.setCell ⟨t, 0, none⟩ (.slice none 0 0)).grownBy w1 (some mb)) : TallyAt K w1 t [] := by
  have hb2 := two_set0 hb (.slice none 0 0)
  refine ⟨.slice none 0 0, mb, ?_, hBt, hBm, fun g hg => by simp [Value.ownBlock] at hg, World.ownsRow_nil _ _ _ _, hmap1⟩
  rw [hg.block t (lt_of_block hb2) (by intro e; cases e; exact map_ne hmap hb rfl), hb2]

set_option maxHeartbeats 1600000 in
theorem sum_any (K : Nat → Prop) (t : Nat) (l : List Itm) (va vb : Value) (a b : List Itm) (m : Int) (w : World) (hK : ∀ k, K k → k < w.heap.size) (h : TallyAt K w t l) (ha : Items w va a) (hb : Items w vb b)
    (hka : InK K va) (hkb : InK K vb) (hsa : smallI a 1) (hsb : smallI b m) :
    Calls Try.prog 89 #[.pointer (some ⟨t, 0, none⟩), va, vb, .int .i64 m] w (AddPost K t (sumL a b m) w) := by
  have hb0 := Lib.hid hb
  obtain ⟨v, mb, hbl, hBt, hBm, hBv, hown, hmap⟩ := h
  obtain ⟨ao, acap, rfl, hlc, hcm, hok, hcell⟩ := ha
  have HV := Lib.hid hBv
  have HKK := Lib.hid hK
  clear hBv hK
  have c0 := two_cell0 hbl
  have c1 := two_cell1 hbl
  have f0 := two_free hbl 0
  have hbs := lt_of_block hbl
  go_enter Try.func89, Try.ntmps89
  go_wp2_with (refine wpl_clearN _ rfl (.tmp 18) 54 rfl (hmap.of_block (Below.heap_setCell w ⟨t, 0, none⟩ (.slice none 0 0) mb (map_ne hmap hbl))) Try.underlying54 rfl ?_; intro w1 hmap1 hgrow1)
  have hT1 := tally_reset hbl hBt hBm hmap hmap1 hgrow1
  have hk1 : Keeps K w w1 := ((Keeps.refl K w).setCell hBt _).grown hgrow1 HKK.out (fun k hk => by cases hk; exact hBm)
  clear hmap1 hgrow1 c0 c1 f0
  go_loopw [21] (fun i wr => ∃ k : Nat, k ≤ a.length ∧ i = .int .i64 k ∧ TallyAt K wr t (addAll [] (a.take k) 1) ∧ Keeps K w wr) (fun i _ => a.length - (intOf i).toNat)
  case atStart => exact ⟨0, Nat.zero_le _, rfl, hT1, hk1⟩
  case round =>
    obtain ⟨k, hk, rfl, hT, hkp⟩ := hrel
    by_cases hlt : k < a.length
    · obtain ⟨b1, o1, rfl, hb1, h1, h2⟩ := hcell k hlt
      have hkb1 : K b1 := hka _ _ _ rfl (by omega)
      have c1 := (hkp.cell (a := ⟨b1, o1 + k * 2, none⟩) hkb1).trans h1
      have c2 := (hkp.cell (a := ⟨b1, o1 + k * 2 + 1, none⟩) hkb1).trans h2
      have hs := (hok _ (List.getElem_mem hlt)).1
      have hsm := Lib.hid (sum_step (t := []) (m := 1) hsa cntLe_nil hlt)
      have hln := addAll_length (a.take k) 1 []
      have hl40 := hsa.1
      go_wp2_with (go_at_call 97; refine (add_any K t (addAll [] (a.take k) 1) _ _ _ (fun j hj => Nat.lt_of_lt_of_le (HKK.out j hj) (Nat.le_trans hkp.size (by simp))) (hT.alloc _) hs (by simp at hln; omega) (by have := hsm.out; omega)).mono ?_; rintro e w2 ⟨rfl, hT2, hk2⟩)
      have hT3 := Lib.hid hT2
      clear hT2 hT c1 c2 h1 h2 hln
      go_roundw
      case rel => exact ⟨k + 1, by omega, by go_num, by have := hT3.out; rw [addAll_take hlt, Int.mul_one]; exact this, hkp.trans (((Keeps.refl K wr).alloc (fun j hj => Nat.lt_of_lt_of_le (HKK.out j hj) hkp.size) _).trans hk2)⟩
      case measure => simp [intOf]; omega
    · obtain rfl : k = a.length := by omega
      rw [List.take_length] at hT
      obtain ⟨bo, bcap, rfl, hlc2, hcm2, hok2, hcell2⟩ := hb0.out
      have hla := addAll_length a 1 []
      have hca : cntLe (addAll [] a 1) (0 + a.length * 1000000000) := addAll_le a 1 hsa.2 [] 0 cntLe_nil
      have hl40 := hsa.1
      have hl41 := hsb.1
      clear hcell hok hb
      go_wp2
      obtain ⟨wq, rfl⟩ : ∃ wq : World, wq = wr := ⟨_, rfl⟩
      go_loopw [34] (fun i wr => ∃ k : Nat, k ≤ b.length ∧ i = .int .i64 k ∧ TallyAt K wr t (addAll (addAll [] a 1) (b.take k) m) ∧ Keeps K w wr) (fun i _ => b.length - (intOf i).toNat)
      case atStart => exact ⟨0, Nat.zero_le _, rfl, hT, hkp⟩
      case round =>
        obtain ⟨k, hk, rfl, hT, hkp⟩ := hrel
        by_cases hlt : k < b.length
        · obtain ⟨b1, o1, rfl, hb1, h1, h2⟩ := hcell2 k hlt
          have hkb1 : K b1 := hkb _ _ _ rfl (by omega)
          have c1 := (hkp.cell (a := ⟨b1, o1 + k * 2, none⟩) hkb1).trans h1
          have c2 := (hkp.cell (a := ⟨b1, o1 + k * 2 + 1, none⟩) hkb1).trans h2
          have hs := (hok2 _ (List.getElem_mem hlt)).1
          have hsm := Lib.hid (sum_step hsb hca hlt)
          have hln := addAll_length (b.take k) m (addAll [] a 1)
          have hmul := hsb.2 _ (List.getElem_mem hlt)
          have hmul1 := hmul.1
          have hmul2 := hmul.2
          clear hmul
          go_wp2_with (go_at_call 97; refine (add_any K t (addAll (addAll [] a 1) (b.take k) m) _ _ _ (fun j hj => Nat.lt_of_lt_of_le (HKK.out j hj) (Nat.le_trans hkp.size (by simp))) (hT.alloc _) hs (by simp at hln hla; omega) (by have := hsm.out; omega)).mono ?_; rintro e w2 ⟨rfl, hT2, hk2⟩)
          have hT3 := Lib.hid hT2
          clear hT2 hT c1 c2 h1 h2 hln hmul1 hmul2
          go_roundw
          case rel => exact ⟨k + 1, by omega, by go_num, by have := hT3.out; rw [addAll_take hlt]; exact this, hkp.trans (((Keeps.refl K wr).alloc (fun j hj => Nat.lt_of_lt_of_le (HKK.out j hj) hkp.size) _).trans hk2)⟩
          case measure => simp [intOf]; omega
        · obtain rfl : k = b.length := by omega
          rw [List.take_length] at hT
          go_wp2
          go_end0
          exact ⟨rfl, hT, hkp⟩
end Go.Proofs.Ytloalakpkjbeaaa
