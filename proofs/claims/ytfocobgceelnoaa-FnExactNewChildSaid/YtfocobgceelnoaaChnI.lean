/-
  Chains by the program: copied, one map replaced, an item put, an item dropped.
-/
import Derived.Test.YtfocobgceelnoaaChnC
import Derived.Test.YtfocobgceelnoaaTurn
import Derived.Test.YtfocobgceelnoaaImplP
namespace Go.Proofs.Ytfocobgceelnoaa
open Go.RowKit

theorem RowZ.slice {lo hi : Nat} {w : World} {v : Value} {xs : List Itm} (h : RowZ lo hi w v xs) : ∃ ao cap, v = .slice ao xs.length cap ∧ xs.length ≤ cap ∧ cap ≤ 9223372036854775807 := by
  obtain ⟨ao, cap, e, h1, h2, _⟩ := h.items
  exact ⟨ao, cap, e, h1, h2⟩
/-- One row put in the place of another. -/
theorem RowsZ.put {lo1 hi1 lo2 hi2 lo hi : Nat} {w : World} {us : List Value} {ls : List (List Itm)} {k : Nat} {u : Value} {l : List Itm} (h : RowsZ lo1 hi1 w us ls) (hu : RowZ lo2 hi2 w u l) (hk : k < ls.length) (hd : hi2 ≤ lo1 ∨ hi1 ≤ lo2) (h1 : lo ≤ lo1) (h2 : lo ≤ lo2) (h3 : hi1 ≤ hi) (h4 : hi2 ≤ hi) : RowsZ lo hi w (us.set k u) (ls.set k l) := by
  have hku : k < us.length := by rw [h.len]; exact hk
  have oldu : ∀ j p, (us.set k u)[j]? = some p → (j = k ∧ p = u) ∨ (j ≠ k ∧ us[j]? = some p) := by
    intro j p hp
    rw [List.getElem?_set] at hp
    by_cases hj : k = j
    · subst hj
      simp [hku] at hp
      exact .inl ⟨rfl, hp.symm⟩
    · rw [if_neg hj] at hp
      exact .inr ⟨fun e => hj e.symm, hp⟩
  have oldl : ∀ j p, (ls.set k l)[j]? = some p → (j = k ∧ p = l) ∨ (j ≠ k ∧ ls[j]? = some p) := by
    intro j p hp
    rw [List.getElem?_set] at hp
    by_cases hj : k = j
    · subst hj
      simp [hk] at hp
      exact .inl ⟨rfl, hp.symm⟩
    · rw [if_neg hj] at hp
      exact .inr ⟨fun e => hj e.symm, hp⟩
  refine ⟨by simp [h.len], ?_, ?_⟩
  · intro j x m hx hm
    rcases oldu j x hx with ⟨rfl, rfl⟩ | ⟨hj, hx⟩
    · rcases oldl _ m hm with ⟨_, rfl⟩ | ⟨hj', _⟩
      · exact hu.wide h2 h4
      · exact absurd rfl hj'
    · rcases oldl j m hm with ⟨e, _⟩ | ⟨_, hm⟩
      · exact absurd e hj
      · exact (h.row j x m hx hm).wide h1 h3
  · intro i j x x' m m' hij hx hx' hm hm' hne hne' g hg hg'
    rcases oldu i x hx with ⟨ei, exi⟩ | ⟨hi, hx⟩
    · rcases oldl i m hm with ⟨_, emi⟩ | ⟨hi', _⟩
      · rcases oldu j x' hx' with ⟨ej, _⟩ | ⟨hj, hx'⟩
        · omega
        · rcases oldl j m' hm' with ⟨ej, _⟩ | ⟨_, hm'⟩
          · omega
          · rw [exi] at hg
            rw [emi] at hne
            have r1 := hu.range hne hg
            have r2 := (h.row j x' m' hx' hm').range hne' hg'
            omega
      · omega
    · rcases oldl i m hm with ⟨ei, _⟩ | ⟨_, hm⟩
      · omega
      · rcases oldu j x' hx' with ⟨ej, exj⟩ | ⟨hj, hx'⟩
        · rcases oldl j m' hm' with ⟨_, emj⟩ | ⟨hj', _⟩
          · rw [exj] at hg'
            rw [emj] at hne'
            have r1 := hu.range hne' hg'
            have r2 := (h.row i x m hx hm).range hne hg
            omega
          · omega
        · rcases oldl j m' hm' with ⟨ej, _⟩ | ⟨_, hm'⟩
          · omega
          · exact h.apart i j x x' m m' hij hx hx' hm hm' hne hne' g hg hg'
/-- The slice of one's own with one row replaced: the store. -/
theorem OwnM.put {lo1 hi1 lo2 hi2 lo hi : Nat} {w : World} {v : Value} {ls : List (List Itm)} {k : Nat} {u : Value} {l : List Itm} (h : OwnM lo1 hi1 w v ls) (hu : RowZ lo2 hi2 w u l) (hk : k < ls.length) (hd : hi2 ≤ lo1 ∨ hi1 ≤ lo2) (h1 : lo ≤ lo1) (h2 : lo ≤ lo2) (hh3 : hi1 ≤ hi) (hh4 : hi2 ≤ hi) :
    ∃ g cap, v = .slice (some ⟨g, 0, none⟩) ls.length cap ∧ lo1 ≤ g ∧ g < hi1 ∧ (∃ x, w.cell? ⟨g, k, none⟩ = some x) ∧ w.frozen? ⟨g, k, none⟩ = false ∧ OwnM lo hi (w.setCell ⟨g, k, none⟩ u) v (ls.set k l) := by
  obtain ⟨us, h3, h4⟩ := h
  rcases h3 with ⟨h3, h5⟩ | ⟨rfl, _⟩
  · have hl := h4.len
    obtain ⟨g, cap, rfl, hgc, hgB⟩ := own_shape h3 (by omega)
    have hku : k < us.length := by omega
    have c := row_cell_at h3 (List.getElem?_eq_getElem hku)
    refine ⟨g, cap, by rw [hl], hgB, h5 g rfl, ⟨_, c⟩, h3.frozenAt k, us.set k u, .inl ⟨?_, fun g' hg' => Nat.lt_of_lt_of_le (h5 g' hg') hh3⟩, ?_⟩
    · have := (h3.stored k u).1
      rw [List.length_set]
      exact ownsRow_base this h1
    · have hz := h4.put hu hk hd h1 h2 hh3 hh4
      refine ⟨hz.len, fun j x m hx hm => ?_, hz.apart⟩
      have hr := hz.row j x m hx hm
      refine ⟨?_, hr.2⟩
      rcases hr.1.cases with ⟨hne, ho⟩ | h0
      · have hne2 := fun g' (hg' : x.ownBlock = some g') => (hr.notE h3 g rfl).2 hne
        exact .inl ⟨((Keeps.refl (fun j => j ≠ g) w).setCell (a := ⟨g, k, none⟩) (fun hh => hh rfl) u).own ho.1 (fun g' hg' => fun e => hne2 g' hg' (by rw [hg', e])), ho.2⟩
      · exact .inr h0
  · have := h4.len
    simp at this
    omega

/-- A block of another type written: the lists stand. -/
theorem OwnM.other {lo hi : Nat} {w w' : World} {v : Value} {ls : List (List Itm)} {b T : Nat} {cs : Array Value} (h : OwnM lo hi w v ls) (hb : w.heap[b]? = some (.cells cs T (0, 0))) (h1 : 66 ≠ T) (h2 : 34 ≠ T) (hk : Keeps (fun j => j ≠ b) w w') : OwnM lo hi w' v ls := by
  obtain ⟨us, h3, h4⟩ := h
  refine ⟨us, ?_, h4.len, fun k u l hu hl => ?_, h4.apart⟩
  · rcases h3 with ⟨h3, h5⟩ | h3
    · exact .inl ⟨hk.own h3 (fun g hg e => own_ne h3 hb h2 (by rw [hg, e])), h5⟩
    · exact .inr h3
  · have hr := h4.row k u l hu hl
    refine ⟨?_, hr.2⟩
    rcases hr.1.cases with ⟨_, ho⟩ | h0
    · exact .inl ⟨hk.own ho.1 (fun g hg e => own_ne ho.1 hb h1 (by rw [hg, e])), ho.2⟩
    · exact .inr h0
theorem Keeps.one {b : Nat} {w w' : World} (h : Keeps (fun j => j ≠ b) w w') (j : Nat) (u : Value) : Keeps (fun j => j ≠ b) w (w'.setCell ⟨b, j, none⟩ u) := h.setCell (a := ⟨b, j, none⟩) (fun h => h rfl) u

set_option maxHeartbeats 1600000 in
set_option maxRecDepth 100000 in
theorem copied_any (v : Value) (ls : List (List Itm)) (w : World) (h : Maps w v ls) (hn : ls.length ≤ 100000) (hm : tot ls ≤ 100000) :
    Calls Try.prog 69 #[v] w (NewM (fun v => .agg #[v]) ls w) := by
  have hM := Lib.hid h
  obtain ⟨ao, cap, rfl, hlc, hcm⟩ := h.slice
  clear h
  obtain ⟨i0, hi, hz0, hz1, hz2⟩ := info_parts Try.infoII
  have hbytes : i0.bytes * ls.length ≤ 281474976710656 := by rw [hz2]; omega
  go_enter Try.func69, Try.ntmps69
  have HA : Hid (Below w.heap.size w (w.alloc (.cells #[.slice none 0 0] 30))) := (Below.refl _ _).alloc (Nat.le_refl _) _
  have HF := Lib.hid (One.new w 30 (.slice none 0 0))
  go_wp2_with (at_make; refine wpList_make_full _ rfl _ _ 28 rfl (w.heap.size + 1) 34 i0 _ 1 Try.underlying28 hi hz0 hz1 _ _ _ _ ls.length rfl rfl rfl rfl hbytes (by unfold maxLen; omega) (by simp) ?_; intro w0 hown0 hgrow0)
  simp at hown0
  have hb0 : Below (w.heap.size + 1) (w.alloc (.cells #[.slice none 0 0] 30)) w0 := (Below.refl _ _).grown hgrow0 (by simp) (fun k hk => by cases hk)
  have hB0 : w.heap.size + 2 ≤ w0.heap.size := by have := (hown0.lt (w.heap.size + 1) rfl).2; omega
  have HOW0 := Lib.hid (hown0.alloc (.cells #[.slice (some ⟨w.heap.size + 1, 0, none⟩) ls.length ls.length] 30))
  have HBW0 : Hid (Below w.heap.size w (w0.alloc (.cells #[.slice (some ⟨w.heap.size + 1, 0, none⟩) ls.length ls.length] 30))) := (HA.out.trans (hb0.mono (by omega))).alloc (by omega) _
  have HF0 := Lib.hid (HF.out.below (hb0.alloc (by omega) (.cells #[.slice (some ⟨w.heap.size + 1, 0, none⟩) ls.length ls.length] 30)) (by omega))
  have HFN := Lib.hid (One.new w0 30 (.slice (some ⟨w.heap.size + 1, 0, none⟩) ls.length ls.length))
  generalize hg0 : w0.heap.size = B0 at *
  clear hown0 hgrow0 hb0 HF HA
  go_loopw [12] (fun i wr => ∃ (k : Nat) (us zs : List Value), k ≤ ls.length ∧ i = .int .i64 k ∧ Hid (Below w.heap.size w wr) ∧ Hid (One wr w.heap.size 30 (.slice none 0 0)) ∧ Hid (One wr B0 30 (.slice (some ⟨w.heap.size + 1, 0, none⟩) ls.length ls.length)) ∧
      Hid (us.length = k) ∧ Hid (zs.length = ls.length - k) ∧ Hid (wr.ownsRow (w.heap.size + 1) 34 1 (.slice (some ⟨w.heap.size + 1, 0, none⟩) ls.length ls.length) ls.length (us ++ zs)) ∧ Hid (RowsZ (B0 + 1) wr.heap.size wr us (ls.take k)) ∧ B0 + 1 ≤ wr.heap.size) (fun i _ => ls.length - (intOf i).toNat)
  case atStart => exact ⟨0, [], _, Nat.zero_le _, rfl, HBW0.out, HF0.out, HFN.out, rfl, by unfold Hid; simp [size_madeCells], HOW0.out, RowsZ.nil _ _ _, by simp [hg0]⟩
  case round =>
    obtain ⟨k, us, zs, hk, rfl, HB, HF1, HF2, HU, HZL, HR, HZ, hsz⟩ := hrel
    by_cases hlt : k < ls.length
    · obtain ⟨b, o, cap', u, e, hb, h1, hI⟩ := hM.out.at hlt
      simp only [Value.slice.injEq] at e
      obtain ⟨rfl, _, rfl⟩ := e
      have c1 := (HB.out.cell (p := ⟨b, _, none⟩) hb).trans h1
      have HI := Lib.hid (hI.mono HB.out (Nat.le_refl _))
      have hle := tot_le hlt
      have d0 := HF2.out.cell
      clear h1 hI
      go_wp2_with fail
      go_region_law (first
        | (go_simp; go_at_call 90; refine (slClone_any _ _ _ (Items.drew HI.out) (by omega)).mono ?_; rintro e w1 ⟨v1, rfl, ho1, hb1⟩; have hF3 := HF2.out.below (Below.undrew hb1) HF2.out.lt; have c3 := hF3.cell; obtain ⟨xo, xcap, rfl, _, _⟩ := own_slice ho1.1; have hown1 := ownsRow_below HR.out (Below.undrew hb1) (Nat.le_refl _); obtain ⟨u0, c5⟩ := row_cell hown1 (j := k) (by omega); have f5 := hown1.frozenAt k))
      all_goals
        have hw1 : wr.heap.size ≤ w1.heap.size := hb1.size
        obtain ⟨zs', hzl', hown'⟩ := row_next (u := .slice xo ls[k].length xcap) hlt HU.out HZL.out hown1
        have hZ1 := ((HZ.out.keeps (Keeps.of_below (Below.undrew hb1) (fun j hj => hj.2))).snoc (RowZ.of ho1) (by exact hsz) (Nat.le_refl _) hw1).keeps ((Keeps.refl _ _).boxset (a := ⟨w.heap.size + 1, k, none⟩) (by simp; omega) (.slice xo ls[k].length xcap))
        have e2 : ls.take k ++ [ls[k]] = ls.take (k + 1) := (List.take_succ_eq_append_getElem hlt).symm
        rw [e2] at hZ1
        have hszz : w1.heap.size ≤ (w1.setCell ⟨w.heap.size + 1, k, none⟩ (.slice xo ls[k].length xcap)).heap.size := by simp
        have HZ' := Lib.hid (hZ1.wide (Nat.le_refl _) hszz)
        have hbA := Below.undrew hb1
        have HB' : Hid (Below w.heap.size w (w1.setCell ⟨w.heap.size + 1, k, none⟩ (.slice xo ls[k].length xcap))) := (HB.out.trans (hbA.mono HB.out.size)).setCell (by simp) _
        have hkA : Keeps (fun j => j < wr.heap.size ∧ j ≠ w.heap.size + 1) wr (w1.setCell ⟨w.heap.size + 1, k, none⟩ (.slice xo ls[k].length xcap)) := (Keeps.of_below hbA (fun j hj => hj.1)).setCell (fun h => h.2 rfl) _
        have HF1' := Lib.hid (HF1.out.keeps hkA ⟨HF1.out.lt, by omega⟩)
        have HF2' := Lib.hid (HF2.out.keeps hkA ⟨HF2.out.lt, by omega⟩)
        have HR' := Lib.hid hown'
        have HZL' := Lib.hid hzl'
        have HU' : Hid ((us ++ [Value.slice xo ls[k].length xcap]).length = k + 1) := by unfold Hid; simp [HU.out]
        clear hZ1 hown1 hF3 c3 c5 f5 hbA hkA hb1 ho1 e2 c1 d0 hown' hzl'
        go_wp2
        go_roundw
        case rel => exact ⟨k + 1, _, _, by omega, by go_num, HB', HF1', HF2', HU', HZL', HR', HZ', by simp; omega⟩
        case measure => simp [intOf]; omega
    · obtain rfl : k = ls.length := by omega
      obtain rfl : zs = [] := List.eq_nil_of_length_eq_zero (by rw [HZL.out]; simp)
      have d0 := HF2.out.cell
      have e0 := HF1.out.cell
      have f0 := HF1.out.free
      have hz := HZ.out
      rw [List.take_length] at hz
      have HZZ := Lib.hid hz
      have hr := HR.out
      rw [List.append_nil] at hr
      have HRR := Lib.hid hr
      clear hr hz
      go_wp2
      exact bodyPost_ret (v := .agg #[.slice (some ⟨w.heap.size + 1, 0, none⟩) ls.length ls.length]) (by simp [results, Try.results69, go_sem, e0]) rfl ⟨_, rfl, by
        refine ⟨us, .inl ⟨?_, fun g hg => ?_⟩, ?_⟩
        · rw [HU.out]
          exact ownsRow_base (((Keeps.refl (fun j => w.heap.size + 1 ≤ j) wr).past (by simp) _).own HRR.out (fun g hg => (own_range HRR.out hg).1)) (by omega)
        · have := (own_range HRR.out hg).2
          simpa using this
        · exact (HZZ.out.keeps ((Keeps.refl _ _).boxset (by simp; omega) _)).wide (by omega) (by simp), HB.out.setCell (by simp) _⟩

/-! ### one map replaced -/
def ifM (ok : Bool) (ls : List (List Itm)) : List (List Itm) := if ok = true then ls else []
abbrev okV (f : Value) (ok : Bool) : Value := .tuple #[.agg #[f], .bool ok]

end Go.Proofs.Ytfocobgceelnoaa
