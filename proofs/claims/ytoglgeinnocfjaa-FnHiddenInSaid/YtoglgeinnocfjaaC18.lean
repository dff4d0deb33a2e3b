/-
  ChnI, ChnP, ChnD, ChnQ, SOrd3, ChnE.
-/
import Derived.Test.YtoglgeinnocfjaaC5
import Derived.Test.YtoglgeinnocfjaaC13
import Derived.Test.YtoglgeinnocfjaaC15
import Derived.Test.YtoglgeinnocfjaaC17
/-
  Chains by the program: copied, one map replaced, an item put, an item dropped.
-/
namespace Go.Proofs.Ytoglgeinnocfjaa
open Go.RowKit

theorem RowZ.slice {lo hi : Nat} {w : World} {v : Value} {xs : List Itm} (h : RowZ lo hi w v xs) : ∃ ao cap, v = .slice ao xs.length cap ∧ xs.length ≤ cap ∧ cap ≤ 9223372036854775807 := by
  obtain ⟨ao, cap, e, h1, h2, _⟩ := h.items
  exact ⟨ao, cap, e, h1, h2⟩
/-- One row put in the place of another. -/
theorem RowsZ.put {lo1 hi1 lo2 hi2 lo hi : Nat} {w : World} {us : List Value} {ls : List (List Itm)} {k : Nat} {u : Value} {l : List Itm} (h : RowsZ lo1 hi1 w us ls) (hu : RowZ lo2 hi2 w u l) (hk : k < ls.length) (hd : hi2 ≤ lo1 ∨ hi1 ≤ lo2) (h1 : lo ≤ lo1) (h2 : lo ≤ lo2) (h3 : hi1 ≤ hi) (h4 : hi2 ≤ hi) : RowsZ lo hi w (us.set k u) (ls.set k l) := by
  have hku : k < us.length := by rw [h.len]; exact hk
  have oldu : ∀ j p, (us.set k u)[j]? = some p → (j = k ∧ p = u) ∨ (j ≠ k ∧ us[j]? = some p) := by
    intro j p hp
    rw [List.getElem?_set] at hp
    by_cases hj : k = j
    · subst hj
      simp [hku] at hp
      exact .inl ⟨rfl, hp.symm⟩
    · rw [if_neg hj] at hp
      exact .inr ⟨fun e => hj e.symm, hp⟩
  have oldl : ∀ j p, (ls.set k l)[j]? = some p → (j = k ∧ p = l) ∨ (j ≠ k ∧ ls[j]? = some p) := by
    intro j p hp
    rw [List.getElem?_set] at hp
    by_cases hj : k = j
    · subst hj
      simp [hk] at hp
      exact .inl ⟨rfl, hp.symm⟩
    · rw [if_neg hj] at hp
      exact .inr ⟨fun e => hj e.symm, hp⟩
  refine ⟨by simp [h.len], ?_, ?_⟩
  · intro j x m hx hm
    rcases oldu j x hx with ⟨rfl, rfl⟩ | ⟨hj, hx⟩
    · rcases oldl _ m hm with ⟨_, rfl⟩ | ⟨hj', _⟩
      · exact hu.wide h2 h4
      · exact absurd rfl hj'
    · rcases oldl j m hm with ⟨e, _⟩ | ⟨_, hm⟩
      · exact absurd e hj
      · exact (h.row j x m hx hm).wide h1 h3
  · intro i j x x' m m' hij hx hx' hm hm' hne hne' g hg hg'
    rcases oldu i x hx with ⟨ei, exi⟩ | ⟨hi, hx⟩
    · rcases oldl i m hm with ⟨_, emi⟩ | ⟨hi', _⟩
      · rcases oldu j x' hx' with ⟨ej, _⟩ | ⟨hj, hx'⟩
        · omega
        · rcases oldl j m' hm' with ⟨ej, _⟩ | ⟨_, hm'⟩
          · omega
          · rw [exi] at hg
            rw [emi] at hne
            have r1 := hu.range hne hg
            have r2 := (h.row j x' m' hx' hm').range hne' hg'
            omega
      · omega
    · rcases oldl i m hm with ⟨ei, _⟩ | ⟨_, hm⟩
      · omega
      · rcases oldu j x' hx' with ⟨ej, exj⟩ | ⟨hj, hx'⟩
        · rcases oldl j m' hm' with ⟨_, emj⟩ | ⟨hj', _⟩
          · rw [exj] at hg'
            rw [emj] at hne'
            have r1 := hu.range hne' hg'
            have r2 := (h.row i x m hx hm).range hne hg
            omega
          · omega
        · rcases oldl j m' hm' with ⟨ej, _⟩ | ⟨_, hm'⟩
          · omega
          · exact h.apart i j x x' m m' hij hx hx' hm hm' hne hne' g hg hg'
/-- The slice of one's own with one row replaced: the store. -/
theorem OwnM.put {lo1 hi1 lo2 hi2 lo hi : Nat} {w : World} {v : Value} {ls : List (List Itm)} {k : Nat} {u : Value} {l : List Itm} (h : OwnM lo1 hi1 w v ls) (hu : RowZ lo2 hi2 w u l) (hk : k < ls.length) (hd : hi2 ≤ lo1 ∨ hi1 ≤ lo2) (h1 : lo ≤ lo1) (h2 : lo ≤ lo2) (hh3 : hi1 ≤ hi) (hh4 : hi2 ≤ hi) :
    ∃ g cap, v = .slice (some ⟨g, 0, none⟩) ls.length cap ∧ lo1 ≤ g ∧ g < hi1 ∧ (∃ x, w.cell? ⟨g, k, none⟩ = some x) ∧ w.frozen? ⟨g, k, none⟩ = false ∧ OwnM lo hi (w.setCell ⟨g, k, none⟩ u) v (ls.set k l) := by
  obtain ⟨us, h3, h4⟩ := h
  rcases h3 with ⟨h3, h5⟩ | ⟨rfl, _⟩
  · have hl := h4.len
    obtain ⟨g, cap, rfl, hgc, hgB⟩ := own_shape h3 (by omega)
    have hku : k < us.length := by omega
    have c := row_cell_at h3 (List.getElem?_eq_getElem hku)
    refine ⟨g, cap, by rw [hl], hgB, h5 g rfl, ⟨_, c⟩, h3.frozenAt k, us.set k u, .inl ⟨?_, fun g' hg' => Nat.lt_of_lt_of_le (h5 g' hg') hh3⟩, ?_⟩
    · have := (h3.stored k u).1
      rw [List.length_set]
      exact ownsRow_base this h1
    · have hz := h4.put hu hk hd h1 h2 hh3 hh4
      refine ⟨hz.len, fun j x m hx hm => ?_, hz.apart⟩
      have hr := hz.row j x m hx hm
      refine ⟨?_, hr.2⟩
      rcases hr.1.cases with ⟨hne, ho⟩ | h0
      · have hne2 := fun g' (hg' : x.ownBlock = some g') => (hr.notE h3 g rfl).2 hne
        exact .inl ⟨((Keeps.refl (fun j => j ≠ g) w).setCell (a := ⟨g, k, none⟩) (fun hh => hh rfl) u).own ho.1 (fun g' hg' => fun e => hne2 g' hg' (by rw [hg', e])), ho.2⟩
      · exact .inr h0
  · have := h4.len
    simp at this
    omega

/-- A block of another type written: the lists stand. -/
theorem OwnM.other {lo hi : Nat} {w w' : World} {v : Value} {ls : List (List Itm)} {b T : Nat} {cs : Array Value} (h : OwnM lo hi w v ls) (hb : w.heap[b]? = some (.cells cs T (0, 0))) (h1 : 74 ≠ T) (h2 : 55 ≠ T) (hk : Keeps (fun j => j ≠ b) w w') : OwnM lo hi w' v ls := by
  obtain ⟨us, h3, h4⟩ := h
  refine ⟨us, ?_, h4.len, fun k u l hu hl => ?_, h4.apart⟩
  · rcases h3 with ⟨h3, h5⟩ | h3
    · exact .inl ⟨hk.own h3 (fun g hg e => own_ne h3 hb h2 (by rw [hg, e])), h5⟩
    · exact .inr h3
  · have hr := h4.row k u l hu hl
    refine ⟨?_, hr.2⟩
    rcases hr.1.cases with ⟨_, ho⟩ | h0
    · exact .inl ⟨hk.own ho.1 (fun g hg e => own_ne ho.1 hb h1 (by rw [hg, e])), ho.2⟩
    · exact .inr h0
theorem Keeps.one {b : Nat} {w w' : World} (h : Keeps (fun j => j ≠ b) w w') (j : Nat) (u : Value) : Keeps (fun j => j ≠ b) w (w'.setCell ⟨b, j, none⟩ u) := h.setCell (a := ⟨b, j, none⟩) (fun h => h rfl) u

set_option maxHeartbeats 1600000 in
set_option maxRecDepth 100000 in
theorem copied_any (v : Value) (ls : List (List Itm)) (w : World) (h : Maps w v ls) (hn : ls.length ≤ 100000) (hm : tot ls ≤ 100000) :
    Calls Try.prog 110 #[v] w (NewM (fun v => .agg #[v]) ls w) := by
  have hM := Lib.hid h
  obtain ⟨ao, cap, rfl, hlc, hcm⟩ := h.slice
  clear h
  obtain ⟨i0, hi, hz0, hz1, hz2⟩ := info_parts Try.infoII
  have hbytes : i0.bytes * ls.length ≤ 281474976710656 := by rw [hz2]; omega
  go_enter Try.func110, Try.ntmps110
  have HA : Hid (Below w.heap.size w (w.alloc (.cells #[.slice none 0 0] 51))) := (Below.refl _ _).alloc (Nat.le_refl _) _
  have HF := Lib.hid (One.new w 51 (.slice none 0 0))
  go_wp2_with (at_make; refine wpList_make_full _ rfl _ _ 49 rfl (w.heap.size + 1) 55 i0 _ 1 Try.underlying49 hi hz0 hz1 _ _ _ _ ls.length rfl rfl rfl rfl hbytes (by unfold maxLen; omega) (by simp) ?_; intro w0 hown0 hgrow0)
  simp at hown0
  have hb0 : Below (w.heap.size + 1) (w.alloc (.cells #[.slice none 0 0] 51)) w0 := (Below.refl _ _).grown hgrow0 (by simp) (fun k hk => by cases hk)
  have hB0 : w.heap.size + 2 ≤ w0.heap.size := by have := (hown0.lt (w.heap.size + 1) rfl).2; omega
  have HOW0 := Lib.hid (hown0.alloc (.cells #[.slice (some ⟨w.heap.size + 1, 0, none⟩) ls.length ls.length] 51))
  have HBW0 : Hid (Below w.heap.size w (w0.alloc (.cells #[.slice (some ⟨w.heap.size + 1, 0, none⟩) ls.length ls.length] 51))) := (HA.out.trans (hb0.mono (by omega))).alloc (by omega) _
  have HF0 := Lib.hid (HF.out.below (hb0.alloc (by omega) (.cells #[.slice (some ⟨w.heap.size + 1, 0, none⟩) ls.length ls.length] 51)) (by omega))
  have HFN := Lib.hid (One.new w0 51 (.slice (some ⟨w.heap.size + 1, 0, none⟩) ls.length ls.length))
  generalize hg0 : w0.heap.size = B0 at *
  clear hown0 hgrow0 hb0 HF HA
  go_loopw [12] (fun i wr => ∃ (k : Nat) (us zs : List Value), k ≤ ls.length ∧ i = .int .i64 k ∧ Hid (Below w.heap.size w wr) ∧ Hid (One wr w.heap.size 51 (.slice none 0 0)) ∧ Hid (One wr B0 51 (.slice (some ⟨w.heap.size + 1, 0, none⟩) ls.length ls.length)) ∧
      Hid (us.length = k) ∧ Hid (zs.length = ls.length - k) ∧ Hid (wr.ownsRow (w.heap.size + 1) 55 1 (.slice (some ⟨w.heap.size + 1, 0, none⟩) ls.length ls.length) ls.length (us ++ zs)) ∧ Hid (RowsZ (B0 + 1) wr.heap.size wr us (ls.take k)) ∧ B0 + 1 ≤ wr.heap.size) (fun i _ => ls.length - (intOf i).toNat)
  case atStart => exact ⟨0, [], _, Nat.zero_le _, rfl, HBW0.out, HF0.out, HFN.out, rfl, by unfold Hid; simp [size_madeCells], HOW0.out, RowsZ.nil _ _ _, by simp [hg0]⟩
  case round =>
    obtain ⟨k, us, zs, hk, rfl, HB, HF1, HF2, HU, HZL, HR, HZ, hsz⟩ := hrel
    by_cases hlt : k < ls.length
    · obtain ⟨b, o, cap', u, e, hb, h1, hI⟩ := hM.out.at hlt
      simp only [Value.slice.injEq] at e
      obtain ⟨rfl, _, rfl⟩ := e
      have c1 := (HB.out.cell (p := ⟨b, _, none⟩) hb).trans h1
      have HI := Lib.hid (hI.mono HB.out (Nat.le_refl _))
      have hle := tot_le hlt
      have d0 := HF2.out.cell
      clear h1 hI
      go_wp2_with fail
      go_region_law (first
        | (go_simp; go_at_call 134; refine (slClone_any _ _ _ (Items.drew HI.out) (by omega)).mono ?_; rintro e w1 ⟨v1, rfl, ho1, hb1⟩; have hF3 := HF2.out.below (Below.undrew hb1) HF2.out.lt; have c3 := hF3.cell; obtain ⟨xo, xcap, rfl, _, _⟩ := own_slice ho1.1; have hown1 := ownsRow_below HR.out (Below.undrew hb1) (Nat.le_refl _); obtain ⟨u0, c5⟩ := row_cell hown1 (j := k) (by omega); have f5 := hown1.frozenAt k))
      all_goals
        have hw1 : wr.heap.size ≤ w1.heap.size := hb1.size
        obtain ⟨zs', hzl', hown'⟩ := row_next (u := .slice xo ls[k].length xcap) hlt HU.out HZL.out hown1
        have hZ1 := ((HZ.out.keeps (Keeps.of_below (Below.undrew hb1) (fun j hj => hj.2))).snoc (RowZ.of ho1) (by exact hsz) (Nat.le_refl _) hw1).keeps ((Keeps.refl _ _).boxset (a := ⟨w.heap.size + 1, k, none⟩) (by simp; omega) (.slice xo ls[k].length xcap))
        have e2 : ls.take k ++ [ls[k]] = ls.take (k + 1) := (List.take_succ_eq_append_getElem hlt).symm
        rw [e2] at hZ1
        have hszz : w1.heap.size ≤ (w1.setCell ⟨w.heap.size + 1, k, none⟩ (.slice xo ls[k].length xcap)).heap.size := by simp
        have HZ' := Lib.hid (hZ1.wide (Nat.le_refl _) hszz)
        have hbA := Below.undrew hb1
        have HB' : Hid (Below w.heap.size w (w1.setCell ⟨w.heap.size + 1, k, none⟩ (.slice xo ls[k].length xcap))) := (HB.out.trans (hbA.mono HB.out.size)).setCell (by simp) _
        have hkA : Keeps (fun j => j < wr.heap.size ∧ j ≠ w.heap.size + 1) wr (w1.setCell ⟨w.heap.size + 1, k, none⟩ (.slice xo ls[k].length xcap)) := (Keeps.of_below hbA (fun j hj => hj.1)).setCell (fun h => h.2 rfl) _
        have HF1' := Lib.hid (HF1.out.keeps hkA ⟨HF1.out.lt, by omega⟩)
        have HF2' := Lib.hid (HF2.out.keeps hkA ⟨HF2.out.lt, by omega⟩)
        have HR' := Lib.hid hown'
        have HZL' := Lib.hid hzl'
        have HU' : Hid ((us ++ [Value.slice xo ls[k].length xcap]).length = k + 1) := by unfold Hid; simp [HU.out]
        clear hZ1 hown1 hF3 c3 c5 f5 hbA hkA hb1 ho1 e2 c1 d0 hown' hzl'
        go_wp2
        go_roundw
        case rel => exact ⟨k + 1, _, _, by omega, by go_num, HB', HF1', HF2', HU', HZL', HR', HZ', by simp; omega⟩
        case measure => simp [intOf]; omega
    · obtain rfl : k = ls.length := by omega
      obtain rfl : zs = [] := List.eq_nil_of_length_eq_zero (by rw [HZL.out]; simp)
      have d0 := HF2.out.cell
      have e0 := HF1.out.cell
      have f0 := HF1.out.free
      have hz := HZ.out
      rw [List.take_length] at hz
      have HZZ := Lib.hid hz
      have hr := HR.out
      rw [List.append_nil] at hr
      have HRR := Lib.hid hr
      clear hr hz
      go_wp2
      exact bodyPost_ret (v := .agg #[.slice (some ⟨w.heap.size + 1, 0, none⟩) ls.length ls.length]) (by simp [results, Try.results110, go_sem, e0]) rfl ⟨_, rfl, by
        refine ⟨us, .inl ⟨?_, fun g hg => ?_⟩, ?_⟩
        · rw [HU.out]
          exact ownsRow_base (((Keeps.refl (fun j => w.heap.size + 1 ≤ j) wr).past (by simp) _).own HRR.out (fun g hg => (own_range HRR.out hg).1)) (by omega)
        · have := (own_range HRR.out hg).2
          simpa using this
        · exact (HZZ.out.keeps ((Keeps.refl _ _).boxset (by simp; omega) _)).wide (by omega) (by simp), HB.out.setCell (by simp) _⟩

/-! ### one map replaced -/
def ifM (ok : Bool) (ls : List (List Itm)) : List (List Itm) := if ok = true then ls else []
abbrev okV (f : Value) (ok : Bool) : Value := .tuple #[.agg #[f], .bool ok]

set_option maxHeartbeats 800000 in
set_option maxRecDepth 100000 in
theorem replaced_any {lo : Nat} (v : Value) (ls : List (List Itm)) (k : Nat) (u : Value) (l : List Itm) (ok : Bool) (w : World) (h : Maps w v ls) (hk : k < ls.length) (hu : RowZ lo w.heap.size w u l) (hlo : lo ≤ w.heap.size) (hn : ls.length ≤ 100000) (hm : tot ls ≤ 100000) :
    Calls Try.prog 132 #[.agg #[v], .int .i64 k, u, .bool ok] w fun e w' => ∃ v', e = .returned (okV v' ok) ∧ OwnM lo w'.heap.size w' v' (ifM ok (ls.set k l)) ∧ Below w.heap.size w w' := by
  have hM := Lib.hid h
  have HU := Lib.hid hu
  obtain ⟨uo, uc, rfl, _, _⟩ := hu.slice
  clear h hu
  go_enter Try.func132, Try.ntmps132
  have HA : Hid (Below w.heap.size w ((w.alloc (.cells #[v] 51)).alloc (.cells #[.slice none 0 0] 51))) := ((Below.refl _ _).alloc (Nat.le_refl _) _).alloc (by simp) _
  have F0 := (One.new w 51 v).below (B := w.heap.size + 1) ((Below.refl _ _).alloc (by simp) (.cells #[.slice none 0 0] 51)) (by omega)
  have F1 := One.new (w.alloc (.cells #[v] 51)) 51 (.slice none 0 0)
  simp at F1
  cases ok
  · have e0 := F1.cell
    have f0 := F1.free
    go_wp2
    exact bodyPost_ret (v := okV (.slice none 0 0) false) (by simp [okV, results, Try.results132, go_sem, e0]) rfl ⟨_, rfl, OwnM.nil _ _ _, HA.out⟩
  · have c0 := F0.cell
    go_wp2_with fail
    refine (copied_any v ls _ (hM.out.mono HA.out (Nat.le_refl _)) hn hm).mono ?_
    rintro e w1 ⟨v1, rfl, ho1, hb1⟩
    have hs1 := hb1.size
    simp at hs1 ho1 hb1
    have hw1 := Below.trans HA.out (hb1.mono (by omega))
    have hz := (HU.out.keeps (Keeps.of_below hw1 (fun j hj => hj.2)))
    have hz2 := hz.wide (Nat.le_refl lo) (show w.heap.size ≤ w.heap.size + 1 + 1 by omega)
    obtain ⟨g, cap, rfl, hg1, hg2, ⟨x, hc⟩, hfz, hput⟩ := ho1.put (lo := lo) (hi := w1.heap.size) hz2 hk (.inl (Nat.le_refl _)) (by omega) (Nat.le_refl _) (Nat.le_refl _) (by omega)
    have F2 := F1.below hb1 (by omega)
    have F3 := (F2.keeps ((Keeps.refl (fun j => j ≠ g) w1).setCell (a := ⟨g, k, none⟩) (fun h => h rfl) (.slice uo l.length uc)) (by omega)).below ((Below.refl _ _).alloc (Nat.le_refl _) (.cells #[.slice (some ⟨g, 0, none⟩) ls.length cap] 51)) (by simp; omega)
    have e0 := F3.cell
    have f0 := F3.free
    have HP := Lib.hid ((hput.keeps ((Keeps.refl _ _).alloc (fun j hj => by have := hj.2; simpa using this) (.cells #[.slice (some ⟨g, 0, none⟩) ls.length cap] 51))).other F3 (by decide) (by decide) ((Keeps.refl _ _).one 0 (.slice (some ⟨g, 0, none⟩) ls.length cap)))
    have HW1 : Hid (Below w.heap.size w (((w1.setCell ⟨g, k, none⟩ (.slice uo l.length uc)).alloc (.cells #[.slice (some ⟨g, 0, none⟩) ls.length cap] 51)).setCell ⟨w.heap.size + 1, 0, none⟩ (.slice (some ⟨g, 0, none⟩) ls.length cap))) := ((hw1.setCell (by simp; omega) _).alloc (by simp; omega) _).setCell (by simp) _
    clear hput ho1 hz hz2 F0 F1 F2 F3 hb1 hw1 c0
    go_wp2
    exact bodyPost_ret (v := okV (.slice (some ⟨g, 0, none⟩) ls.length cap) true) (by simp [okV, results, Try.results132, go_sem, e0]) rfl ⟨_, rfl, by
      have := HP.out.wide (Nat.le_refl lo) (hi' := (((w1.setCell ⟨g, k, none⟩ (.slice uo l.length uc)).alloc (.cells #[.slice (some ⟨g, 0, none⟩) ls.length cap] 51)).setCell ⟨w.heap.size + 1, 0, none⟩ (.slice (some ⟨g, 0, none⟩) ls.length cap)).heap.size) (by simp)
      exact this, HW1.out⟩
end Go.Proofs.Ytoglgeinnocfjaa
/-
  An item put into a chain's first map, by the program and by the model.
-/
namespace Go.Proofs.Ytoglgeinnocfjaa
open Go.RowKit

theorem OwnM.shape {lo hi : Nat} {w : World} {v : Value} {ls : List (List Itm)} (h : OwnM lo hi w v ls) : ∃ ao L cap, v = .slice ao L cap := by
  obtain ⟨ao, cap, e, _⟩ := h.slice
  exact ⟨ao, _, cap, e⟩
theorem ret_m {a b : Value} {c d : Bool} (h : a = b) (h' : c = d) : Ending.returned (okV a c) = .returned (okV b d) := by rw [h, h']
theorem OwnM.head {lo hi : Nat} {w : World} {v : Value} {ls : List (List Itm)} (h : OwnM lo hi w v ls) (hk : 0 < ls.length) : ∃ g cap, v = .slice (some ⟨g, 0, none⟩) ls.length cap ∧ lo ≤ g ∧ g < hi := by
  obtain ⟨us, h3, h4⟩ := h
  have hl := h4.len
  rcases h3 with ⟨h3, h5⟩ | ⟨rfl, _⟩
  · obtain ⟨g, cap, rfl, hgc, hgB⟩ := own_shape h3 (by omega)
    exact ⟨g, cap, by rw [hl], hgB, h5 g rfl⟩
  · simp at hl
    omega
/-- At a list of one's own: its value, its slot. -/
theorem OwnM.cell {lo hi g cap : Nat} {w : World} {ls : List (List Itm)} (h : OwnM lo hi w (.slice (some ⟨g, 0, none⟩) ls.length cap) ls) {k : Nat} (hk : k < ls.length) : ∃ u, w.cell? ⟨g, k, none⟩ = some u ∧ Items w u ls[k] := by
  obtain ⟨b, o, cap', u, e, hb, hc, hI⟩ := h.maps.at hk
  simp only [Value.slice.injEq, Option.some.injEq, Addr.mk.injEq, and_true] at e
  obtain ⟨⟨rfl, rfl⟩, _, rfl⟩ := e
  rw [Nat.zero_add] at hc
  exact ⟨u, hc, hI⟩
theorem tot_mem {ls : List (List Itm)} (h : validC ls = true) : ls.length ≤ 4 ∧ tot ls ≤ 32 := by
  have h1 := validC_iff.1 h
  refine ⟨h1.2.2, ?_⟩
  have key : ∀ ms : List (List Itm), (∀ l ∈ ms, validI l = true) → tot ms ≤ 8 * ms.length := by
    intro ms
    induction ms with
    | nil => intro _; simp [tot]
    | cons x r ih =>
      intro hh
      have h2 := valid_len (hh x (by simp))
      have h3 := ih (fun l hl => hh l (by simp [hl]))
      simp only [tot, List.length_cons]
      omega
  have := key ls h1.1
  omega

set_option maxHeartbeats 800000 in
set_option maxRecDepth 100000 in
theorem putAt_any (v : Value) (ls : List (List Itm)) (k : Nat) (s : ByteArray) (n : Int) (w : World) (h : Maps w v ls) (hk : k < ls.length) (hs : s.size ≤ 9223372036854775807) (hi : -9223372036854775808 ≤ n ∧ n ≤ 9223372036854775807) (hn : ls.length ≤ 100000) (hm : tot ls ≤ 100000) :
    Calls Try.prog 105 #[.agg #[v], .int .i64 k, .string s, .int .i64 n] w fun e w' => ∃ v', e = .returned (okV v' (okP ls[k] s n)) ∧ OwnM w.heap.size w'.heap.size w' v' (ifM (okP ls[k] s n) (ls.set k (putL ls[k] s n))) ∧ Below w.heap.size w w' := by
  have hM := Lib.hid h
  obtain ⟨b, o, cap, u, rfl, hb, h1, hI⟩ := h.at hk
  clear h
  go_enter Try.func105, Try.ntmps105
  have HA : Hid (Below w.heap.size w ((w.alloc (.cells #[.slice (some ⟨b, o, none⟩) ls.length cap] 51)).alloc (.cells #[.slice none 0 0] 51))) := ((Below.refl _ _).alloc (Nat.le_refl _) _).alloc (by simp) _
  have F0 := (One.new w 51 (.slice (some ⟨b, o, none⟩) ls.length cap)).below (B := w.heap.size + 1) ((Below.refl _ _).alloc (by simp) (.cells #[.slice none 0 0] 51)) (by omega)
  have F1 := One.new (w.alloc (.cells #[.slice (some ⟨b, o, none⟩) ls.length cap] 51)) 51 (.slice none 0 0)
  simp at F1
  have c0 := F0.cell
  have c1 := (HA.out.cell (p := ⟨b, _, none⟩) hb).trans h1
  have HI := Lib.hid (hI.mono HA.out (Nat.le_refl _))
  obtain ⟨ok, hok⟩ : ∃ ok, Hid (okP ls[k] s n = ok) := ⟨_, Lib.hid rfl⟩
  have HP := Lib.hid (PutItem_any _ _ s n _ HI.out hs hi)
  rw [hok.out] at HP
  clear h1 hI
  go_wp2_with fail
  refine HP.out.mono ?_
  rintro e w1 ⟨u1, rfl, ho1, hb1⟩
  have hs1 := hb1.size
  simp at hs1 ho1 hb1
  have hw1 := Lib.hid (HA.out.trans (hb1.mono (by omega)))
  have hz := Lib.hid ((RowZ.of ho1).wide (show w.heap.size ≤ w.heap.size + 1 + 1 by omega) (Nat.le_refl _))
  have G0 := F0.below hb1 (by omega)
  have G1 := Lib.hid (F1.below hb1 (by omega))
  clear c0 c1 F0 F1 ho1 hb1
  have c0 := G0.cell
  go_wp2_with fail
  refine (replaced_any _ ls k u1 _ ok _ (hM.out.mono hw1.out (Nat.le_refl _)) hk hz.out (by omega) hn hm).mono ?_
  rintro e w2 ⟨v2, rfl, ho2, hb2⟩
  have H2 := Lib.hid (G1.out.below hb2 G1.out.lt)
  obtain ⟨vo, L, vc, rfl⟩ := ho2.shape
  have e0 := H2.out.cell
  have f0 := H2.out.free
  have HO := Lib.hid (ho2.other H2.out (by decide) (by decide) ((Keeps.refl _ _).one 0 (.slice vo L vc)))
  have HB : Hid (Below w.heap.size w (w2.setCell ⟨w.heap.size + 1, 0, none⟩ (.slice vo L vc))) := (hw1.out.trans (hb2.mono hw1.out.size)).setCell (by simp) _
  clear c0 G0 ho2 hb2
  have hzz : w2.heap.size ≤ (w2.setCell ⟨w.heap.size + 1, 0, none⟩ (.slice vo L vc)).heap.size := by simp
  have HO' := HO.out.wide (Nat.le_refl _) hzz
  rw [← hok.out] at HO'
  have HO'' := Lib.hid HO'
  clear HO'
  go_wp2
  exact bodyPost_ret (v := okV (.slice vo L vc) ok) (by simp [okV, results, Try.results105, go_sem, e0]) rfl ⟨_, ret_m rfl hok.out.symm, HO''.out, HB.out⟩

def cpB (ls : List (List Itm)) (s : ByteArray) (n : Int) : Bool := validC ls && okP (ls.headD []) s n
def cpL (ls : List (List Itm)) (s : ByteArray) (n : Int) : List (List Itm) := ifM (cpB ls s n) (ls.set 0 (putL (ls.headD []) s n))
theorem head_at {ls : List (List Itm)} (h : 0 < ls.length) : ls.headD [] = ls[0] := by
  cases ls with
  | nil => simp at h
  | cons x r => rfl

set_option maxHeartbeats 800000 in
set_option maxRecDepth 100000 in
theorem ChainPut_any (v : Value) (ls : List (List Itm)) (s : ByteArray) (n : Int) (w : World) (h : Maps w v ls) (hs : s.size ≤ 9223372036854775807) (hi : -9223372036854775808 ≤ n ∧ n ≤ 9223372036854775807) :
    Calls Try.prog 51 #[.agg #[v], .string s, .int .i64 n] w (NewM (fun v => .tuple #[.agg #[v], .bool (cpB ls s n)]) (cpL ls s n) w) := by
  have hM := Lib.hid h
  clear h
  go_enter Try.func51, Try.ntmps51
  have HA : Hid (Below w.heap.size w ((w.alloc (.cells #[v] 51)).alloc (.cells #[.slice none 0 0] 51))) := ((Below.refl _ _).alloc (Nat.le_refl _) _).alloc (by simp) _
  have F0 := Lib.hid ((One.new w 51 v).below (B := w.heap.size + 1) ((Below.refl _ _).alloc (by simp) (.cells #[.slice none 0 0] 51)) (by omega))
  have F1' := One.new (w.alloc (.cells #[v] 51)) 51 (.slice none 0 0)
  simp at F1'
  have F1 := Lib.hid F1'
  clear F1'
  have c0 := F0.out.cell
  cases hv : validC ls
  all_goals
    have HV := Lib.hid hv
    clear hv
    go_wp2_with fail
    refine (vC_v _ (hM.out.mono HA.out (Nat.le_refl _)) HV.out).mono ?_
    rintro e w1 ⟨rfl, hb1⟩
    have hs1 := hb1.size
    simp at hs1 hb1
    have hw1 := Lib.hid (HA.out.trans (hb1.mono (by omega)))
    have G0 := Lib.hid (F0.out.below hb1 (by omega))
    have G1 := Lib.hid (F1.out.below hb1 (by omega))
    clear c0 hb1
  · have e0 := G1.out.cell
    have f0 := G1.out.free
    have HB : Hid (Below w.heap.size w (w1.setCell ⟨w.heap.size + 1, 0, none⟩ (.slice none 0 0))) := hw1.out.setCell (by simp) _
    go_wp2
    refine bodyPost_ret (v := okV (.slice none 0 0) false) (by simp [okV, results, Try.results51, go_sem, e0]) rfl ⟨_, ret_m rfl (by unfold cpB; rw [HV.out]; rfl), ?_, HB.out⟩
    unfold cpL cpB
    rw [HV.out]
    exact OwnM.nil _ _ _
  · have hl := validC_iff.1 HV.out
    have ht := tot_mem HV.out
    have h0 : 0 < ls.length := by omega
    have c0 := G0.out.cell
    have HP := Lib.hid (putAt_any v ls 0 s n w1 (hM.out.mono hw1.out (Nat.le_refl _)) h0 hs hi (by omega) (by omega))
    have HK : Hid (cpB ls s n = okP ls[0] s n) := by unfold Hid cpB; rw [HV.out, head_at h0]; rfl
    have HL : Hid (cpL ls s n = ifM (okP ls[0] s n) (ls.set 0 (putL ls[0] s n))) := by unfold Hid cpL; rw [HK.out, head_at h0]
    generalize okP ls[0] s n = ok at HP HK HL
    generalize ls.set 0 (putL ls[0] s n) = M at HP HL
    go_wp2_with fail
    refine HP.out.mono ?_
    rintro e w2 ⟨v2, rfl, ho2, hb2⟩
    have H2 := Lib.hid (G1.out.below hb2 G1.out.lt)
    obtain ⟨vo, L, vc, rfl⟩ := ho2.shape
    have e0 := H2.out.cell
    have f0 := H2.out.free
    have HO := Lib.hid (ho2.other H2.out (by decide) (by decide) ((Keeps.refl _ _).one 0 (.slice vo L vc)))
    have HB : Hid (Below w.heap.size w (w2.setCell ⟨w.heap.size + 1, 0, none⟩ (.slice vo L vc))) := (hw1.out.trans (hb2.mono hw1.out.size)).setCell (by simp) _
    clear c0 ho2 hb2
    go_wp2
    refine bodyPost_ret (v := okV (.slice vo L vc) ok) (by simp [okV, results, Try.results51, go_sem, e0]) rfl ⟨_, ret_m rfl HK.out.symm, ?_, HB.out⟩
    rw [HL.out]
    exact HO.out.wide (by omega) (by simp)

/-! ### the model -/
set_option maxHeartbeats 800000 in
set_option maxRecDepth 100000 in
theorem schkC_any {lo hi : Nat} (v : Value) (ls : List (List Itm)) (w : World) (h : OwnM lo hi w v ls) (hhi : hi ≤ w.heap.size) :
    Calls Try.prog 108 #[.agg #[v]] w fun e w' => ∃ v', e = .returned (okV v' (validC ls)) ∧ OwnM lo w'.heap.size w' v' (ifM (validC ls) ls) ∧ Below w.heap.size w w' := by
  have hM := Lib.hid h
  obtain ⟨vo, L, vc, rfl⟩ := h.shape
  clear h
  go_enter Try.func108, Try.ntmps108
  have HA : Hid (Below w.heap.size w ((w.alloc (.cells #[.slice vo L vc] 51)).alloc (.cells #[.slice none 0 0] 51))) := ((Below.refl _ _).alloc (Nat.le_refl _) _).alloc (by simp) _
  have F0 := Lib.hid ((One.new w 51 (.slice vo L vc)).below (B := w.heap.size + 1) ((Below.refl _ _).alloc (by simp) (.cells #[.slice none 0 0] 51)) (by omega))
  have F1' := One.new (w.alloc (.cells #[.slice vo L vc] 51)) 51 (.slice none 0 0)
  simp at F1'
  have F1 := Lib.hid F1'
  clear F1'
  have c0 := F0.out.cell
  cases hv : validC ls
  all_goals
    have HV := Lib.hid hv
    clear hv
    go_wp2_with fail
    refine (svC_v _ (hM.out.maps.mono HA.out (Nat.le_refl _)) HV.out).mono ?_
    rintro e w1 ⟨rfl, hb1⟩
    have hs1 := hb1.size
    simp at hs1 hb1
    have hw1 := Lib.hid (HA.out.trans (hb1.mono (by omega)))
    have G0 := Lib.hid (F0.out.below hb1 (by omega))
    have G1 := Lib.hid (F1.out.below hb1 (by omega))
    have c0 := G0.out.cell
    have e0 := G1.out.cell
    have f0 := G1.out.free
    clear hb1
    go_wp2
  · have HB : Hid (Below w.heap.size w (w1.setCell ⟨w.heap.size + 1, 0, none⟩ (.slice none 0 0))) := hw1.out.setCell (by simp) _
    exact bodyPost_ret (v := okV (.slice none 0 0) false) (by simp [okV, results, Try.results108, go_sem, e0]) rfl ⟨_, rfl, OwnM.nil _ _ _, HB.out⟩
  · have HB : Hid (Below w.heap.size w (w1.setCell ⟨w.heap.size + 1, 0, none⟩ (.slice vo L vc))) := hw1.out.setCell (by simp) _
    have hsz := HB.out.size
    exact bodyPost_ret (v := okV (.slice vo L vc) true) (by simp [okV, results, Try.results108, go_sem, e0]) rfl ⟨_, rfl, (hM.out.keeps (Keeps.of_below HB.out (fun j hj => Nat.lt_of_lt_of_le hj.2 hhi))).wide (Nat.le_refl _) (by omega), HB.out⟩
theorem validC_set {ls : List (List Itm)} {k : Nat} (h : validC ls = true) (hk : k < ls.length) (l : List Itm) : validC (ls.set k l) = validI l := by
  have h1 := validC_iff.1 h
  rw [Bool.eq_iff_iff, validC_iff]
  constructor
  · rintro ⟨ha, _⟩
    exact ha l (List.mem_of_getElem? (i := k) (by simp [hk]))
  · intro hl
    refine ⟨fun m hm => ?_, by simp; omega, by simp; omega⟩
    rcases List.mem_or_eq_of_mem_set hm with hm | rfl
    · exact h1.1 m hm
    · exact hl
theorem cp_of {ls : List (List Itm)} {s : ByteArray} {n : Int} (h : validC ls = true) (h0 : 0 < ls.length) : validC (ls.set 0 (putI ls[0] s n)) = cpB ls s n ∧ ifM (validC (ls.set 0 (putI ls[0] s n))) (ls.set 0 (putI ls[0] s n)) = cpL ls s n := by
  have h1 := (validC_iff.1 h).1 _ (List.getElem_mem h0)
  have e1 : validC (ls.set 0 (putI ls[0] s n)) = cpB ls s n := by
    rw [validC_set h h0]
    unfold cpB okP
    rw [h, head_at h0, h1]
    rfl
  refine ⟨e1, ?_⟩
  rw [e1]
  unfold cpL
  cases hb : cpB ls s n
  · rfl
  · have hp : okP (ls.headD []) s n = true := by unfold cpB at hb; rw [Bool.and_eq_true] at hb; exact hb.2
    unfold putL
    rw [hp, head_at h0]
    rfl

set_option maxHeartbeats 1600000 in
set_option maxRecDepth 100000 in
theorem sChainPut_any (v : Value) (ls : List (List Itm)) (s : ByteArray) (n : Int) (w : World) (h : Maps w v ls) (hs : s.size ≤ 9223372036854775807) (hi : -9223372036854775808 ≤ n ∧ n ≤ 9223372036854775807) :
    Calls Try.prog 52 #[.agg #[v], .string s, .int .i64 n] w (NewM (fun v => .tuple #[.agg #[v], .bool (cpB ls s n)]) (cpL ls s n) w) := by
  have hM := Lib.hid h
  clear h
  go_enter Try.func52, Try.ntmps52
  have HA : Hid (Below w.heap.size w ((w.alloc (.cells #[v] 51)).alloc (.cells #[.slice none 0 0] 51))) := ((Below.refl _ _).alloc (Nat.le_refl _) _).alloc (by simp) _
  have F0 := Lib.hid ((One.new w 51 v).below (B := w.heap.size + 1) ((Below.refl _ _).alloc (by simp) (.cells #[.slice none 0 0] 51)) (by omega))
  have F1' := One.new (w.alloc (.cells #[v] 51)) 51 (.slice none 0 0)
  simp at F1'
  have F1 := Lib.hid F1'
  clear F1'
  have c0 := F0.out.cell
  cases hv : validC ls
  all_goals
    have HV := Lib.hid hv
    clear hv
    go_wp2_with fail
    refine (svC_v _ (hM.out.mono HA.out (Nat.le_refl _)) HV.out).mono ?_
    rintro e w1 ⟨rfl, hb1⟩
    have hs1 := hb1.size
    simp at hs1 hb1
    have hw1 := Lib.hid (HA.out.trans (hb1.mono (by omega)))
    have G0 := Lib.hid (F0.out.below hb1 (by omega))
    have G1 := Lib.hid (F1.out.below hb1 (by omega))
    clear c0 hb1
  · have e0 := G1.out.cell
    have f0 := G1.out.free
    have HB : Hid (Below w.heap.size w (w1.setCell ⟨w.heap.size + 1, 0, none⟩ (.slice none 0 0))) := hw1.out.setCell (by simp) _
    go_wp2
    refine bodyPost_ret (v := okV (.slice none 0 0) false) (by simp [okV, results, Try.results52, go_sem, e0]) rfl ⟨_, ret_m rfl (by unfold cpB; rw [HV.out]; rfl), ?_, HB.out⟩
    unfold cpL cpB
    rw [HV.out]
    exact OwnM.nil _ _ _
  · have hl := validC_iff.1 HV.out
    have ht := tot_mem HV.out
    have h0 : 0 < ls.length := by omega
    have hln : ls[0].length ≤ 8 := valid_len (hl.1 _ (List.getElem_mem h0))
    have c0 := G0.out.cell
    have HC := Lib.hid (cp_of (s := s) (n := n) HV.out h0)
    go_wp2_with fail
    refine (scopyChain_any v ls _ (hM.out.mono hw1.out (Nat.le_refl _)) (by omega) (by omega)).mono ?_
    rintro e w2 ⟨v2, rfl, ho2, hb2⟩
    obtain ⟨g, cap, rfl, hg1, hg2⟩ := ho2.head h0
    have hs2 := hb2.size
    have HA2 : Hid (Below w2.heap.size w2 (w2.alloc (.cells #[.slice (some ⟨g, 0, none⟩) ls.length cap] 51))) := (Below.refl _ _).alloc (Nat.le_refl _) _
    have HO2 := Lib.hid (ho2.keeps (Keeps.of_below HA2.out (fun j hj => hj.2)))
    have FN := Lib.hid (One.new w2 51 (.slice (some ⟨g, 0, none⟩) ls.length cap))
    have G2 := Lib.hid ((G1.out.below hb2 G1.out.lt).below HA2.out (by have := G1.out.lt; omega))
    have HW2 := Lib.hid ((hw1.out.trans (hb2.mono hw1.out.size)).trans (HA2.out.mono (by have := hw1.out.size; omega)))
    obtain ⟨u, hcb, hI⟩ := HO2.out.cell h0
    have HI := Lib.hid hI
    have d0 := FN.out.cell
    have hA2 : (w2.alloc (.cells #[.slice (some ⟨g, 0, none⟩) ls.length cap] 51)).heap.size = w2.heap.size + 1 := by simp
    clear c0 hI ho2 hb2
    go_wp2_with fail
    generalize w2.alloc (.cells #[.slice (some ⟨g, 0, none⟩) ls.length cap] 51) = W at *
    have hkc : (0 : Int) < (ls.length : Int) := by omega
    go_region_law (first
      | (go_simp; go_at_call 107; refine (put_any _ _ s n _ (Items.drew HI.out) (by omega) hs hi).mono ?_; rintro e w3 ⟨u3, rfl, ho3, hb3⟩; have hF3 := FN.out.below (Below.undrew hb3) (by show w2.heap.size < W.heap.size; omega); have c3 := hF3.cell; have hM3 := HO2.out.keeps (Keeps.of_below (Below.undrew hb3) (fun j hj => by have := hj.2; show j < W.heap.size; omega)); obtain ⟨g', cap', eg, _, _, ⟨x, hc5⟩, f5, hput⟩ := hM3.put (lo := w.heap.size) (hi := w3.heap.size) (RowZ.of ho3) h0 (.inr (by show w2.heap.size ≤ W.heap.size; omega)) hw1.out.size (by show w.heap.size ≤ W.heap.size; exact HW2.out.size) (by have := hb3.size; simp at this; omega) (Nat.le_refl _); simp only [Value.slice.injEq, Option.some.injEq, Addr.mk.injEq, and_true] at eg; obtain ⟨rfl, _, rfl⟩ := eg; obtain ⟨uo, uc, rfl, _, _⟩ := own_slice ho3.1))
    all_goals
      have hw3 : W.heap.size ≤ w3.heap.size := hb3.size
      have hbS : Below W.heap.size W w3 := Below.undrew hb3
      have HO3 := Lib.hid hput
      have HW3 : Hid (Below w.heap.size w (w3.setCell ⟨g, 0, none⟩ (.slice uo (putI ls[0] s n).length uc))) := (HW2.out.trans (hbS.mono HW2.out.size)).setCell (by simp; have := hw1.out.size; omega) _
      have G3 := Lib.hid ((G2.out.below hbS G2.out.lt).keeps ((Keeps.refl (fun j => j ≠ g) w3).setCell (a := ⟨g, 0, none⟩) (fun h => h rfl) (.slice uo (putI ls[0] s n).length uc)) (by have := G1.out.lt; omega))
      have F3 := Lib.hid (hF3.keeps ((Keeps.refl (fun j => j ≠ g) w3).setCell (a := ⟨g, 0, none⟩) (fun h => h rfl) (.slice uo (putI ls[0] s n).length uc)) (by omega))
      have hsz3 : w3.heap.size = (w3.setCell ⟨g, 0, none⟩ (.slice uo (putI ls[0] s n).length uc)).heap.size := by simp
      generalize w3.setCell ⟨g, 0, none⟩ (.slice uo (putI ls[0] s n).length uc) = X at *
      clear hF3 c3 hM3 hc5 f5 hput hbS hb3 ho3 hcb d0
      have d0 := F3.out.cell
      go_wp2_with fail
      refine (schkC_any _ _ X HO3.out (by omega)).mono ?_
      rintro e w4 ⟨v4, rfl, ho4, hb4⟩
      rw [HC.out.1, HC.out.2] at *
      have H4 := Lib.hid (G3.out.below hb4 G3.out.lt)
      obtain ⟨vo, L, vc, rfl⟩ := ho4.shape
      have e0 := H4.out.cell
      have f0 := H4.out.free
      have hzz : w4.heap.size ≤ (w4.setCell ⟨w.heap.size + 1, 0, none⟩ (.slice vo L vc)).heap.size := by simp
      have HO := Lib.hid ((ho4.other H4.out (by decide) (by decide) ((Keeps.refl _ _).one 0 (.slice vo L vc))).wide (Nat.le_refl _) hzz)
      have HB : Hid (Below w.heap.size w (w4.setCell ⟨w.heap.size + 1, 0, none⟩ (.slice vo L vc))) := (HW3.out.trans (hb4.mono HW3.out.size)).setCell (by simp) _
      clear d0 ho4 hb4 hzz
      go_wp2
      exact bodyPost_ret (v := okV (.slice vo L vc) (cpB ls s n)) (by simp [okV, results, Try.results52, go_sem, e0]) rfl ⟨_, rfl, HO.out, HB.out⟩
theorem cp_le (ls : List (List Itm)) (s : ByteArray) (n : Int) : tot (cpL ls s n) ≤ 10000000 := by
  cases hv : validC ls
  · unfold cpL cpB
    rw [hv]
    simp [ifM, tot]
  · have h0 : 0 < ls.length := by have := validC_iff.1 hv; omega
    rw [← (cp_of (s := s) (n := n) hv h0).2]
    cases hb : validC (ls.set 0 (putI ls[0] s n))
    · simp [ifM, tot]
    · have := tot_mem hb
      simp only [ifM, if_true]
      omega
end Go.Proofs.Ytoglgeinnocfjaa
/-
  An item dropped from a chain's map, by the program and by the model.
-/
namespace Go.Proofs.Ytoglgeinnocfjaa
open Go.RowKit

set_option maxHeartbeats 800000 in
set_option maxRecDepth 100000 in
theorem dropAt_any (v : Value) (ls : List (List Itm)) (k : Nat) (s : ByteArray) (w : World) (h : Maps w v ls) (hk : k < ls.length) (hn : ls.length ≤ 100000) (hm : tot ls ≤ 100000) :
    Calls Try.prog 111 #[.agg #[v], .int .i64 k, .string s] w fun e w' => ∃ v', e = .returned (okV v' (okG ls[k] s)) ∧ OwnM w.heap.size w'.heap.size w' v' (ifM (okG ls[k] s) (ls.set k (drpL ls[k] s))) ∧ Below w.heap.size w w' := by
  have hM := Lib.hid h
  obtain ⟨b, o, cap, u, rfl, hb, h1, hI⟩ := h.at hk
  clear h
  go_enter Try.func111, Try.ntmps111
  have HA : Hid (Below w.heap.size w ((w.alloc (.cells #[.slice (some ⟨b, o, none⟩) ls.length cap] 51)).alloc (.cells #[.slice none 0 0] 51))) := ((Below.refl _ _).alloc (Nat.le_refl _) _).alloc (by simp) _
  have F0 := (One.new w 51 (.slice (some ⟨b, o, none⟩) ls.length cap)).below (B := w.heap.size + 1) ((Below.refl _ _).alloc (by simp) (.cells #[.slice none 0 0] 51)) (by omega)
  have F1 := One.new (w.alloc (.cells #[.slice (some ⟨b, o, none⟩) ls.length cap] 51)) 51 (.slice none 0 0)
  simp at F1
  have c0 := F0.cell
  have c1 := (HA.out.cell (p := ⟨b, _, none⟩) hb).trans h1
  have HI := Lib.hid (hI.mono HA.out (Nat.le_refl _))
  obtain ⟨ok, hok⟩ : ∃ ok, Hid (okG ls[k] s = ok) := ⟨_, Lib.hid rfl⟩
  have HP := Lib.hid (DropItem_any _ _ s _ HI.out)
  rw [hok.out] at HP
  clear h1 hI
  go_wp2_with fail
  refine HP.out.mono ?_
  rintro e w1 ⟨u1, rfl, ho1, hb1⟩
  have hs1 := hb1.size
  simp at hs1 ho1 hb1
  have hw1 := Lib.hid (HA.out.trans (hb1.mono (by omega)))
  have hz := Lib.hid ((RowZ.of ho1).wide (show w.heap.size ≤ w.heap.size + 1 + 1 by omega) (Nat.le_refl _))
  have G0 := F0.below hb1 (by omega)
  have G1 := Lib.hid (F1.below hb1 (by omega))
  clear c0 c1 F0 F1 ho1 hb1
  have c0 := G0.cell
  go_wp2_with fail
  refine (replaced_any _ ls k u1 _ ok _ (hM.out.mono hw1.out (Nat.le_refl _)) hk hz.out (by omega) hn hm).mono ?_
  rintro e w2 ⟨v2, rfl, ho2, hb2⟩
  have H2 := Lib.hid (G1.out.below hb2 G1.out.lt)
  obtain ⟨vo, L, vc, rfl⟩ := ho2.shape
  have e0 := H2.out.cell
  have f0 := H2.out.free
  have HO := Lib.hid (ho2.other H2.out (by decide) (by decide) ((Keeps.refl _ _).one 0 (.slice vo L vc)))
  have HB : Hid (Below w.heap.size w (w2.setCell ⟨w.heap.size + 1, 0, none⟩ (.slice vo L vc))) := (hw1.out.trans (hb2.mono hw1.out.size)).setCell (by simp) _
  clear c0 G0 ho2 hb2
  have hzz : w2.heap.size ≤ (w2.setCell ⟨w.heap.size + 1, 0, none⟩ (.slice vo L vc)).heap.size := by simp
  have HO' := HO.out.wide (Nat.le_refl _) hzz
  rw [← hok.out] at HO'
  have HO'' := Lib.hid HO'
  clear HO'
  go_wp2
  exact bodyPost_ret (v := okV (.slice vo L vc) ok) (by simp [okV, results, Try.results111, go_sem, e0]) rfl ⟨_, ret_m rfl hok.out.symm, HO''.out, HB.out⟩

def cdB (ls : List (List Itm)) (s : ByteArray) : Bool := validC ls && okG (ls.headD []) s
def cdL (ls : List (List Itm)) (s : ByteArray) : List (List Itm) := ifM (cdB ls s) (ls.set 0 (drpL (ls.headD []) s))
def cdN (ls : List (List Itm)) (s : ByteArray) : Int := if cdB ls s = true then cnt (ls.headD []) s else 0
abbrev okN (f : Value) (n : Int) (ok : Bool) : Value := .tuple #[.agg #[f], .int .i64 n, .bool ok]
theorem ret_mn {a b : Value} {n m : Int} {c d : Bool} (h : a = b) (h1 : n = m) (h' : c = d) : Ending.returned (okN a n c) = .returned (okN b m d) := by rw [h, h1, h']
theorem cd_no {ls : List (List Itm)} {s : ByteArray} (h : cdB ls s = false) : cdL ls s = [] ∧ cdN ls s = 0 := by
  unfold cdL cdN
  rw [h]
  exact ⟨rfl, rfl⟩
theorem cd_yes {ls : List (List Itm)} {s : ByteArray} (h : cdB ls s = true) : cdL ls s = ls.set 0 (delI (ls.headD []) s) ∧ cdN ls s = cnt (ls.headD []) s := by
  have h2 : okG (ls.headD []) s = true := by unfold cdB at h; rw [Bool.and_eq_true] at h; exact h.2
  unfold cdL cdN drpL
  rw [h, h2]
  exact ⟨rfl, rfl⟩
theorem cd_le (ls : List (List Itm)) (s : ByteArray) : tot (cdL ls s) ≤ 10000000 := by
  cases h : cdB ls s
  · rw [(cd_no h).1]; simp [tot]
  · rw [(cd_yes h).1]
    have hv : validC ls = true := by unfold cdB at h; rw [Bool.and_eq_true] at h; exact h.1
    have h1 := tot_mem hv
    have h2 := (validC_iff.1 hv)
    cases ls with
    | nil => simp [tot]
    | cons x r =>
      simp only [List.set_cons_zero, tot, List.headD_cons] at h1 ⊢
      have := del_le x s
      omega

end Go.Proofs.Ytoglgeinnocfjaa
/-
  A chain without its first map, by the program and by the model.
-/
namespace Go.Proofs.Ytoglgeinnocfjaa
open Go.RowKit

def paL (ls : List (List Itm)) : List (List Itm) := ifM (validC ls) (if ls.length = 1 then [[]] else ls.drop 1)
theorem pa_no {ls : List (List Itm)} (h : validC ls = false) : paL ls = [] := by unfold paL; rw [h]; rfl
theorem pa_one {ls : List (List Itm)} (h : validC ls = true) (h1 : ls.length = 1) : paL ls = [[]] := by unfold paL; rw [h, if_pos h1]; rfl
theorem pa_more {ls : List (List Itm)} (h : validC ls = true) (h1 : ls.length ≠ 1) : paL ls = ls.drop 1 := by unfold paL; rw [h, if_neg h1]; rfl
theorem tot_drop (ls : List (List Itm)) (j : Nat) : tot (ls.drop j) ≤ tot ls := by
  induction ls generalizing j with
  | nil => simp
  | cons x r ih =>
    cases j with
    | zero => simp
    | succ j =>
      have := ih j
      simp only [List.drop_succ_cons, tot]
      omega
theorem pa_le (ls : List (List Itm)) : tot (paL ls) ≤ 10000000 := by
  cases h : validC ls
  · rw [pa_no h]; simp [tot]
  · by_cases h1 : ls.length = 1
    · rw [pa_one h h1]; simp [tot]
    · rw [pa_more h h1]
      have := tot_mem h
      have := tot_drop ls 1
      omega
theorem RowOf.tail {K : Nat → Prop} {w : World} {b o n cap : Nat} {us : List Value} (h : RowOf K w (.slice (some ⟨b, o, none⟩) n cap) us) : RowOf K w (.slice (some ⟨b, o + 1, none⟩) (n - 1) (cap - 1)) (us.drop 1) := by
  obtain ⟨ao, cap', e, h1, h2, h3⟩ := h
  simp only [Value.slice.injEq] at e
  obtain ⟨rfl, rfl, rfl⟩ := e
  refine ⟨some ⟨b, o + 1, none⟩, cap - 1, by simp, by simp; omega, by omega, fun k u hu => ?_⟩
  rw [List.getElem?_drop] at hu
  obtain ⟨b', o', ha, hb, hK, hc⟩ := h3 (1 + k) u hu
  simp only [Option.some.injEq, Addr.mk.injEq, and_true] at ha
  obtain ⟨rfl, rfl⟩ := ha
  exact ⟨b, o + 1, rfl, hb, hK, by rw [Nat.add_assoc]; exact hc⟩
theorem MapsK.tail {K : Nat → Prop} {w : World} {b o n cap : Nat} {ls : List (List Itm)} (h : MapsK K w (.slice (some ⟨b, o, none⟩) n cap) ls) : MapsK K w (.slice (some ⟨b, o + 1, none⟩) (n - 1) (cap - 1)) (ls.drop 1) := by
  obtain ⟨us, h1, h2, h3⟩ := h
  refine ⟨us.drop 1, by simp [h1], h2.tail, fun k u l hu hl => ?_⟩
  rw [List.getElem?_drop] at hu hl
  exact h3 (1 + k) u l hu hl
theorem OwnM.one {B : Nat} {w : World} {u : Value} {l : List Itm} (hu : RowZ B w.heap.size w u l) (hB : B ≤ w.heap.size) : OwnM B (w.heap.size + 1) (w.alloc (.cells #[u] 55)) (.slice (some ⟨w.heap.size, 0, none⟩) 1 1) [l] := by
  have h := World.ownsRow_lit (base := B) (e := 55) (size := 1) w #[u] 1 hB (by unfold maxLen; omega) rfl
  refine ⟨[u], .inl ⟨h, fun g hg => by simp [Value.ownBlock] at hg; omega⟩, rfl, ?_, ?_⟩
  · intro k x m hx hm
    match k, hx, hm with
    | 0, hx, hm =>
      simp at hx hm
      subst hx hm
      exact (hu.keeps ((Keeps.refl _ _).alloc (fun j hj => hj.2) _)).wide (Nat.le_refl _) (by omega)
    | k + 1, hx, _ => simp at hx
  · intro i j x x' m m' hij hx hx' _ _
    match i, j, hx, hx' with
    | 0, 0, _, _ => omega
    | i + 1, _, hx, _ => simp at hx
    | 0, j + 1, _, hx' => simp at hx'
theorem RowZ_nil (lo hi : Nat) (w : World) : RowZ lo hi w (.slice none 0 0) [] := ⟨.inr ⟨rfl, none, 0, rfl, by omega⟩, fun h => absurd rfl h⟩
theorem RowZ_none (lo hi : Nat) (w : World) (ao : Option Addr) : RowZ lo hi w (.slice ao 0 0) [] := ⟨.inr ⟨rfl, ao, 0, rfl, by omega⟩, fun h => absurd rfl h⟩
theorem ret_c {a b : Value} (h : a = b) : Ending.returned (.agg #[a]) = .returned (.agg #[b]) := by rw [h]

set_option maxHeartbeats 1600000 in
set_option maxRecDepth 100000 in
theorem ParentsOf_any (v : Value) (ls : List (List Itm)) (w : World) (h : Maps w v ls) :
    Calls Try.prog 55 #[.agg #[v]] w (NewM (fun v => .agg #[v]) (paL ls) w) := by
  have hM := Lib.hid h
  obtain ⟨ao, cap, rfl, hlc, hcm⟩ := h.slice
  clear h
  go_enter Try.func55, Try.ntmps55
  have HA : Hid (Below w.heap.size w ((w.alloc (.cells #[.slice ao ls.length cap] 51)).alloc (.cells #[.slice none 0 0] 51))) := ((Below.refl _ _).alloc (Nat.le_refl _) _).alloc (by simp) _
  have F0 := Lib.hid ((One.new w 51 (.slice ao ls.length cap)).below (B := w.heap.size + 1) ((Below.refl _ _).alloc (by simp) (.cells #[.slice none 0 0] 51)) (by omega))
  have F1' := One.new (w.alloc (.cells #[.slice ao ls.length cap] 51)) 51 (.slice none 0 0)
  simp at F1'
  have F1 := Lib.hid F1'
  clear F1'
  have c0 := F0.out.cell
  cases hv : validC ls
  all_goals
    have HV := Lib.hid hv
    clear hv
    go_wp2_with fail
    refine (vC_v _ (hM.out.mono HA.out (Nat.le_refl _)) HV.out).mono ?_
    rintro e w1 ⟨rfl, hb1⟩
    have hs1 := hb1.size
    simp at hs1 hb1
    have hw1 := Lib.hid (HA.out.trans (hb1.mono (by omega)))
    have G0 := Lib.hid (F0.out.below hb1 (by omega))
    have G1 := Lib.hid (F1.out.below hb1 (by omega))
    clear c0 hb1
  · have e0 := G1.out.cell
    have f0 := G1.out.free
    have HB : Hid (Below w.heap.size w (w1.setCell ⟨w.heap.size + 1, 0, none⟩ (.slice none 0 0))) := hw1.out.setCell (by simp) _
    have HC := Lib.hid (pa_no HV.out)
    go_wp2
    refine bodyPost_ret (v := .agg #[.slice none 0 0]) (by simp [results, Try.results55, go_sem, e0]) rfl ⟨_, rfl, ?_, HB.out⟩
    rw [HC.out]
    exact OwnM.nil _ _ _
  · have hl := validC_iff.1 HV.out
    have ht := tot_mem HV.out
    have h0 : 0 < ls.length := by omega
    have c0 := G0.out.cell
    by_cases h1 : ls.length = 1
    · have HC := Lib.hid (pa_one HV.out h1)
      have hlit := eqLen_lit h1
      have hlit2 : ((ls.length : Nat) : Int) = 1 := by omega
      have HAN : Below w1.heap.size w1 (w1.alloc (.cells #[.slice none 0 0] 55)) := (Below.refl _ _).alloc (Nat.le_refl _) _
      have K1 := G1.out.below HAN G1.out.lt
      have e0 := K1.cell
      have f0 := K1.free
      have HO := Lib.hid (((OwnM.one (RowZ_nil w1.heap.size w1.heap.size w1) (Nat.le_refl _)).other K1 (by decide) (by decide) ((Keeps.refl _ _).one 0 (.slice (some ⟨w1.heap.size, 0, none⟩) 1 1))).wide hw1.out.size (hi' := ((w1.alloc (.cells #[.slice none 0 0] 55)).setCell ⟨w.heap.size + 1, 0, none⟩ (.slice (some ⟨w1.heap.size, 0, none⟩) 1 1)).heap.size) (by simp))
      have HB : Hid (Below w.heap.size w ((w1.alloc (.cells #[.slice none 0 0] 55)).setCell ⟨w.heap.size + 1, 0, none⟩ (.slice (some ⟨w1.heap.size, 0, none⟩) 1 1))) := (hw1.out.trans (HAN.mono hw1.out.size)).setCell (by simp) _
      clear HAN K1
      go_wp2
      refine bodyPost_ret (v := .agg #[.slice (some ⟨w1.heap.size, 0, none⟩) 1 1]) (by simp [results, Try.results55, go_sem, e0]) rfl ⟨_, rfl, ?_, HB.out⟩
      rw [HC.out]
      exact HO.out
    · have HC := Lib.hid (pa_more HV.out h1)
      obtain ⟨b, o, cap', u, e, hb, _, _⟩ := hM.out.at h0
      simp only [Value.slice.injEq] at e
      obtain ⟨rfl, _, rfl⟩ := e
      have htd := tot_drop ls 1
      have hM1 := Lib.hid ((hM.out.mono hw1.out (Nat.le_refl _)).tail : Maps w1 _ _)
      have hz1 : ¬ ((ls.length : Nat) : Int) = 1 := by omega
      have hc1 : ¬ (cap = 1) := by omega
      have hk1 : (1 : Int) ≤ (ls.length : Int) := by omega
      have hk2 : 1 ≤ ls.length := by omega
      have hk3 : 1 ≤ cap := by omega
      go_wp2_with fail
      refine (copied_any _ (ls.drop 1) w1 hM1.out (by simp; omega) (by omega)).mono ?_
      rintro e w2 ⟨v2, rfl, ho2, hb2⟩
      have H2 := Lib.hid (G1.out.below hb2 G1.out.lt)
      obtain ⟨vo, L, vc, rfl⟩ := ho2.shape
      have e0 := H2.out.cell
      have f0 := H2.out.free
      have hzz : w2.heap.size ≤ (w2.setCell ⟨w.heap.size + 1, 0, none⟩ (.slice vo L vc)).heap.size := by simp
      have HO := Lib.hid ((ho2.other H2.out (by decide) (by decide) ((Keeps.refl _ _).one 0 (.slice vo L vc))).wide hw1.out.size hzz)
      have HB : Hid (Below w.heap.size w (w2.setCell ⟨w.heap.size + 1, 0, none⟩ (.slice vo L vc))) := (hw1.out.trans (hb2.mono hw1.out.size)).setCell (by simp) _
      clear c0 ho2 hb2 hzz
      go_wp2
      refine bodyPost_ret (v := .agg #[.slice vo L vc]) (by simp [results, Try.results55, go_sem, e0]) rfl ⟨_, rfl, ?_, HB.out⟩
      rw [HC.out]
      exact HO.out

end Go.Proofs.Ytoglgeinnocfjaa
/-
  The model's functions over items in order: a default, another key, laid over, turned.
-/
namespace Go.Proofs.Ytoglgeinnocfjaa
open Go.RowKit

/-! ### a default -/
/-! ### another key -/
theorem okI_ren {l : List Itm} (h : okI l) (k : Nat) (x : Itm) (hx : okI [x]) : okI (l.set k x) := fun y hy => by
  rcases List.mem_or_eq_of_mem_set hy with hy | rfl
  · exact h y hy
  · exact hx _ (by simp)
theorem renL_chk {xs : List Itm} {s t : ByteArray} (hv : validI xs = true) (hh : hasI xs s = true) (ht : hasI xs t = false) : renL xs s t = chkL (renI xs s t) ∧ okR xs s t = validI (renI xs s t) := by
  have e : okR xs s t = validI (renI xs s t) := by unfold okR; rw [hv, hh, ht]; rfl
  exact ⟨by unfold renL chkL; rw [e], e⟩
theorem renL_no {xs : List Itm} {s t : ByteArray} (h : (validI xs && hasI xs s && !hasI xs t) = false) : renL xs s t = [] ∧ okR xs s t = false := by
  have e : okR xs s t = false := by unfold okR; rw [h]; rfl
  exact ⟨by unfold renL; rw [e]; rfl, e⟩

/-! ### laid over -/
theorem okI_over {a b : List Itm} (ha : okI a) (hb : okI b) : okI (overI a b) := by
  induction b generalizing a with
  | nil => exact ha
  | cons x r ih => exact ih (okI_put ha (hb x (by simp)).1 (hb x (by simp)).2) (fun y hy => hb y (by simp [hy]))

set_option maxHeartbeats 1600000 in
set_option maxRecDepth 100000 in
theorem soverlaid_any (va vb : Value) (a b : List Itm) (w : World) (ha : Items w va a) (hb : Items w vb b) (hla : a.length ≤ 1000) (hlb : b.length ≤ 1000) :
    Calls Try.prog 139 #[va, vb] w (FreshI (overI a b) w) := by
  obtain ⟨ao, cap, rfl, hlc, hcm, hok, hcell⟩ := hb
  go_enter Try.func139, Try.ntmps139
  go_wp2_with fail
  refine (copyItems_any va a w ha (by omega)).mono ?_
  rintro e w1 ⟨v1, rfl, ho1, hb1⟩
  clear ha
  go_wp2
  go_loopw [5, 6] (fun x i wr => ∃ k : Nat, k ≤ b.length ∧ i = .int .i64 k ∧ OwnI 74 wr w.heap.size x (overI a (b.take k)) ∧ Below w.heap.size w wr) (fun _ i _ => b.length - (intOf i).toNat)
  case atStart => exact ⟨0, Nat.zero_le _, rfl, ho1, hb1⟩
  case round =>
    obtain ⟨k, hk, rfl, hrow, hbl⟩ := hrel
    by_cases hlt : k < b.length
    · obtain ⟨b1, o1, rfl, hb1', h1, h2⟩ := hcell k hlt
      have c1 := (hbl.cell (p := ⟨b1, _, none⟩) hb1').trans h1
      have c2 := (hbl.cell (p := ⟨b1, _, none⟩) hb1').trans h2
      have hx := hok _ (List.getElem_mem hlt)
      have hln := overI_len (b.take k) a
      have htk := List.length_take_le k b
      have hI := Lib.hid hrow.items
      obtain ⟨xo, xcap, rfl, _, _⟩ := own_slice hrow.1
      have HT := Lib.hid (overI_take (a := a) hlt)
      clear h1 h2
      go_wp2_with fail
      go_still_tail 11, (by kernel_rfl)
      change wpList _ _ _ _ _ wr.drew
      go_wp2_with fail
      refine (put_any _ _ _ _ _ (Items.drew hI.out) (by omega) hx.1 hx.2).mono ?_
      rintro e w2 ⟨v2, rfl, ho2, hb2⟩
      have ho3 := Lib.hid (ho2.base (show w.heap.size ≤ wr.drew.heap.size from hbl.size))
      have hb3 := Lib.hid (hbl.drew.trans (hb2.mono hbl.size))
      clear ho2 hb2 c1 c2 hln htk hrow
      go_wp2
      go_roundw
      case rel => exact ⟨k + 1, by omega, by go_num, by rw [HT.out]; exact ho3.out, hb3.out⟩
      case measure => simp [intOf]; omega
    · obtain rfl : k = b.length := by omega
      rw [List.take_length] at hrow
      go_wp2
      go_ret
      exact ⟨_, rfl, hrow, hbl⟩

theorem over_chk {a b : List Itm} (h : okB a b = true) : overL a b = chkL (overI a b) ∧ okO a b = validI (overI a b) := by
  have e : okO a b = validI (overI a b) := by unfold okO; rw [h, Bool.true_and]
  exact ⟨by unfold overL chkL; rw [e], e⟩
theorem over_no {a b : List Itm} (h : okB a b = false) : overL a b = [] ∧ okO a b = false := by
  have e : okO a b = false := by unfold okO; rw [h, Bool.false_and]
  exact ⟨by unfold overL; rw [e]; rfl, e⟩
theorem okB_yes {a b : List Itm} (h : okB a b = true) : validI a = true ∧ validI b = true := by unfold okB at h; simpa using h

/-! ### turned -/
end Go.Proofs.Ytoglgeinnocfjaa
/-
  An item dropped from a chain's first map, by the model.
-/
namespace Go.Proofs.Ytoglgeinnocfjaa
open Go.RowKit

theorem cd_of {ls : List (List Itm)} {s : ByteArray} {b : Bool} (h : validC ls = true) (h0 : 0 < ls.length) (hb : hasI ls[0] s = b) : cdB ls s = b := by
  unfold cdB okG
  rw [h, head_at h0, (validC_iff.1 h).1 _ (List.getElem_mem h0), hb]
  rfl

end Go.Proofs.Ytoglgeinnocfjaa
