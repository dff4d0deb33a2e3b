/-
  The same counts in another order; what is positive.
-/
import Derived.Test.YtloalakpkjbeaaaPure2
import Derived.Test.YtloalakpkjbeaaaTally3
namespace Go.Proofs.Ytloalakpkjbeaaa

theorem uniq_nodup : ∀ {l : List Itm}, uniqI l = true ↔ (keysL l).Nodup
  | [] => by simp [uniqI, keysL]
  | x :: r => by
    have ih := uniq_nodup (l := r)
    have hk : keysL (x :: r) = x.1 :: keysL r := rfl
    rw [hk, List.nodup_cons, ← ih, mem_keys]
    simp only [uniqI, Bool.and_eq_true, Bool.not_eq_true', Bool.not_eq_true]
theorem mem_of_cnt {l : List Itm} (h : uniqI l = true) (x : Itm) : x ∈ l ↔ hasI l x.1 = true ∧ cnt l x.1 = x.2 := by
  constructor
  · intro hx
    exact ⟨hasI_mem.2 ⟨x, hx, rfl⟩, cnt_at_mem h hx⟩
  · rintro ⟨h1, h2⟩
    obtain ⟨y, hy, e⟩ := hasI_mem.1 h1
    have := cnt_at_mem h hy
    rw [e, h2] at this
    have e2 : y = x := Prod.ext e this.symm
    rw [← e2]
    exact hy
theorem has_of_pos {l : List Itm} {s : ByteArray} (h : cnt l s ≠ 0) : hasI l s = true := by
  cases hh : hasI l s
  · exact absurd (cnt_none hh) h
  · rfl
theorem nodup_items {l : List Itm} (h : uniqI l = true) : l.Nodup := List.Pairwise.of_map (fun x : Itm => x.1) (fun a b hne he => hne (by rw [he])) (uniq_nodup.1 h)
theorem perm_of_cnt {l m : List Itm} (ul : uniqI l = true) (um : uniqI m = true) (pl : ∀ x ∈ l, x.2 ≠ 0) (pm : ∀ x ∈ m, x.2 ≠ 0) (h : ∀ s, cnt l s = cnt m s) : l.Perm m := by
  refine (List.perm_ext_iff_of_nodup (nodup_items ul) (nodup_items um)).2 fun x => ?_
  rw [mem_of_cnt ul, mem_of_cnt um, h]
  constructor
  · rintro ⟨h1, h2⟩
    refine ⟨has_of_pos ?_, h2⟩
    rw [h2]
    exact pl x ((mem_of_cnt ul x).2 ⟨h1, by rw [h]; exact h2⟩)
  · rintro ⟨h1, h2⟩
    refine ⟨has_of_pos ?_, h2⟩
    rw [h, h2]
    exact pm x ((mem_of_cnt um x).2 ⟨h1, h2⟩)
theorem valid_perm {l m : List Itm} (h : l.Perm m) : validI l = validI m := by
  rw [Bool.eq_iff_iff, validI_iff, validI_iff, uniq_nodup, uniq_nodup, h.length_eq]
  have e : (keysL l).Nodup ↔ (keysL m).Nodup := (h.map _).nodup_iff
  rw [e]
  simp only [h.mem_iff]
theorem cnt_pos {l : List Itm} (h : uniqI l = true) (s : ByteArray) : cnt (posI l) s = max 0 (cnt l s) := by
  have hu : uniqI (posI l) = true := uniq_filter h
  cases hh : hasI (posI l) s
  · rw [cnt_none hh]
    cases hl : hasI l s
    · rw [cnt_none hl]; rfl
    · obtain ⟨x, hx, rfl⟩ := hasI_mem.1 hl
      rw [cnt_at_mem h hx]
      by_cases hp : 0 < x.2
      · have hm : x ∈ posI l := List.mem_filter.2 ⟨hx, decide_eq_true hp⟩
        have := hasI_mem.2 ⟨x, hm, rfl⟩
        rw [this] at hh
        cases hh
      · omega
  · obtain ⟨x, hx, rfl⟩ := hasI_mem.1 hh
    rw [cnt_at_mem hu hx]
    have hx' := List.mem_filter.1 hx
    rw [cnt_at_mem h hx'.1]
    have : 0 < x.2 := by simpa using hx'.2
    omega
theorem cnt_sum {a b : List Itm} (ha : validI a = true) (hb : uniqI b = true) (m : Int) (s : ByteArray) : cnt (sumL a b m) s = cnt a s + cnt b s * m := by
  rw [sumL_valid ha, cnt_addAll b m a hb]
theorem uniq_sum {a b : List Itm} (ha : validI a = true) (m : Int) : uniqI (sumL a b m) = true := by
  rw [sumL_valid ha]
  exact uniq_addAll b m a (valid_uniq ha)
theorem pos_pos {l : List Itm} : ∀ x ∈ posI l, 0 < x.2 := fun x hx => by simpa using (List.mem_filter.1 hx).2
theorem pos_ne {l : List Itm} : ∀ x ∈ posI l, x.2 ≠ 0 := fun x hx => by have := pos_pos x hx; omega
theorem pos_self {l : List Itm} (h : ∀ x ∈ l, 0 < x.2) : posI l = l := List.filter_eq_self.2 fun x hx => by simpa using h x hx
theorem same_of {a b : List Itm} (ha : validI a = true) (hb : validI b = true) (h : ∀ s, cnt a s = cnt b s) : decide ((nzI (sumL a b (-1))).length = 0) = true := by
  rw [sumL_valid ha, same_eq (valid_uniq ha) (valid_uniq hb), Bool.and_eq_true, within_iff (valid_uniq ha) (valid_uniq hb), within_iff (valid_uniq hb) (valid_uniq ha)]
  exact ⟨fun s => by rw [h s]; exact Int.le_refl _, fun s => by rw [h s]; exact Int.le_refl _⟩
theorem cnt_nonneg' {l : List Itm} (h : ∀ x ∈ l, 0 < x.2) (s : ByteArray) : 0 ≤ cnt l s := by
  induction l with
  | nil => simp [cnt]
  | cons x r ih =>
    unfold cnt
    split
    · have := h x (by simp); omega
    · exact ih (fun y hy => h y (by simp [hy]))

/-! ### AddCounts -/
theorem add_turn {a b : List Itm} (ha : validI a = true) (hb : validI b = true) : (posI (sumL a b 1)).Perm (posI (sumL b a 1)) := by
  refine perm_of_cnt (uniq_filter (uniq_sum ha 1)) (uniq_filter (uniq_sum hb 1)) pos_ne pos_ne fun s => ?_
  rw [cnt_pos (uniq_sum ha 1), cnt_pos (uniq_sum hb 1), cnt_sum ha (valid_uniq hb), cnt_sum hb (valid_uniq ha)]
  congr 1
  omega
theorem cnt_perm {l m : List Itm} (ul : uniqI l = true) (um : uniqI m = true) (h : l.Perm m) (s : ByteArray) : cnt l s = cnt m s := by
  cases hs : hasI l s
  · rw [cnt_none hs]
    cases hm : hasI m s
    · rw [cnt_none hm]
    · obtain ⟨x, hx, rfl⟩ := hasI_mem.1 hm
      have := hasI_mem.2 ⟨x, h.mem_iff.2 hx, rfl⟩
      rw [hs] at this
      cases this
  · obtain ⟨x, hx, rfl⟩ := hasI_mem.1 hs
    rw [cnt_at_mem ul hx, cnt_at_mem um (h.mem_iff.1 hx)]
end Go.Proofs.Ytloalakpkjbeaaa
