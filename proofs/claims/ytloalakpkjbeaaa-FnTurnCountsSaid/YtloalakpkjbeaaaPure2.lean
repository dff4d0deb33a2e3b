/-
  Lists of items as keys and counts: what the operations come to.
-/
import Derived.Test.YtloalakpkjbeaaaSpec3
namespace Go.Proofs.Ytloalakpkjbeaaa
open Go.RowKit

def keysL (l : List Itm) : List ByteArray := l.map (·.1)
def mkL (K : List ByteArray) (f : ByteArray → Int) : List Itm := K.map fun k => (k, f k)

theorem mem_keys {l : List Itm} {k : ByteArray} : k ∈ keysL l ↔ hasI l k = true := by
  rw [hasI_mem]
  simp [keysL]
theorem mk_congr {K : List ByteArray} {f g : ByteArray → Int} (h : ∀ k ∈ K, f k = g k) : mkL K f = mkL K g := by
  unfold mkL
  exact List.map_congr_left fun k hk => by rw [h k hk]
theorem mk_append (K K' : List ByteArray) (f : ByteArray → Int) : mkL (K ++ K') f = mkL K f ++ mkL K' f := by simp [mkL]
theorem keys_mk (K : List ByteArray) (f : ByteArray → Int) : keysL (mkL K f) = K := by simp [keysL, mkL, Function.comp_def]
theorem has_mk (K : List ByteArray) (f : ByteArray → Int) (k : ByteArray) : hasI (mkL K f) k = true ↔ k ∈ K := by rw [← mem_keys, keys_mk]
open Classical in
theorem cnt_mk (K : List ByteArray) (f : ByteArray → Int) (k : ByteArray) : cnt (mkL K f) k = if k ∈ K then f k else 0 := by
  induction K with
  | nil => simp [mkL, cnt]
  | cons x r ih =>
    simp only [mkL, List.map_cons, cnt] at ih ⊢
    by_cases h : x = k
    · subst h; simp
    · have h' : ¬ k = x := fun e => h e.symm
      simp [h, h', ih]
theorem uniq_mk_cnt : ∀ {l : List Itm}, uniqI l = true → l = mkL (keysL l) (cnt l)
  | [], _ => rfl
  | x :: r, h => by
    simp only [uniqI, Bool.and_eq_true, Bool.not_eq_true'] at h
    have ih := uniq_mk_cnt h.2
    have e : mkL (keysL r) (cnt (x :: r)) = mkL (keysL r) (cnt r) := by
      refine mk_congr fun k hk => ?_
      have hk' := mem_keys.1 hk
      simp only [cnt]
      rw [if_neg]
      intro e
      rw [← e, h.1] at hk'
      cases hk'
    show x :: r = (x.1, cnt (x :: r) x.1) :: mkL (keysL r) (cnt (x :: r))
    rw [e, ← ih]
    simp [cnt]
theorem pos_mk (K : List ByteArray) (f : ByteArray → Int) : posI (mkL K f) = mkL (K.filter fun k => decide (0 < f k)) f := by
  unfold posI mkL
  rw [List.filter_map]
  rfl
theorem nz_mk (K : List ByteArray) (f : ByteArray → Int) : nzI (mkL K f) = mkL (K.filter fun k => decide (f k ≠ 0)) f := by
  unfold nzI mkL
  rw [List.filter_map]
  rfl

/-! ### sums -/
theorem cnt_addAll (b : List Itm) (m : Int) : ∀ t : List Itm, uniqI b = true → ∀ s, cnt (addAll t b m) s = cnt t s + cnt b s * m := by
  induction b with
  | nil => intro t _ s; simp [addAll, cnt]
  | cons x r ih =>
    intro t h s
    simp only [uniqI, Bool.and_eq_true, Bool.not_eq_true'] at h
    have e : addAll t (x :: r) m = addAll (putI t x.1 (cnt t x.1 + x.2 * m)) r m := rfl
    rw [e, ih _ h.2]
    by_cases hs : s = x.1
    · subst hs
      rw [cnt_putI_same, cnt_none h.1]
      simp [cnt]
    · have hs' : ¬ x.1 = s := fun e => hs e.symm
      rw [cnt_putI_other _ _ _ _ hs]
      simp [cnt, hs']
theorem uniq_addAll (b : List Itm) (m : Int) : ∀ t : List Itm, uniqI t = true → uniqI (addAll t b m) = true := by
  induction b with
  | nil => intro t h; exact h
  | cons x r ih => intro t h; exact ih _ (uniqI_putI _ _ h)
theorem keys_addAll (b : List Itm) (m : Int) : ∀ t : List Itm, uniqI b = true → keysL (addAll t b m) = keysL t ++ (keysL b).filter fun k => !hasI t k := by
  induction b with
  | nil => intro t _; simp [addAll, keysL]
  | cons x r ih =>
    intro t h
    simp only [uniqI, Bool.and_eq_true, Bool.not_eq_true'] at h
    have e : addAll t (x :: r) m = addAll (putI t x.1 (cnt t x.1 + x.2 * m)) r m := rfl
    rw [e, ih _ h.2]
    have hk : keysL (x :: r) = x.1 :: keysL r := rfl
    rw [hk]
    cases hh : hasI t x.1
    · rw [putI_new hh]
      simp only [List.filter_cons, hh, Bool.not_false, if_true]
      have e2 : keysL (t ++ [(x.1, cnt t x.1 + x.2 * m)]) = keysL t ++ [x.1] := by simp [keysL]
      rw [e2, List.append_assoc]
      congr 1
      rw [List.singleton_append]
      congr 1
      refine List.filter_congr fun k hk => ?_
      rw [hasI_append]
      have : hasI [(x.1, cnt t x.1 + x.2 * m)] k = false := by
        simp only [hasI, Bool.or_false, decide_eq_false_iff_not]
        intro e
        have := mem_keys.1 hk
        rw [← e, h.1] at this
        cases this
      rw [this, Bool.or_false]
    · have e2 : keysL (putI t x.1 (cnt t x.1 + x.2 * m)) = keysL t := putI_keys hh
      rw [e2]
      simp only [List.filter_cons, hh, Bool.not_true]
      congr 1
      refine List.filter_congr fun k _ => ?_
      rw [hasI_putI]
      by_cases e : x.1 = k
      · subst e; simp [hh]
      · simp [e]
theorem addAll_mk {a b : List Itm} (ha : uniqI a = true) (hb : uniqI b = true) (m : Int) :
    addAll a b m = mkL (keysL a ++ (keysL b).filter fun k => !hasI a k) (fun s => cnt a s + cnt b s * m) := by
  rw [uniq_mk_cnt (uniq_addAll b m a ha), keys_addAll b m a hb]
  exact mk_congr fun k _ => cnt_addAll b m a hb k
theorem uniq_keys : ∀ {l l' : List Itm}, keysL l = keysL l' → uniqI l = uniqI l'
  | [], [], _ => rfl
  | [], _ :: _, h => by simp [keysL] at h
  | _ :: _, [], h => by simp [keysL] at h
  | x :: r, y :: r', h => by
    simp only [keysL, List.map_cons, List.cons.injEq] at h
    have ih := uniq_keys (l := r) (l' := r') h.2
    have hh : hasI r x.1 = hasI r' y.1 := by
      rw [h.1, Bool.eq_iff_iff, ← mem_keys, ← mem_keys]
      show y.1 ∈ r.map (·.1) ↔ y.1 ∈ r'.map (·.1)
      rw [h.2]
    simp only [uniqI, ih, hh]
theorem uniq_filter {p : Itm → Bool} : ∀ {l : List Itm}, uniqI l = true → uniqI (l.filter p) = true
  | [], _ => rfl
  | x :: r, h => by
    simp only [uniqI, Bool.and_eq_true, Bool.not_eq_true'] at h
    have ih := uniq_filter (p := p) h.2
    rw [List.filter_cons]
    split
    · simp only [uniqI, Bool.and_eq_true, Bool.not_eq_true', ih, and_true]
      cases hh : hasI (r.filter p) x.1
      · rfl
      · obtain ⟨y, hy, e⟩ := hasI_mem.1 hh
        have := hasI_mem.2 ⟨y, (List.mem_filter.1 hy).1, e⟩
        rw [h.1] at this
        cases this
    · exact ih
theorem cnt_at_mem {l : List Itm} (h : uniqI l = true) {x : Itm} (hx : x ∈ l) : cnt l x.1 = x.2 := by
  obtain ⟨k, hk, rfl⟩ := List.mem_iff_getElem.1 hx
  exact cnt_at hk h

/-! ### one operation after another -/
theorem scale_eq {a : List Itm} (h : uniqI a = true) (m : Int) : sumL [] a m = a.map fun x => (x.1, x.2 * m) := by
  show addAll [] a m = _
  rw [addAll_mk rfl h]
  have e1 : (keysL ([] : List Itm) ++ (keysL a).filter fun k => !hasI [] k) = keysL a := by
    show ([] : List ByteArray) ++ _ = _
    rw [List.nil_append, List.filter_eq_self]
    intro k _
    rfl
  rw [e1]
  show (a.map (·.1)).map _ = _
  rw [List.map_map]
  refine List.map_congr_left fun x hx => ?_
  show (x.1, cnt [] x.1 + cnt a x.1 * m) = _
  rw [cnt_at_mem h hx]
  simp [cnt]

theorem meet_eq {a b : List Itm} (ha : uniqI a = true) (hb : uniqI b = true) :
    posI (addAll a (posI (addAll a b (-1))) (-1)) = posI (a.map fun x => (x.1, min x.2 (cnt b x.1))) := by
  have hd : uniqI (posI (addAll a b (-1))) = true := uniq_filter (uniq_addAll b (-1) a ha)
  have hcd : ∀ s, cnt (posI (addAll a b (-1))) s = if 0 < cnt a s - cnt b s then cnt a s - cnt b s else 0 := by
    intro s
    rw [addAll_mk ha hb, pos_mk, cnt_mk]
    simp only [List.mem_filter, List.mem_append, mem_keys, decide_eq_true_eq, Bool.not_eq_true']
    by_cases hp : 0 < cnt a s - cnt b s
    · rw [if_pos hp, if_pos]
      · omega
      · refine ⟨?_, by omega⟩
        cases h1 : hasI a s
        · cases h2 : hasI b s
          · rw [cnt_none h1, cnt_none h2] at hp
            omega
          · exact .inr ⟨rfl, rfl⟩
        · exact .inl rfl
    · rw [if_neg hp, if_neg]
      intro h
      omega
  rw [addAll_mk ha hd, pos_mk, List.filter_append, mk_append]
  have e2 : ((keysL (posI (addAll a b (-1)))).filter fun k => !hasI a k).filter (fun k => decide (0 < cnt a k + cnt (posI (addAll a b (-1))) k * -1)) = [] := by
    rw [List.filter_eq_nil_iff]
    intro k hk
    have h1 := (List.mem_filter.1 hk).2
    simp only [Bool.not_eq_true'] at h1
    rw [cnt_none h1, hcd k]
    simp only [decide_eq_true_eq]
    split <;> omega
  rw [e2]
  have e3 : (a.map fun x => (x.1, min x.2 (cnt b x.1))) = mkL (keysL a) (fun s => min (cnt a s) (cnt b s)) := by
    unfold mkL keysL
    rw [List.map_map]
    refine List.map_congr_left fun x hx => ?_
    show _ = (x.1, min (cnt a x.1) (cnt b x.1))
    rw [cnt_at_mem ha hx]
  rw [e3, pos_mk]
  have e4 : ∀ s, cnt a s + cnt (posI (addAll a b (-1))) s * -1 = min (cnt a s) (cnt b s) := by
    intro s
    rw [hcd]
    split <;> omega
  show mkL _ _ ++ [] = _
  rw [List.append_nil]
  simp only [e4]

theorem join_eq {a b : List Itm} (ha : uniqI a = true) (hb : uniqI b = true) :
    posI (addAll a (posI (addAll b a (-1))) 1) = posI ((a ++ restI b a).map fun x => (x.1, max (cnt a x.1) (cnt b x.1))) := by
  have hd : uniqI (posI (addAll b a (-1))) = true := uniq_filter (uniq_addAll a (-1) b hb)
  have hcd : ∀ s, cnt (posI (addAll b a (-1))) s = if 0 < cnt b s - cnt a s then cnt b s - cnt a s else 0 := by
    intro s
    rw [addAll_mk hb ha, pos_mk, cnt_mk]
    simp only [List.mem_filter, List.mem_append, mem_keys, decide_eq_true_eq, Bool.not_eq_true']
    by_cases hp : 0 < cnt b s - cnt a s
    · rw [if_pos hp, if_pos]
      · omega
      · refine ⟨?_, by omega⟩
        cases h1 : hasI b s
        · cases h2 : hasI a s
          · rw [cnt_none h1, cnt_none h2] at hp
            omega
          · exact .inr ⟨rfl, rfl⟩
        · exact .inl rfl
    · rw [if_neg hp, if_neg]
      intro h
      omega
  have e4 : ∀ s, cnt a s + cnt (posI (addAll b a (-1))) s * 1 = max (cnt a s) (cnt b s) := by
    intro s
    rw [hcd]
    split <;> omega
  rw [addAll_mk ha hd, pos_mk]
  simp only [e4]
  have e3 : ((a ++ restI b a).map fun x => (x.1, max (cnt a x.1) (cnt b x.1))) = mkL (keysL a ++ (keysL b).filter fun k => !hasI a k) (fun s => max (cnt a s) (cnt b s)) := by
    unfold mkL keysL restI
    rw [List.map_append, List.map_append, List.map_map, List.filter_map, List.map_map]
    rfl
  rw [e3, pos_mk]
  congr 1
  rw [List.filter_append, List.filter_append]
  congr 1
  rw [addAll_mk hb ha, pos_mk, keys_mk, List.filter_append, List.filter_append, List.filter_append]
  have e5 : (((((keysL a).filter fun k => !hasI b k)).filter fun k => decide (0 < cnt b k + cnt a k * -1)).filter fun k => !hasI a k) = [] := by
    rw [List.filter_eq_nil_iff]
    intro k hk
    have h1 := (List.mem_filter.1 (List.mem_filter.1 hk).1).1
    rw [mem_keys] at h1
    simp [h1]
  rw [e5, List.filter_nil, List.append_nil]
  simp only [List.filter_filter]
  refine List.filter_congr fun k _ => ?_
  cases h1 : hasI a k
  · rw [cnt_none h1]
    simp only [Bool.not_false, Bool.true_and, Bool.and_true]
    rw [Bool.eq_iff_iff]
    simp only [Bool.and_eq_true, decide_eq_true_eq]
    omega
  · simp

def withinI (a b : List Itm) : Bool := a.all (fun x => decide (x.2 ≤ cnt b x.1)) && b.all (fun x => decide (cnt a x.1 ≤ x.2))
theorem within_iff {a b : List Itm} (ha : uniqI a = true) (hb : uniqI b = true) : withinI a b = true ↔ ∀ s, cnt a s ≤ cnt b s := by
  simp only [withinI, Bool.and_eq_true, List.all_eq_true, decide_eq_true_eq]
  constructor
  · rintro ⟨h1, h2⟩ s
    cases hs : hasI a s
    · cases hs' : hasI b s
      · rw [cnt_none hs, cnt_none hs']
        exact Int.le_refl _
      · obtain ⟨x, hx, rfl⟩ := hasI_mem.1 hs'
        have := h2 x hx
        rw [cnt_at_mem hb hx]
        exact this
    · obtain ⟨x, hx, rfl⟩ := hasI_mem.1 hs
      have := h1 x hx
      rw [cnt_at_mem ha hx]
      exact this
  · intro h
    exact ⟨fun x hx => by have := h x.1; rw [cnt_at_mem ha hx] at this; exact this, fun x hx => by have := h x.1; rw [cnt_at_mem hb hx] at this; exact this⟩
theorem within_eq {a b : List Itm} (ha : uniqI a = true) (hb : uniqI b = true) : decide ((posI (addAll a b (-1))).length = 0) = withinI a b := by
  rw [Bool.eq_iff_iff, within_iff ha hb, decide_eq_true_eq, List.length_eq_zero_iff, addAll_mk ha hb, pos_mk]
  unfold mkL
  rw [List.map_eq_nil_iff, List.filter_eq_nil_iff]
  simp only [List.mem_append, List.mem_filter, mem_keys, decide_eq_true_eq, Bool.not_eq_true']
  constructor
  · intro h s
    cases hs : hasI a s
    · cases hs' : hasI b s
      · rw [cnt_none hs, cnt_none hs']
        exact Int.le_refl _
      · have := h s (.inr ⟨hs', hs⟩)
        omega
    · have := h s (.inl hs)
      omega
  · intro h s _
    have := h s
    omega
theorem same_eq {a b : List Itm} (ha : uniqI a = true) (hb : uniqI b = true) : decide ((nzI (addAll a b (-1))).length = 0) = (withinI a b && withinI b a) := by
  rw [Bool.eq_iff_iff, Bool.and_eq_true, within_iff ha hb, within_iff hb ha, decide_eq_true_eq, List.length_eq_zero_iff, addAll_mk ha hb, nz_mk]
  unfold mkL
  rw [List.map_eq_nil_iff, List.filter_eq_nil_iff]
  simp only [List.mem_append, List.mem_filter, mem_keys, decide_eq_true_eq, Bool.not_eq_true', ne_eq, Decidable.not_not]
  constructor
  · intro h
    have h' : ∀ s, cnt a s = cnt b s := by
      intro s
      cases hs : hasI a s
      · cases hs' : hasI b s
        · rw [cnt_none hs, cnt_none hs']
        · have := h s (.inr ⟨hs', hs⟩)
          omega
      · have := h s (.inl hs)
        omega
    exact ⟨fun s => by rw [h' s]; exact Int.le_refl _, fun s => by rw [h' s]; exact Int.le_refl _⟩
  · rintro ⟨h1, h2⟩ s _
    have h1 := h1 s
    have h2 := h2 s
    omega
end Go.Proofs.Ytloalakpkjbeaaa
