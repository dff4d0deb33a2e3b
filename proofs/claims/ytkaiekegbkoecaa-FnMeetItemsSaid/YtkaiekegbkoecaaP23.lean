/-
  CalK.
-/
import Derived.Test.YtkaiekegbkoecaaP10
import Derived.Test.YtkaiekegbkoecaaP12
import Derived.Test.YtkaiekegbkoecaaP22
/-
  Items laid over others, and keys that two lists have, reckoned.
-/
namespace Go.Proofs.Ytkaiekegbkoecaa

/-! ### items laid over others -/
theorem cnt_over (b : List Itm) : ∀ t : List Itm, uniqI b = true → ∀ s, cnt (overI t b) s = if hasI b s = true then cnt b s else cnt t s := by
  induction b with
  | nil => intro t _ s; rfl
  | cons x r ih =>
    intro t h s
    simp only [uniqI, Bool.and_eq_true, Bool.not_eq_true'] at h
    have e : overI t (x :: r) = overI (putI t x.1 x.2) r := rfl
    rw [e, ih _ h.2]
    by_cases hs : s = x.1
    · subst hs
      rw [h.1, if_neg (by simp), cnt_putI_same]
      simp [cnt, hasI]
    · have hs' : ¬ x.1 = s := fun e => hs e.symm
      rw [cnt_putI_other _ _ _ _ hs]
      simp [cnt, hasI, hs']
theorem has_over (b : List Itm) : ∀ (t : List Itm) (s : ByteArray), hasI (overI t b) s = (hasI t s || hasI b s) := by
  induction b with
  | nil => intro t s; simp [overI, hasI]
  | cons x r ih =>
    intro t s
    have e : overI t (x :: r) = overI (putI t x.1 x.2) r := rfl
    rw [e, ih, hasI_putI]
    simp only [hasI]
    cases decide (x.1 = s) <;> cases hasI t s <;> simp
theorem uniq_over (b : List Itm) : ∀ t : List Itm, uniqI t = true → uniqI (overI t b) = true := by
  induction b with
  | nil => intro t h; exact h
  | cons x r ih => intro t h; exact ih _ (uniqI_putI _ _ h)
theorem keys_over (b : List Itm) : ∀ t : List Itm, uniqI b = true → keysL (overI t b) = keysL t ++ (keysL b).filter fun k => !hasI t k := by
  induction b with
  | nil => intro t _; simp [overI, keysL]
  | cons x r ih =>
    intro t h
    simp only [uniqI, Bool.and_eq_true, Bool.not_eq_true'] at h
    have e : overI t (x :: r) = overI (putI t x.1 x.2) r := rfl
    rw [e, ih _ h.2]
    have hk : keysL (x :: r) = x.1 :: keysL r := rfl
    rw [hk]
    cases hh : hasI t x.1
    · rw [putI_new hh]
      simp only [List.filter_cons, hh, Bool.not_false, if_true]
      have e2 : keysL (t ++ [(x.1, x.2)]) = keysL t ++ [x.1] := by simp [keysL]
      rw [e2, List.append_assoc]
      congr 1
      rw [List.singleton_append]
      congr 1
      refine List.filter_congr fun k hk => ?_
      rw [hasI_append]
      have : hasI [(x.1, x.2)] k = false := by
        simp only [hasI, Bool.or_false, decide_eq_false_iff_not]
        intro e
        have := mem_keys.1 hk
        rw [← e, h.1] at this
        cases this
      rw [this, Bool.or_false]
    · have e2 : keysL (putI t x.1 x.2) = keysL t := putI_keys hh
      rw [e2]
      simp only [List.filter_cons, hh, Bool.not_true]
      congr 1
      refine List.filter_congr fun k _ => ?_
      rw [hasI_putI]
      by_cases e : x.1 = k
      · subst e; simp [hh]
      · simp [e]
theorem list_ext {l m : List Itm} (ul : uniqI l = true) (um : uniqI m = true) (hk : keysL l = keysL m) (hc : ∀ s, cnt l s = cnt m s) : l = m := by
  rw [uniq_mk_cnt ul, uniq_mk_cnt um, hk]
  exact mk_congr fun k _ => hc k
theorem over_assoc {a b c : List Itm} (ha : uniqI a = true) (hb : uniqI b = true) (hc : uniqI c = true) : overI (overI a b) c = overI a (overI b c) := by
  have hbc := uniq_over c b hb
  refine list_ext (uniq_over _ _ (uniq_over _ _ ha)) (uniq_over _ _ ha) ?_ fun s => ?_
  · rw [keys_over c _ hc, keys_over b a hb, keys_over _ a hbc, keys_over c b hc, List.filter_append, List.append_assoc]
    congr 2
    rw [List.filter_filter]
    refine List.filter_congr fun k _ => ?_
    rw [has_over]
    cases hasI a k <;> cases hasI b k <;> rfl
  · rw [cnt_over c _ hc, cnt_over b _ hb, cnt_over _ a hbc, cnt_over c b hc, has_over]
    cases hasI b s <;> cases hasI c s <;> simp
theorem over_self {a : List Itm} (ha : uniqI a = true) : overI a a = a := by
  refine list_ext (uniq_over _ _ ha) ha ?_ fun s => ?_
  · rw [keys_over a a ha]
    have e1 : (keysL a).filter (fun k => !hasI a k) = [] := by
      rw [List.filter_eq_nil_iff]
      intro k hk
      rw [mem_keys] at hk
      simp [hk]
    rw [e1, List.append_nil]
  · rw [cnt_over a a ha]
    split <;> rfl
theorem over_parts {a b : List Itm} (h : okO a b = true) : validI a = true ∧ validI b = true ∧ validI (overI a b) = true ∧ overL a b = overI a b := by
  have h0 := h
  unfold okO okB at h
  rw [Bool.and_eq_true, Bool.and_eq_true] at h
  exact ⟨h.1.1, h.1.2, h.2, by unfold overL; rw [if_pos h0]⟩
theorem over_of {a b : List Itm} (ha : validI a = true) (hb : validI b = true) (h : validI (overI a b) = true) : okO a b = true ∧ overL a b = overI a b := by
  have e : okO a b = true := by unfold okO okB; rw [ha, hb, h]; rfl
  exact ⟨e, by unfold overL; rw [if_pos e]⟩
/-! ### keys of two lists -/
theorem mem_kys {l : List Itm} {s : ByteArray} : s ∈ kysI l ↔ hasI l s = true := mem_keys
theorem has_filter {l : List Itm} {q : ByteArray → Bool} {s : ByteArray} : hasI (l.filter fun x => q x.1) s = true ↔ hasI l s = true ∧ q s = true := by
  constructor
  · intro h
    obtain ⟨x, hx, rfl⟩ := hasI_mem.1 h
    have := List.mem_filter.1 hx
    exact ⟨hasI_mem.2 ⟨x, this.1, rfl⟩, this.2⟩
  · rintro ⟨h, hq⟩
    obtain ⟨x, hx, rfl⟩ := hasI_mem.1 h
    exact hasI_mem.2 ⟨x, List.mem_filter.2 ⟨hx, hq⟩, rfl⟩
theorem mem_shr {a b : List Itm} {s : ByteArray} : s ∈ kysI (shrI a b) ↔ hasI a s = true ∧ hasI b s = true := by
  rw [mem_kys]
  unfold shrI
  exact has_filter (q := fun k => hasI b k)
theorem mem_rst {a b : List Itm} {s : ByteArray} : s ∈ kysI (restI a b) ↔ hasI a s = true ∧ hasI b s = false := by
  rw [mem_kys]
  unfold restI
  rw [has_filter (q := fun k => !hasI b k), Bool.not_eq_true']
theorem nodup_kys {l : List Itm} (h : uniqI l = true) : (kysI l).Nodup := uniq_nodup.1 h
theorem nodup_shr {a b : List Itm} (h : uniqI a = true) : (kysI (shrI a b)).Nodup := nodup_kys (uniq_filter h)
theorem nodup_rst {a b : List Itm} (h : uniqI a = true) : (kysI (restI a b)).Nodup := nodup_kys (uniq_filter h)
theorem mk_of {a b : List Itm} (ha : validI a = true) (hb : validI b = true) : mkyL a b = kysI (shrI a b) := by unfold mkyL; rw [if_pos (okAB_iff.2 ⟨ha, hb⟩)]
theorem lk_of {a b : List Itm} (ha : validI a = true) (hb : validI b = true) : lkL a b = kysI (restI a b) := by unfold lkL; rw [if_pos (okAB_iff.2 ⟨ha, hb⟩)]
theorem jk_of {a b : List Itm} (ha : validI a = true) (hb : validI b = true) : jkL a b = kysI a ++ kysI (restI b a) := by unfold jkL; rw [if_pos (okAB_iff.2 ⟨ha, hb⟩)]
theorem ok_of {a b : List Itm} (ha : validI a = true) (hb : validI b = true) : okL a b = kysI (restI a b) ++ kysI (restI b a) := by unfold okL; rw [if_pos (okAB_iff.2 ⟨ha, hb⟩)]
theorem shr_len {a b : List Itm} (ha : uniqI a = true) (hb : uniqI b = true) : (kysI (shrI a b)).length = (kysI (shrI b a)).length := by
  refine ((List.perm_ext_iff_of_nodup (nodup_shr ha) (nodup_shr hb)).2 fun s => ?_).length_eq
  rw [mem_shr, mem_shr]
  exact And.comm
theorem part_len (a b : List Itm) : (kysI (restI a b)).length + (kysI (shrI a b)).length = a.length := by
  rw [kys_len, kys_len]
  unfold restI shrI
  induction a with
  | nil => rfl
  | cons x r ih =>
    rw [List.filter_cons, List.filter_cons]
    cases hasI b x.1 <;> simp <;> omega
theorem meet_keys {a b : List Itm} (ha : validI a = true) (hb : validI b = true) :
    (∀ s ∈ mkyL a b, (∃ p : Nat, plcN a s = (p : Int)) ∧ (∃ q : Nat, plcN b s = (q : Int)) ∧ memT (mkyL b a) s = true) ∧ (mkyL a b).Nodup ∧ (mkyL b a).length = (mkyL a b).length ∧ apB a b = decide ((mkyL a b).length = 0) := by
  rw [mk_of ha hb, mk_of hb ha]
  refine ⟨fun s hs => ?_, nodup_shr (valid_uniq ha), shr_len (valid_uniq hb) (valid_uniq ha), ?_⟩
  · have h := mem_shr.1 hs
    obtain ⟨p, _, e1, _⟩ := plc_yes ha h.1
    obtain ⟨q, _, e2, _⟩ := plc_yes hb h.2
    exact ⟨⟨p, e1⟩, ⟨q, e2⟩, memT_iff.2 (mem_shr.2 ⟨h.2, h.1⟩)⟩
  · unfold apB
    rw [okAB_iff.2 ⟨ha, hb⟩, Bool.true_and, kys_len]
theorem less_keys {a b : List Itm} (ha : validI a = true) (hb : validI b = true) :
    (∀ x ∈ a, memT (lkL a b) x.1 = !memT (mkyL a b) x.1) ∧ (lkL a b).length + (mkyL a b).length = a.length := by
  rw [mk_of ha hb, lk_of ha hb]
  refine ⟨fun x hx => ?_, part_len a b⟩
  have h := hasI_mem.2 ⟨x, hx, rfl⟩
  rw [Bool.eq_iff_iff, Bool.not_eq_true', memT_iff, memT_no, mem_rst, mem_shr, h]
  simp
theorem odd_keys {a b : List Itm} (ha : validI a = true) (hb : validI b = true) :
    (∀ s ∈ jkL a b, memT (okL a b) s = !memT (mkyL a b) s) ∧ (okL a b).length + (mkyL a b).length = (jkL a b).length ∧ (okL a b).Nodup := by
  rw [mk_of ha hb, ok_of ha hb, jk_of ha hb]
  refine ⟨fun s hs => ?_, ?_, ?_⟩
  · rw [Bool.eq_iff_iff, Bool.not_eq_true', memT_iff, memT_no, List.mem_append, mem_rst, mem_rst, mem_shr]
    rw [List.mem_append, mem_kys, mem_rst] at hs
    cases h1 : hasI a s <;> cases h2 : hasI b s <;> simp [h1, h2] at hs ⊢
  · rw [List.length_append, List.length_append]
    have := part_len a b
    have e : (kysI a).length = a.length := kys_len a
    omega
  · rw [List.nodup_append]
    refine ⟨nodup_rst (valid_uniq ha), nodup_rst (valid_uniq hb), fun x hx y hy e => ?_⟩
    subst e
    have h1 := mem_rst.1 hx
    have h2 := mem_rst.1 hy
    rw [h1.1] at h2
    cases h2.2
theorem join_keys {a b : List Itm} (ha : validI a = true) (hb : validI b = true) :
    (jkL a b).take a.length = keysL a ∧ (jkL a b).drop a.length = lkL b a ∧ (jkL a b).Nodup ∧ a.length ≤ (jkL a b).length := by
  rw [lk_of hb ha, jk_of ha hb]
  have e : (kysI a).length = a.length := kys_len a
  refine ⟨?_, ?_, ?_, by rw [List.length_append]; omega⟩
  · rw [← e, List.take_left]; rfl
  · rw [← e, List.drop_left]
  · rw [List.nodup_append]
    refine ⟨nodup_kys (valid_uniq ha), nodup_rst (valid_uniq hb), fun x hx y hy e => ?_⟩
    subst e
    have h1 := mem_kys.1 hx
    have h2 := mem_rst.1 hy
    rw [h1] at h2
    cases h2.2
theorem apart_keys {a b : List Itm} (ha : validI a = true) (hb : validI b = true) :
    apB b a = apB a b ∧ okO a b = okO b a ∧ (apB a b = true → okO a b = true → smB (overL a b) (overL b a) = true ∧ (overL a b).length = a.length + b.length) := by
  have hu := valid_uniq ha
  have hw := valid_uniq hb
  have e1 : apB b a = apB a b := by
    unfold apB
    rw [okAB_iff.2 ⟨ha, hb⟩, okAB_iff.2 ⟨hb, ha⟩, Bool.true_and, Bool.true_and]
    have := shr_len hu hw
    rw [kys_len, kys_len] at this
    rw [this]
  have hasc : ∀ s, hasI (overI b a) s = hasI (overI a b) s := fun s => by rw [has_over, has_over, Bool.or_comm]
  have hlen : (overI a b).length = (overI b a).length := by
    have h1 : (keysL (overI a b)).length = (keysL (overI b a)).length := by
      refine ((List.perm_ext_iff_of_nodup (uniq_nodup.1 (uniq_over b a hu)) (uniq_nodup.1 (uniq_over a b hw))).2 fun s => ?_).length_eq
      rw [mem_keys, mem_keys, hasc]
    rwa [kyl_len, kyl_len] at h1
  have hval : ∀ {c d : List Itm}, validI c = true → validI d = true → (∀ s, hasI (overI d c) s = hasI (overI c d) s) → (overI c d).length = (overI d c).length → validI (overI c d) = true → validI (overI d c) = true := by
    intro c d hc hd hs hl hv
    have h1 := (validI_iff _).1 hv
    have hu2 := uniq_over c d (valid_uniq hd)
    refine (validI_iff _).2 ⟨fun x hx => ⟨?_, ?_⟩, hu2, by omega⟩
    · have hx2 := hs x.1
      rw [hasI_mem.2 ⟨x, hx, rfl⟩] at hx2
      obtain ⟨y, hy, e⟩ := hasI_mem.1 hx2.symm
      rw [← e]
      exact (h1.1 y hy).1
    · have hx2 := cnt_at_mem hu2 hx
      rw [cnt_over c d (valid_uniq hc)] at hx2
      rw [← hx2]
      split
      · exact numB_iff.2 (cnt_valid hc x.1)
      · exact numB_iff.2 (cnt_valid hd x.1)
  refine ⟨e1, ?_, fun hap hok => ?_⟩
  · rw [Bool.eq_iff_iff]
    constructor
    · intro h
      obtain ⟨_, _, hv, _⟩ := over_parts h
      exact (over_of hb ha (hval ha hb hasc hlen hv)).1
    · intro h
      obtain ⟨_, _, hv, _⟩ := over_parts h
      exact (over_of ha hb (hval hb ha (fun s => (hasc s).symm) hlen.symm hv)).1
  · obtain ⟨_, _, hv, el⟩ := over_parts hok
    have hv2 := hval ha hb hasc hlen hv
    have er := (over_of hb ha hv2).2
    rw [el, er]
    have hap2 : ∀ s, ¬ (hasI a s = true ∧ hasI b s = true) := by
      intro s hs
      unfold apB at hap
      rw [okAB_iff.2 ⟨ha, hb⟩, Bool.true_and, decide_eq_true_eq] at hap
      have h1 := mem_shr.2 hs
      have h2 : (kysI (shrI a b)).length = 0 := by rw [kys_len]; exact hap
      rw [List.eq_nil_of_length_eq_zero h2] at h1
      cases h1
    refine ⟨(sm_perm hv hv2).2 ((List.perm_ext_iff_of_nodup (nodup_items (valid_uniq hv)) (nodup_items (valid_uniq hv2))).2 fun x => ?_), ?_⟩
    · rw [mem_of_cnt (valid_uniq hv), mem_of_cnt (valid_uniq hv2), hasc, cnt_over b a hw, cnt_over a b hu]
      have h1 := hap2 x.1
      cases h2 : hasI a x.1 <;> cases h3 : hasI b x.1 <;> simp [h2, h3] at h1 ⊢
      · rw [cnt_none h2, cnt_none h3]
        simp
    · have h1 := congrArg List.length (keys_over b a hw)
      rw [kyl_len, List.length_append, kyl_len] at h1
      rw [h1]
      congr 1
      rw [List.filter_eq_self.2, kyl_len]
      intro k hk
      have := hap2 k
      rw [mem_keys.1 hk] at this
      cases h4 : hasI a k
      · rfl
      · exact absurd ⟨h4, rfl⟩ this
end Go.Proofs.Ytkaiekegbkoecaa
