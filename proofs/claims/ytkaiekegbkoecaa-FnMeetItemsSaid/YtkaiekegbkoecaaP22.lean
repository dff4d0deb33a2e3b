/-
  Sit, CalS.
-/
import Derived.Test.YtkaiekegbkoecaaP10
import Derived.Test.YtkaiekegbkoecaaP13
import Derived.Test.YtkaiekegbkoecaaP19
import Derived.Test.YtkaiekegbkoecaaP21
/-
  SameItems, by the program and by the model.
-/
namespace Go.Proofs.Ytkaiekegbkoecaa
open Go.RowKit

def subI (a b : List Itm) : Bool := a.all fun x => memI x b
def smB (a b : List Itm) : Bool := okAB a b && (decide (a.length = b.length) && subI a b)
theorem memI_iff {x : Itm} {l : List Itm} : memI x l = true ↔ x ∈ l := by
  unfold memI
  rw [List.any_eq_true]
  constructor
  · rintro ⟨y, hy, he⟩
    rw [of_decide_eq_true he]
    exact hy
  · exact fun h => ⟨x, h, decide_eq_true rfl⟩
theorem perm_of_sub : ∀ (a b : List Itm), a.Pairwise (fun x y => x.1 ≠ y.1) → (∀ x ∈ a, x ∈ b) → b.length = a.length → a.Perm b
  | [], b, _, _, hl => by rw [List.eq_nil_of_length_eq_zero hl]
  | x :: r, b, hp, hs, hl => by
    obtain ⟨s, t, rfl⟩ := List.append_of_mem (hs x (by simp))
    rw [List.pairwise_cons] at hp
    refine List.Perm.trans ?_ List.perm_middle.symm
    refine (perm_of_sub r (s ++ t) hp.2 (fun y hy => ?_) (by simp at hl ⊢; omega)).cons x
    have h1 := hs y (by simp [hy])
    have hne : ¬ y = x := fun e => hp.1 y hy (by rw [e])
    simp only [List.mem_append, List.mem_cons] at h1 ⊢
    rcases h1 with h1 | h1 | h1
    · exact .inl h1
    · exact absurd h1 hne
    · exact .inr h1
theorem sorted_L (l : List Itm) : (sortD geL l).Pairwise (fun a b => geL a b = true) := by
  refine (sort_same (lt := ltK) (ge := geL) (fun x y => rfl) (fun a b c h1 h2 => ?_) (fun a b => ?_) l).2
  · unfold geL ltK at *
    simp only [Bool.not_eq_true'] at *
    rw [← Bool.not_eq_true]
    intro h3
    cases h4 : keyLt b.1 c.1
    · have := key_total h4 h2
      rw [← this] at h3
      rw [h3] at h1
      cases h1
    · have := key_trans h4 h3
      rw [this] at h1
      cases h1
  · unfold geL ltK
    simp only [Bool.not_eq_true']
    cases h : keyLt b.1 a.1
    · exact .inl rfl
    · exact .inr (key_asymm h)
theorem same_sorted {a b : List Itm} (ha : uniqI a = true) (hb : uniqI b = true) : decide (skL a = skL b) = (decide (a.length = b.length) && subI a b) ∨ validI a = false ∨ validI b = false := by
  cases hva : validI a
  · exact .inr (.inl rfl)
  cases hvb : validI b
  · exact .inr (.inr rfl)
  refine .inl ?_
  have e1 : skL a = sortD geL a := by unfold skL; rw [if_pos hva, sort_keys ha, sortD_keys ha]
  have e2 : skL b = sortD geL b := by unfold skL; rw [if_pos hvb, sort_keys hb, sortD_keys hb]
  rw [e1, e2, Bool.eq_iff_iff, decide_eq_true_eq, Bool.and_eq_true, decide_eq_true_eq]
  have pa : (sortD geL a).Perm a := sortD_perm a
  have pb : (sortD geL b).Perm b := sortD_perm b
  constructor
  · intro h
    have hp : a.Perm b := pa.symm.trans (h ▸ pb)
    refine ⟨hp.length_eq, ?_⟩
    unfold subI
    rw [List.all_eq_true]
    exact fun x hx => memI_iff.2 (hp.mem_iff.1 hx)
  · rintro ⟨hl, hs⟩
    unfold subI at hs
    rw [List.all_eq_true] at hs
    have hp := perm_of_sub a b (uniq_pair ha) (fun x hx => memI_iff.1 (hs x hx)) hl.symm
    refine List.Perm.eq_of_pairwise (le := fun x y => geL x y = true) (fun x y hx hy h1 h2 => ?_) (sorted_L a) (sorted_L b) (pa.trans (hp.trans pb.symm))
    have hxa : x ∈ b := hp.mem_iff.1 (pa.mem_iff.1 hx)
    have hyb : y ∈ b := pb.mem_iff.1 hy
    unfold geL ltK at h1 h2
    simp only [Bool.not_eq_true'] at h1 h2
    have hk : x.1 = y.1 := key_total h2 h1
    have c1 := cnt_in hb x hxa
    have c2 := cnt_in hb y hyb
    rw [hk] at c1
    exact Prod.ext hk (by omega)
theorem sm_yes {a b : List Itm} (h : okAB a b = true) : smB a b = decide (skL a = skL b) := by
  have h1 := okAB_iff.1 h
  unfold smB
  rw [h, Bool.true_and]
  rcases same_sorted (valid_uniq h1.1) (valid_uniq h1.2) with h2 | h2 | h2
  · exact h2.symm
  · rw [h1.1] at h2; cases h2
  · rw [h1.2] at h2; cases h2

set_option maxHeartbeats 400000 in
theorem SameItems_any (va vb : Value) (a b : List Itm) (w : World) (ha : Items w va a) (hb : Items w vb b) :
    Calls Try.prog 40 #[va, vb] w (RetQ (.bool (smB a b)) w) := by
  go_enter Try.func40, Try.ntmps40
  cases hv : okAB a b
  all_goals
    have HV := Lib.hid hv
    clear hv
    go_wp2_with fail
    refine (bothValid_v _ ha hb HV.out).mono ?_
    rintro e w1 ⟨rfl, hb1⟩
  · go_wp2
    go_ret
    exact ⟨ret_b (by unfold smB; rw [HV.out]; rfl), hb1⟩
  · have HS := Lib.hid (sm_yes HV.out)
    go_wp2_with fail
    refine (SortKeys_any va a w1 (ha.mono hb1 (Nat.le_refl _))).mono ?_
    rintro e w2 ⟨v2, rfl, ho2, hb2⟩
    have hb12 := hb1.trans (hb2.mono hb1.size)
    go_wp2_with fail
    refine (SortKeys_any vb b w2 (hb.mono hb12 (Nat.le_refl _))).mono ?_
    rintro e w3 ⟨v3, rfl, ho3, hb3⟩
    go_wp2_with fail
    refine (slEqual_any v2 v3 _ _ w3 (ho2.items.mono hb3 (Nat.le_refl _)) ho3.items).mono ?_
    rintro e w4 ⟨rfl, hb4⟩
    have hb13 := hb12.trans (hb3.mono hb12.size)
    have hb14 := hb13.trans (hb4.mono hb13.size)
    go_wp2
    go_ret
    exact ⟨ret_b (by rw [HS.out]), hb14⟩

theorem sub_take {a b : List Itm} {k : Nat} (h : k < a.length) : subI (a.take (k + 1)) b = (subI (a.take k) b && memI a[k] b) := by
  unfold subI
  rw [List.take_succ_eq_append_getElem h, List.all_append]
  simp
theorem sub_no {a b : List Itm} {k : Nat} (h : k < a.length) (hm : memI a[k] b = false) : subI a b = false := by
  rw [← Bool.not_eq_true]
  intro hs
  unfold subI at hs
  rw [List.all_eq_true] at hs
  have := hs a[k] (List.getElem_mem h)
  rw [hm] at this
  cases this
theorem item_neqD (a b : ByteArray) (m n : Int) (w : World) :
    (binOp .neq 43 (.agg #[.string a, .int .i64 m]) (.agg #[.string b, .int .i64 n])).run Try.prog w = .ok (.bool (!decide (((a, m) : Itm) = (b, n)))) w := by
  rw [item_neq, eqI_parts]

end Go.Proofs.Ytkaiekegbkoecaa
/-
  The same items in whatever order, reckoned.
-/
namespace Go.Proofs.Ytkaiekegbkoecaa

theorem sk_perm {l : List Itm} (h : validI l = true) : (skL l).Perm l := by
  rw [← sk_same]
  unfold skD
  rw [if_pos h]
  exact sortD_perm l
theorem sm_perm {a b : List Itm} (ha : validI a = true) (hb : validI b = true) : smB a b = true ↔ a.Perm b := by
  have hab := okAB_iff.2 ⟨ha, hb⟩
  constructor
  · intro h
    rw [sm_yes hab, decide_eq_true_eq] at h
    have h1 := sk_perm ha
    rw [h] at h1
    exact h1.symm.trans (sk_perm hb)
  · intro h
    unfold smB
    rw [hab, Bool.true_and, Bool.and_eq_true, decide_eq_true_eq]
    refine ⟨h.length_eq, ?_⟩
    unfold subI
    rw [List.all_eq_true]
    exact fun x hx => memI_iff.2 (h.mem_iff.1 hx)
theorem sm_of {a b : List Itm} (ha : validI a = true) (h : a.Perm b) : smB a b = true :=
  (sm_perm ha (by rw [← valid_perm h]; exact ha)).2 h
end Go.Proofs.Ytkaiekegbkoecaa
