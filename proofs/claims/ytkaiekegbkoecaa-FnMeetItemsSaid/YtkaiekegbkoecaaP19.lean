/-
  SrtS, SrtK.
-/
import Derived.Test.YtkaiekegbkoecaaP13
import Derived.Test.YtkaiekegbkoecaaP18
/-
  Sorts by the model: each item put behind those that go ahead of it.
-/
namespace Go.Proofs.Ytkaiekegbkoecaa
open Go.RowKit

def geN (y x : Itm) : Bool := decide (x.2 ≤ y.2)
def geK (y x : Itm) : Bool := keyLt y.1 x.1
theorem insD_go {ge : Itm → Itm → Bool} {y x : Itm} {q : List Itm} (h : ge y x = true) : insD ge (y :: q) x = y :: insD ge q x := by
  unfold insD
  simp [h]
theorem insD_stop {ge : Itm → Itm → Bool} {y x : Itm} {q : List Itm} (h : ge y x = false) : insD ge (y :: q) x = x :: y :: q := by
  unfold insD
  simp [h]
theorem sortD_take {ge : Itm → Itm → Bool} {l : List Itm} {k : Nat} (h : k < l.length) : sortD ge (l.take (k + 1)) = insD ge (sortD ge (l.take k)) l[k] := by
  unfold sortD
  rw [List.take_succ_eq_append_getElem h, List.foldl_append]
  rfl

end Go.Proofs.Ytkaiekegbkoecaa
/-
  SortKeys by the model.
-/
namespace Go.Proofs.Ytkaiekegbkoecaa
open Go.RowKit

def skD (l : List Itm) : List Itm := if validI l = true then sortD geK l else []

/-! ### both ways are one -/
theorem sort_numbers (l : List Itm) : sortR ltN l = sortD geN l := by
  refine (sort_same (lt := ltN) (ge := geN) (fun x y => ?_) (fun a b c h1 h2 => ?_) (fun a b => ?_) l).1
  · unfold geN ltN
    by_cases h : y.2 < x.2
    · rw [decide_eq_true h, decide_eq_false (by omega)]; rfl
    · rw [decide_eq_false h, decide_eq_true (by omega)]; rfl
  · unfold geN at *
    simp only [decide_eq_true_eq] at *
    omega
  · unfold geN
    simp only [decide_eq_true_eq]
    omega
def geL (y x : Itm) : Bool := !ltK x y
theorem uniq_pair {l : List Itm} (h : uniqI l = true) : l.Pairwise fun a b => a.1 ≠ b.1 := by
  induction l with
  | nil => exact List.Pairwise.nil
  | cons x r ih =>
    simp only [uniqI, Bool.and_eq_true, Bool.not_eq_true'] at h
    refine List.pairwise_cons.2 ⟨fun y hy e => ?_, ih h.2⟩
    have : hasI r x.1 = true := hasI_mem.2 ⟨y, hy, e.symm⟩
    rw [h.1] at this
    cases this
theorem insD_congr {ge ge' : Itm → Itm → Bool} {p : List Itm} {x : Itm} (h : ∀ y ∈ p, ge y x = ge' y x) : insD ge p x = insD ge' p x := by
  induction p with
  | nil => rfl
  | cons y p ih =>
    have h1 := h y (by simp)
    have h2 := ih fun z hz => h z (by simp [hz])
    cases hy : ge y x
    · rw [insD_stop hy, insD_stop (h1 ▸ hy)]
    · rw [insD_go hy, insD_go (h1 ▸ hy), h2]
theorem sortD_keys {l : List Itm} (hu : uniqI l = true) : sortD geK l = sortD geL l := by
  have hp := uniq_pair hu
  have : ∀ k, k ≤ l.length → sortD geK (l.take k) = sortD geL (l.take k) := by
    intro k
    induction k with
    | zero => intro _; simp; rfl
    | succ k ih =>
      intro hk
      rw [sortD_take (by omega), sortD_take (by omega), ih (by omega)]
      refine insD_congr fun y hy => ?_
      have hy' : y ∈ l.take k := (sortD_perm _).mem_iff.1 hy
      obtain ⟨j, hj, rfl⟩ := List.getElem_of_mem hy'
      rw [List.getElem_take]
      have hj' : j < k := by simp at hj; omega
      have hne := List.pairwise_iff_getElem.1 hp j k (by omega) (by omega) hj'
      unfold geK geL ltK
      cases h1 : keyLt (l[k]).1 (l[j]).1
      · cases h2 : keyLt (l[j]).1 (l[k]).1
        · exact absurd (key_total h2 h1) hne
        · rfl
      · rw [key_asymm h1]; rfl
  have := this l.length (Nat.le_refl _)
  rw [List.take_length] at this
  exact this
theorem sort_keys {l : List Itm} (hu : uniqI l = true) : sortR ltK l = sortD geK l := by
  rw [sortD_keys hu]
  refine (sort_same (lt := ltK) (ge := geL) (fun x y => rfl) (fun a b c h1 h2 => ?_) (fun a b => ?_) l).1
  · unfold geL ltK at *
    simp only [Bool.not_eq_true'] at *
    rw [← Bool.not_eq_true]
    intro h3
    cases h4 : keyLt b.1 c.1
    · have := key_total h4 h2
      rw [← this] at h3
      rw [h3] at h1
      cases h1
    · have := key_trans h4 h3
      rw [this] at h1
      cases h1
  · unfold geL ltK
    simp only [Bool.not_eq_true']
    cases h : keyLt b.1 a.1
    · exact .inl rfl
    · exact .inr (key_asymm h)
theorem sk_same (l : List Itm) : skD l = skL l := by
  unfold skD skL
  split
  · rename_i h
    rw [sort_keys (valid_uniq h)]
  · rfl

end Go.Proofs.Ytkaiekegbkoecaa
