/-
  Elements counted again.
-/
import Derived.Test.YtbiflkekhabpoaaCnt
import Derived.Test.YtbiflkekhabpoaaElem2
namespace Go.Proofs.Ytbiflkekhabpoaa
open Go.RowKit

theorem putI_twice (l : List Itm) (k : ByteArray) (a b : Int) : putI (putI l k a) k b = putI l k b := by
  induction l with
  | nil => simp [putI]
  | cons x r ih =>
    by_cases h : x.1 = k
    · simp [putI, h]
    · simp [putI, h, ih]
theorem addAll_append (t a b : List Itm) (m : Int) : addAll t (a ++ b) m = addAll (addAll t a m) b m := by simp [addAll, List.foldl_append]
theorem oneI_append (a b : List ByteArray) : oneI (a ++ b) = oneI a ++ oneI b := by simp [oneI]
theorem add_rep (k : ByteArray) : ∀ (n : Nat) (t : List Itm), addAll t (oneI (List.replicate (n + 1) k)) 1 = putI t k (cnt t k + (n + 1 : Nat)) := by
  intro n
  induction n with
  | zero => intro t; simp [addAll, oneI]
  | succ n ih =>
    intro t
    have e : addAll t (oneI (List.replicate (n + 1 + 1) k)) 1 = addAll (putI t k (cnt t k + 1 * 1)) (oneI (List.replicate (n + 1) k)) 1 := rfl
    rw [e, ih, putI_twice, cnt_putI_same]
    congr 1
    omega
theorem els_sum_again : ∀ (a t : List Itm), uniqI a = true → (∀ y ∈ a, hasI t y.1 = false) → addAll t (oneI (elsI a)) 1 = t ++ posI a
  | [], t, _, _ => by simp [elsI, oneI, addAll, posI]
  | x :: r, t, hu, ht => by
    simp only [uniqI, Bool.and_eq_true, Bool.not_eq_true'] at hu
    have e : elsI (x :: r) = List.replicate x.2.toNat x.1 ++ elsI r := rfl
    rw [e, oneI_append, addAll_append]
    unfold posI
    rw [List.filter_cons]
    by_cases h : 0 < x.2
    · obtain ⟨n, hn⟩ : ∃ n, x.2.toNat = n + 1 := ⟨x.2.toNat - 1, by omega⟩
      have hx := ht x (by simp)
      rw [hn, add_rep, putI_new hx, cnt_none hx, if_pos (by simpa using h)]
      have e2 : ((x.1, 0 + ((n + 1 : Nat) : Int)) : Itm) = x := Prod.ext rfl (by show 0 + ((n + 1 : Nat) : Int) = x.2; omega)
      rw [e2]
      have ih := els_sum_again r (t ++ [x]) hu.2 (fun y hy => by
        rw [hasI_append, ht y (by simp [hy]), Bool.false_or]
        simp only [hasI, Bool.or_false, decide_eq_false_iff_not]
        intro e
        have := hasI_mem.2 ⟨y, hy, e.symm⟩
        rw [hu.1] at this
        cases this)
      rw [ih]
      simp [posI]
    · have hz : x.2.toNat = 0 := by omega
      rw [hz, if_neg (by simpa using h)]
      exact els_sum_again r t hu.2 (fun y hy => ht y (by simp [hy]))
theorem els_again {a : List Itm} (h : validI a = true) : sumL [] (oneI (elsI a)) 1 = posI a := by
  have := els_sum_again a [] (valid_uniq h) (fun _ _ => rfl)
  exact this
theorem valid_pos {a : List Itm} (h : validI a = true) : validI (posI a) = true := by
  rw [validI_iff] at h ⊢
  refine ⟨fun x hx => h.1 x (List.mem_filter.1 hx).1, uniq_filter h.2.1, Nat.le_trans (List.length_filter_le _ _) h.2.2⟩
end Go.Proofs.Ytbiflkekhabpoaa
