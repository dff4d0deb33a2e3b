/-
  EqK.
-/
import Derived.Test.YtlclhdolcokipaaH11
import Derived.Test.YtlclhdolcokipaaH15
import Derived.Test.YtlclhdolcokipaaH20
/-
  Caches compared in a fresh world; parts of lists.
-/
namespace Go.Proofs.Ytlclhdolcokipaa
open Go.RowKit

theorem equalI_q {w : World} {v u : Value} {xs : List Itm} (h : Items w v xs) (h' : Items w u xs) :
    Calls Try.prog 22 #[v, u] w fun e w' => e = .returned (.bool true) ∧ Below w.heap.size w w' := by
  have h1 := equalItems_any v u xs xs w h h'
  rw [decide_eq_true rfl] at h1
  exact h1
theorem equalK_q {w : World} {v u : Value} {xs : List Itm} {m g s : Int} (h : Items w v xs) (h' : Items w u xs) :
    Calls Try.prog 20 #[.agg #[v, .int .i64 m, .int .i64 g, .int .i64 s], .agg #[u, .int .i64 m, .int .i64 g, .int .i64 s]] w fun e w' => e = .returned (.bool true) ∧ Below w.heap.size w w' :=
  (equalK_T (Things.nil w) h h').mono fun _ _ ⟨h1, h2⟩ => ⟨h1, h2.below⟩
theorem valid_drop {l : List Itm} (h : validI l = true) (k : Nat) : validI (l.drop k) = true := by
  have h1 := (validI_iff l).1 h
  have hs : (l.drop k).Sublist l := List.drop_sublist k l
  refine (validI_iff _).2 ⟨fun x hx => h1.1 x (hs.subset hx), ?_, Nat.le_trans hs.length_le h1.2.2⟩
  exact uniqI_drop h1.2.1 k
theorem Items.castE {w : World} {v : Value} {xs ys : List Itm} (h : Items w v xs) (e : xs = ys) : Items w v ys := e ▸ h
end Go.Proofs.Ytlclhdolcokipaa
