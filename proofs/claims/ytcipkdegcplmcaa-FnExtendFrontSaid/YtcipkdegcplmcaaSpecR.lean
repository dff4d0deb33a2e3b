/-
  The model's rest of items.
-/
import Derived.Test.YtcipkdegcplmcaaSpec
namespace Go.Proofs.Ytcipkdegcplmcaa
open Go.RowKit

theorem drewN_self (w : World) : ∃ n, w = w.drewN n := ⟨0, rfl⟩
theorem drewN_belows {w w' : World} (h : ∃ n, w' = w.drewN n) : Below w.heap.size w w' := by
  obtain ⟨n, rfl⟩ := h
  exact ⟨rfl, rfl, rfl, Nat.le_refl _, fun _ _ => rfl⟩
theorem Items.drewN {w wr : World} {v : Value} {xs : List Itm} (h : Items w v xs) (hw : ∃ n, wr = w.drewN n) : Items wr v xs := h.mono (drewN_belows hw) (Nat.le_refl _)
theorem rest_yes {b a : List Itm} {k : Nat} (h : k < b.length) (hq : hasI a b[k].1 = false) : restI (b.take (k + 1)) a = restI (b.take k) a ++ [b[k]] := by
  unfold restI; rw [List.take_succ_eq_append_getElem h, List.filter_append]; simp [hq]
theorem rest_no {b a : List Itm} {k : Nat} (h : k < b.length) (hq : hasI a b[k].1 = true) : restI (b.take (k + 1)) a = restI (b.take k) a := by
  unfold restI; rw [List.take_succ_eq_append_getElem h, List.filter_append]; simp [hq]
theorem rest_le (b a : List Itm) : (restI b a).length ≤ b.length := List.length_filter_le _ _
theorem Items.drew {w : World} {v : Value} {xs : List Itm} (h : Items w v xs) : Items w.drew v xs := h
end Go.Proofs.Ytcipkdegcplmcaa
