/-
  How long what an operation returns may be.
-/
import Derived.Test.YtbiflkekhabpoaaImpl
namespace Go.Proofs.Ytbiflkekhabpoaa
open Go.RowKit

theorem chk_le (l : List Itm) : (chkI l).length ≤ 10000000 := by
  unfold chkI
  cases h : validI l
  · simp
  · have := valid_len h
    simp
    omega
theorem if_chk_le (b : Bool) (l : List Itm) : (if b = true then chkI l else []).length ≤ 10000000 := by
  cases b
  · simp
  · simp only [if_true]; exact chk_le l
theorem pos_le (l : List Itm) : (posI l).length ≤ l.length := List.length_filter_le _ _
theorem nz_le (l : List Itm) : (nzI l).length ≤ l.length := List.length_filter_le _ _
theorem sumL_leN (a b : List Itm) (m : Int) : (sumL a b m).length ≤ a.length + b.length := by
  have h1 := addAll_length a 1 []
  have h2 := addAll_length b m (addAll [] a 1)
  unfold sumL
  simp at h1
  omega
theorem if_pos_le {b : Bool} (a c : List Itm) (m : Int) (h : b = true → a.length + c.length ≤ 10000000) : (if b = true then posI (sumL a c m) else []).length ≤ 10000000 := by
  cases b
  · simp
  · have h1 := pos_le (sumL a c m)
    have h2 := sumL_leN a c m
    have h3 := h rfl
    simp only [if_true]
    omega
theorem if_nz_le {b : Bool} (a c : List Itm) (m : Int) (h : b = true → a.length + c.length ≤ 10000000) : (if b = true then nzI (sumL a c m) else []).length ≤ 10000000 := by
  cases b
  · simp
  · have h1 := nz_le (sumL a c m)
    have h2 := sumL_leN a c m
    have h3 := h rfl
    simp only [if_true]
    omega
end Go.Proofs.Ytbiflkekhabpoaa
