/-
  How long what an operation returns may be.
-/
import Derived.Test.YtbiflkekhabpoaaImpl
namespace Go.Proofs.Ytbiflkekhabpoaa
open Go.RowKit

theorem chk_le (l : List Itm) : (chkI l).length ≤ 10000000 := by
  unfold chkI
  cases h : validI l
  · simp
  · have := valid_len h
    simp
    omega
theorem if_chk_le (b : Bool) (l : List Itm) : (if b = true then chkI l else []).length ≤ 10000000 := by
  cases b
  · simp
  · simp only [if_true]; exact chk_le l
end Go.Proofs.Ytbiflkekhabpoaa
