/-
  Lists of texts among what a statement carries.
-/
import Derived.Test.YtloalakpkjbeaaaThing
import Derived.Test.YtloalakpkjbeaaaStr2
import Derived.Test.YtloalakpkjbeaaaNew
namespace Go.Proofs.Ytloalakpkjbeaaa
open Go.RowKit

def RowT (lo hi : Nat) (w : World) (v : Value) (xs : List ByteArray) : Prop :=
  (xs ≠ [] ∧ OwnT w lo v xs ∧ ∀ g, v.ownBlock = some g → g < hi) ∨ (xs = [] ∧ ∃ ao c, v = .slice ao 0 c ∧ c ≤ 9223372036854775807)
theorem RowT.keeps {lo hi : Nat} {w w' : World} {v : Value} {xs : List ByteArray} (h : RowT lo hi w v xs) (hk : Keeps (In lo hi) w w') : RowT lo hi w' v xs := by
  rcases h with ⟨hne, ho, hg⟩ | h0
  · exact .inl ⟨hne, ⟨hk.own ho.1 (fun g e => ⟨(own_range ho.1 e).1, hg g e⟩), ho.2⟩, hg⟩
  · exact .inr h0
theorem RowT.texts {lo hi : Nat} {w : World} {v : Value} {xs : List ByteArray} (h : RowT lo hi w v xs) : Texts w v xs := by
  rcases h with ⟨_, ho, _⟩ | ⟨rfl, ao, c, rfl, hc⟩
  · exact ho.texts
  · exact Texts_none hc
theorem RowT.of {B : Nat} {w : World} {v : Value} {xs : List ByteArray} (h : OwnT w B v xs) : RowT B w.heap.size w v xs := by
  cases xs with
  | nil =>
    obtain ⟨ao, cap, e, _, hc⟩ := own_slice h.1
    exact .inr ⟨rfl, ao, cap, e, hc⟩
  | cons x r => exact .inl ⟨by simp, h, fun g e => (own_range h.1 e).2⟩
def textT (lo hi : Nat) (v : Value) (xs : List ByteArray) : Thing := ⟨lo, hi, fun w => RowT lo hi w v xs, fun _ _ hk h => h.keeps hk⟩
theorem Things.texts {W w : World} {L : List Thing} (H : Things W w L) (i : Nat) {lo hi : Nat} {v : Value} {xs : List ByteArray} (h : L[i]? = some (textT lo hi v xs)) : Texts w v xs :=
  RowT.texts (show RowT lo hi w v xs from (H.has i _ h).2.2)
theorem Things.newT {W w w' : World} {L : List Thing} {v : Value} {xs : List ByteArray} (H : Things W w L) (ho : OwnT w' w.heap.size v xs) (hb : Below w.heap.size w w') : Things W w' (textT w.heap.size w'.heap.size v xs :: L) :=
  H.new (Nat.le_refl _) (Nat.le_refl _) (RowT.of ho) hb
end Go.Proofs.Ytloalakpkjbeaaa
