/-
  Lists of texts among what a statement carries.
-/
import Derived.Test.YtfocobgceelnoaaThing
import Derived.Test.YtfocobgceelnoaaStr2
import Derived.Test.YtfocobgceelnoaaNew
namespace Go.Proofs.Ytfocobgceelnoaa
open Go.RowKit

def RowT (lo hi : Nat) (w : World) (v : Value) (xs : List ByteArray) : Prop :=
  (xs ≠ [] ∧ OwnT w lo v xs ∧ ∀ g, v.ownBlock = some g → g < hi) ∨ (xs = [] ∧ ∃ ao c, v = .slice ao 0 c ∧ c ≤ 9223372036854775807)
theorem RowT.keeps {lo hi : Nat} {w w' : World} {v : Value} {xs : List ByteArray} (h : RowT lo hi w v xs) (hk : Keeps (In lo hi) w w') : RowT lo hi w' v xs := by
  rcases h with ⟨hne, ho, hg⟩ | h0
  · exact .inl ⟨hne, ⟨hk.own ho.1 (fun g e => ⟨(own_range ho.1 e).1, hg g e⟩), ho.2⟩, hg⟩
  · exact .inr h0
theorem RowT.texts {lo hi : Nat} {w : World} {v : Value} {xs : List ByteArray} (h : RowT lo hi w v xs) : Texts w v xs := by
  rcases h with ⟨_, ho, _⟩ | ⟨rfl, ao, c, rfl, hc⟩
  · exact ho.texts
  · exact Texts_none hc
theorem RowT.of {B : Nat} {w : World} {v : Value} {xs : List ByteArray} (h : OwnT w B v xs) : RowT B w.heap.size w v xs := by
  cases xs with
  | nil =>
    obtain ⟨ao, cap, e, _, hc⟩ := own_slice h.1
    exact .inr ⟨rfl, ao, cap, e, hc⟩
  | cons x r => exact .inl ⟨by simp, h, fun g e => (own_range h.1 e).2⟩
def textT (lo hi : Nat) (v : Value) (xs : List ByteArray) : Thing := ⟨lo, hi, fun w => RowT lo hi w v xs, fun _ _ hk h => h.keeps hk⟩
theorem Things.texts {W w : World} {L : List Thing} (H : Things W w L) (i : Nat) {lo hi : Nat} {v : Value} {xs : List ByteArray} (h : L[i]? = some (textT lo hi v xs)) : Texts w v xs :=
  RowT.texts (show RowT lo hi w v xs from (H.has i _ h).2.2)
theorem Things.newT {W w w' : World} {L : List Thing} {v : Value} {xs : List ByteArray} (H : Things W w L) (ho : OwnT w' w.heap.size v xs) (hb : Below w.heap.size w w') : Things W w' (textT w.heap.size w'.heap.size v xs :: L) :=
  H.new (Nat.le_refl _) (Nat.le_refl _) (RowT.of ho) hb
theorem markT_T {W w : World} {L : List Thing} (H : Things W w L) (i k : Nat) {lo hi : Nat} {v : Value} {xs : List ByteArray} (h : L[i]? = some (textT lo hi v xs)) (hk : 0 < k) (hk2 : k + xs.length ≤ 100000000) :
    Calls Try.prog 34 #[v, .int .i64 k] w (MarkedT' W L i (fun k => textT lo hi v (marksT k xs.length)) k xs.length) := by
  have hz : RowT lo hi w v xs := (H.has i _ h).2.2
  rcases hz with ⟨hne, ho, hg⟩ | ⟨rfl, ao, c, rfl, hc⟩
  · refine (markStringS_any lo v xs k w ho hk hk2).mono ?_
    rintro e w' ⟨rfl, ho', hb⟩
    refine ⟨_, rfl, by omega, rfl, H.set i h rfl rfl (show RowT lo hi w' v (marksT k xs.length) from .inl ⟨fun e => ?_, ho', hg⟩) (hb.keeps (fun j hj => ⟨hj.1, fun e => hj.2 ⟨(own_range ho.1 e).1, hg j e⟩⟩))⟩
    have := congrArg List.length e
    rw [marksT_length] at this
    exact hne (List.eq_nil_of_length_eq_zero this)
  · refine (markNoneT_any ao c k w).mono ?_
    rintro e w' ⟨rfl, rfl⟩
    exact ⟨_, rfl, by omega, rfl, H.set i h rfl rfl (show RowT lo hi w (.slice ao 0 c) (marksT k 0) from .inr ⟨List.eq_nil_of_length_eq_zero (marksT_length _ _), ao, c, rfl, hc⟩) (Keeps.refl _ _)⟩
theorem heldT_T {W w : World} {L : List Thing} (H : Things W w L) (i : Nat) {lo hi k n m : Nat} {v : Value} (h : L[i]? = some (textT lo hi v (marksT k n))) (hk : 0 < k) (hk2 : k + n ≤ 100000000) (hm : Hid (m = k + n)) :
    Calls Try.prog 35 #[v, .int .i64 k] w fun e w' => e = .returned (.int .i64 (m : Int)) ∧ Things W w' L := by
  refine (heldStringS_any v n k w (H.texts i h) hk hk2).mono ?_
  rintro e w' ⟨rfl, hb⟩
  rw [hm.out]
  exact ⟨rfl, H.quiet hb⟩
theorem eqT_T {W w : World} {L : List Thing} (H : Things W w L) {v u : Value} {xs : List ByteArray} (h : Texts w v xs) (h' : Texts w u xs) :
    Calls Try.prog 33 #[v, u] w fun e w' => e = .returned (.bool true) ∧ Things W w' L := by
  refine (eqStringS_any v u xs xs w h h').mono ?_
  rintro e w' ⟨rfl, hb⟩
  exact ⟨by rw [decide_eq_true rfl], H.quiet hb⟩
end Go.Proofs.Ytfocobgceelnoaa
