/-
  The model's functions over items in order.
-/
import Derived.Test.YtfocobgceelnoaaSpecR
import Derived.Test.YtfocobgceelnoaaNew
import Derived.Test.YtfocobgceelnoaaOrd
import Derived.Deep.RegionLaw
namespace Go.Proofs.Ytfocobgceelnoaa
open Go.RowKit

theorem Items.drop {w : World} {b o n cap : Nat} {sp : Option Nat} {xs : List Itm} (h : Items w (.slice (some ⟨b, o, sp⟩) n cap) xs) {k : Nat} (hk : k ≤ n) : Items w (.slice (some ⟨b, o + k * 2, sp⟩) (n - k) (cap - k)) (xs.drop k) := by
  obtain ⟨ao, cap', e, hlc, hcm, hok, hcell⟩ := h
  simp only [Value.slice.injEq] at e
  obtain ⟨rfl, rfl, rfl⟩ := e
  refine ⟨some ⟨b, o + k * 2, sp⟩, cap - k, by simp, by simp; omega, by omega, fun x hx => hok x (List.mem_of_mem_drop hx), fun j hj => ?_⟩
  have hj' : k + j < xs.length := by simp at hj; omega
  obtain ⟨b', o', e, hb, h1, h2⟩ := hcell (k + j) hj'
  simp only [Option.some.injEq, Addr.mk.injEq] at e
  obtain ⟨rfl, rfl, rfl⟩ := e
  refine ⟨b, o + k * 2, rfl, hb, ?_, ?_⟩
  · rw [show o + k * 2 + j * 2 = o + (k + j) * 2 by omega, h1]; simp
  · rw [show o + k * 2 + j * 2 + 1 = o + (k + j) * 2 + 1 by omega, h2]; simp
theorem Items.dropAll {w : World} {ao : Option Addr} {n k : Nat} {xs : List Itm} (h : Items w (.slice ao n k) xs) (hk : k ≤ n) : Items w (.slice ao (n - k) (k - k)) (xs.drop k) := by
  obtain ⟨ao', cap', e, hlc, hcm, hok, hcell⟩ := h
  simp only [Value.slice.injEq] at e
  obtain ⟨rfl, rfl, rfl⟩ := e
  have e : xs.drop k = [] := List.drop_eq_nil_of_le (by omega)
  rw [e]
  exact ⟨ao, k - k, by simp; omega, by simp, by omega, fun x hx => by simp at hx, fun k hk => by simp at hk⟩

theorem Items_one (w : World) (s : ByteArray) (n : Int) (E : TypeId) (hs : s.size ≤ 9223372036854775807) (hn : -9223372036854775808 ≤ n ∧ n ≤ 9223372036854775807) : Items (w.alloc (.cells #[.string s, .int .i64 n] E)) (.slice (some ⟨w.heap.size, 0, none⟩) 1 1) [(s, n)] := by
  refine ⟨_, 1, rfl, Nat.le_refl _, by omega, fun x hx => ?_, fun k hk => ?_⟩
  · rw [List.mem_singleton.1 hx]; exact ⟨hs, hn.1, hn.2⟩
  · obtain rfl : k = 0 := by simpa using hk
    exact ⟨w.heap.size, 0, rfl, by simp, by simp, by simp⟩

theorem plc_place (l : List Itm) (s : ByteArray) : ∀ i, plcI l s i = placeI l s i := by
  induction l with
  | nil => intro i; rfl
  | cons x r ih => intro i; unfold plcI placeI; rw [ih]
theorem placeI_del (l : List Itm) (s : ByteArray) : ∀ i : Nat, hasI l s = true → ∃ k, ∃ h : k < l.length, placeI l s i = (k + i : Nat) ∧ l[k] = (s, cnt l s) ∧ delI l s = l.take k ++ l.drop (k + 1) ∧ (∀ t, renI l s t = l.set k (t, cnt l s)) ∧ ∀ n, putI l s n = l.set k (s, n) := by
  induction l with
  | nil => intro i h; simp [hasI] at h
  | cons x r ih =>
    intro i h
    by_cases hx : x.1 = s
    · exact ⟨0, by simp, by simp [placeI, hx], by simp [cnt, ← hx], by simp [delI, hx], fun t => by simp [renI, cnt, hx], fun n => by simp [putI, hx]⟩
    · simp only [hasI, hx, decide_false, Bool.false_or] at h
      obtain ⟨k, hk, h1, h2, h3, h4, h5⟩ := ih (i + 1) h
      refine ⟨k + 1, by simpa using hk, ?_, by simpa [cnt, hx] using h2, by simp [delI, hx, h3], fun t => by simp [renI, cnt, hx, h4], fun n => by simp [putI, hx, h5]⟩
      simp only [placeI, hx, if_false, h1]
      omega

theorem okI_sub {l m : List Itm} (h : okI l) (hs : ∀ x ∈ m, x ∈ l) : okI m := fun x hx => h x (hs x hx)
theorem okI_app {l m : List Itm} (h : okI l) (h' : okI m) : okI (l ++ m) := fun x hx => (List.mem_append.1 hx).elim (h x) (h' x)
theorem okI_del {l : List Itm} (h : okI l) (k : ByteArray) : okI (delI l k) := by
  induction l with
  | nil => exact h
  | cons x r ih =>
    unfold delI
    split
    · exact fun y hy => h y (by simp [hy])
    · exact fun y hy => (List.mem_cons.1 hy).elim (fun e => h y (by simp [e])) (ih (fun z hz => h z (by simp [hz])) y)
theorem Below.undrew {B : Nat} {w w' : World} (h : Below B w.drew w') : Below B w w' := ⟨h.os, h.tape, h.output, h.size, h.block⟩
theorem chk_chkL (l : List Itm) : chkI l = chkL l := rfl

theorem okG_of {xs : List Itm} {s : ByteArray} {a b : Bool} (HV : Hid (validI xs = a)) (HH : Hid (hasI xs s = b)) : okG xs s = (a && b) := by unfold okG; rw [HV.out, HH.out]
theorem getN_of {xs : List Itm} {s : ByteArray} {a b : Bool} (HV : Hid (validI xs = a)) (HH : Hid (hasI xs s = b)) : getN xs s = if (a && b) = true then cnt xs s else 0 := by unfold getN; rw [okG_of HV HH]

theorem drp_no {xs : List Itm} {s : ByteArray} {a b : Bool} (HV : Hid (validI xs = a)) (HH : Hid (hasI xs s = b)) (h : (a && b) = false) (E : Nat) (w : World) (B : Nat) : OwnI E w B (.slice none 0 0) (drpL xs s) := by
  unfold drpL
  rw [okG_of HV HH, h]
  exact OwnI_nil _ _ _
theorem drp_yes {xs : List Itm} {s : ByteArray} (HV : Hid (validI xs = true)) (HH : Hid (hasI xs s = true)) : drpL xs s = delI xs s := by
  unfold drpL
  rw [okG_of HV HH]
  rfl

end Go.Proofs.Ytfocobgceelnoaa
