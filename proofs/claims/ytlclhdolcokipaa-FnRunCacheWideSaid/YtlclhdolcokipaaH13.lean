/-
  Turn.
-/
import Derived.WalkSpells
import Derived.Test.YtlclhdolcokipaaH0
import Derived.Test.YtlclhdolcokipaaH5
import Derived.Test.YtlclhdolcokipaaH11
import Derived.Test.YtlclhdolcokipaaH12
/-
  Items cloned, turned, swapped, by the program.
-/
namespace Go.Proofs.Ytlclhdolcokipaa
open Go.RowKit

theorem swap_row {w : World} {B g cap n : Nat} {ys : List Itm} {i j : Nat} (hi : i < ys.length) (hj : j < ys.length) (hown : w.ownsRow B 43 2 (.slice (some ⟨g, 0, none⟩) n cap) n (cellsI ys)) :
    ((((w.setCell ⟨g, i * 2, none⟩ (.string ys[j].1)).setCell ⟨g, i * 2 + 1, none⟩ (.int .i64 ys[j].2)).setCell ⟨g, j * 2, none⟩ (.string ys[i].1)).setCell ⟨g, j * 2 + 1, none⟩ (.int .i64 ys[i].2)).ownsRow B 43 2 (.slice (some ⟨g, 0, none⟩) n cap) n (cellsI ((ys.set i ys[j]).set j ys[i])) := by
  have h1 := (((((hown.stored (i * 2) (.string ys[j].1)).1.stored (i * 2 + 1) (.int .i64 ys[j].2)).1.stored (j * 2) (.string ys[i].1)).1).stored (j * 2 + 1) (.int .i64 ys[i].2)).1
  have e : ∀ (l : List Itm) (k : Nat) (_ : k < l.length) (x : Itm), ((cellsI l).set (k * 2) (.string x.1)).set (k * 2 + 1) (.int .i64 x.2) = cellsI (l.set k x) := by
    intro l k hk x
    rw [cellsI_setKey l k hk x.1]
    have hk' : k < (l.set k (x.1, l[k].2)).length := by simpa using hk
    rw [cellsI_set _ k hk' x.2]
    simp
  rw [e ys i hi ys[j], e _ j (by simpa using hj) ys[i]] at h1
  exact h1

def RevAt (xs l : List Itm) (k : Nat) : Prop := l.length = xs.length ∧ ∀ m : Nat, l[m]? = if m < k ∨ xs.length - k ≤ m then xs.reverse[m]? else xs[m]?
theorem RevAt.start (xs : List Itm) : RevAt xs xs 0 := ⟨rfl, fun m => by
  by_cases h : m < xs.length
  · rw [if_neg (by omega)]
  · rw [if_pos (by omega), List.getElem?_eq_none (by omega), List.getElem?_eq_none (by simp; omega)]⟩
theorem RevAt.step {xs l : List Itm} {k j : Nat} (h : RevAt xs l k) (hj : j + k + 1 = xs.length) (hlt : k < j) (hk1 : k < l.length) (hj1 : j < l.length) : RevAt xs ((l.set k l[j]).set j l[k]) (k + 1) := by
  have e1 : l[k]? = xs[k]? := by rw [h.2 k, if_neg (by omega)]
  have e2 : l[j]? = xs[j]? := by rw [h.2 j, if_neg (by omega)]
  refine ⟨by simp [h.1], fun m => ?_⟩
  rw [List.getElem?_set, List.getElem?_set]
  by_cases hm : j = m
  · subst hm
    rw [if_pos rfl, if_pos (by simpa using hj1), if_pos (by omega), ← List.getElem?_eq_getElem hk1, e1, List.getElem?_reverse (by omega)]
    congr 1; omega
  · rw [if_neg hm]
    by_cases hk : k = m
    · subst hk
      rw [if_pos rfl, if_pos hk1, if_pos (by omega), ← List.getElem?_eq_getElem hj1, e2, List.getElem?_reverse (by omega)]
      congr 1; omega
    · rw [if_neg hk, h.2 m]
      by_cases c : m < k ∨ xs.length - k ≤ m
      · rw [if_pos c, if_pos (by omega)]
      · rw [if_neg c, if_neg (by omega)]
theorem RevAt.done {xs l : List Itm} {k : Nat} (h : RevAt xs l k) (hk : xs.length ≤ 2 * k + 1) : l = xs.reverse := by
  refine List.ext_getElem? fun m => ?_
  rw [h.2 m]
  by_cases c : m < k ∨ xs.length - k ≤ m
  · rw [if_pos c]
  · rw [if_neg c, List.getElem?_reverse (by omega)]
    congr 1; omega

set_option maxHeartbeats 1600000 in
set_option maxRecDepth 100000 in
theorem slClone_any (v : Value) (xs : List Itm) (w : World) (h : Items w v xs) (hn : xs.length ≤ 100000) :
    Calls Try.prog 134 #[v] w (FreshI xs w) := by
  have h0 := Lib.hid h
  have hok := Lib.hid h.ok
  obtain ⟨ao, cap, rfl, hlc, hcm, _, hcell⟩ := h
  cases ao with
  | none =>
    have hx : xs = [] := by
      cases xs with
      | nil => rfl
      | cons x r => obtain ⟨b, o, e, _⟩ := hcell 0 (by simp); cases e
    subst hx
    clear hcell
    have hn1 := fun (w : World) a n c => Lib.run_eql_slice_nil (P := Try.prog) w 23 43 a n c 0 0 Try.underlying23
    go_enter Try.func134, Try.ntmps134
    go_wp2
    go_ret
    exact ⟨_, rfl, OwnI_nil _ _ _, Below.refl _ _⟩
  | some ad =>
    obtain ⟨b, o, sp⟩ := ad
    clear hcell
    have hown := World.ownsRow_lit (base := w.heap.size) (e := 43) (size := 2) w #[] 0 (Nat.le_refl _) (by unfold maxLen; omega) rfl
    have hn1 := fun (w : World) a n c => Lib.run_eql_slice_nil (P := Try.prog) w 23 43 a n c 0 0 Try.underlying23
    go_enter Try.func134, Try.ntmps134
    go_wp2_with (at_builtin; refine wpl_append_items _ rfl _ _ rfl w.heap.size (.slice (some ⟨w.heap.size, 0, none⟩) 0 0) 0 [] rfl hown (.slice (some ⟨b, o, sp⟩) xs.length cap) xs rfl (h0.out.mono ((Below.refl _ _).alloc (Nat.le_refl _) _) (Nat.le_refl _)) (by omega) (by omega) (by simp) ?_; intro v' w1 hown1 hgrow1)
    go_ret
    refine ⟨_, rfl, ⟨?_, hok.out⟩, ((Below.refl _ _).alloc (Nat.le_refl _) _).grown hgrow1 (by simp) (fun k hk => by simp [Value.ownBlock] at hk; omega)⟩
    simpa using hown1

end Go.Proofs.Ytlclhdolcokipaa
