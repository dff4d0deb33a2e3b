/-
  Each key as often as its count tells: the model's function and the program's; and the model's total.
-/
import Derived.Test.YtloalakpkjbeaaaStr
import Derived.Test.YtloalakpkjbeaaaImpl2
namespace Go.Proofs.Ytloalakpkjbeaaa
open Go.RowKit

def elsI (l : List Itm) : List ByteArray := l.flatMap fun x => List.replicate x.2.toNat x.1
def NewT2 (l : List ByteArray) (ok : Bool) (w : World) (e : Ending) (w' : World) : Prop :=
  ∃ v, e = .returned (.tuple #[v, .bool ok]) ∧ OwnT w' w.heap.size v l ∧ Below w.heap.size w w'

theorem els_append (a b : List Itm) : elsI (a ++ b) = elsI a ++ elsI b := by simp [elsI]
theorem els_take {l : List Itm} {k : Nat} (h : k < l.length) : elsI (l.take (k + 1)) = elsI (l.take k) ++ List.replicate l[k].2.toNat l[k].1 := by
  rw [List.take_succ_eq_append_getElem h, els_append]
  simp [elsI]
theorem els_le (l : List Itm) (k : Nat) : (elsI (l.take k)).length ≤ (elsI l).length := by
  have e : elsI l = elsI (l.take k) ++ elsI (l.drop k) := by rw [← els_append, List.take_append_drop]
  rw [e, List.length_append]
  omega
theorem els_sum (l : List Itm) : ((elsI l).length : Int) = sumI (posI l) := by
  induction l with
  | nil => rfl
  | cons x r ih =>
    have e : elsI (x :: r) = List.replicate x.2.toNat x.1 ++ elsI r := rfl
    rw [e, List.length_append, List.length_replicate]
    unfold posI at ih ⊢
    rw [List.filter_cons]
    by_cases h : 0 < x.2
    · rw [if_pos (by simpa using h)]
      simp only [sumI]
      rw [← ih]
      omega
    · rw [if_neg (by simpa using h)]
      rw [← ih]
      omega
theorem els_ok {l : List Itm} (h : okI l) : okT (elsI l) := fun s hs => by
  obtain ⟨x, hx, hs⟩ := List.mem_flatMap.1 hs
  rw [List.eq_of_mem_replicate hs]
  exact (h x hx).1
theorem sum_take {l : List Itm} {k : Nat} (h : k < l.length) : sumI (l.take (k + 1)) = sumI (l.take k) + l[k].2 := by
  induction l generalizing k with
  | nil => simp at h
  | cons x r ih =>
    cases k with
    | zero => simp [sumI]
    | succ k =>
      have := ih (k := k) (by simpa using h)
      simp only [List.take_succ_cons, sumI, this, List.getElem_cons_succ]
      omega

set_option maxHeartbeats 400000 in
theorem stotal_any (v : Value) (xs : List Itm) (w : World) (h : Items w v xs) (hn : xs.length ≤ 100) (hb : ∀ x ∈ xs, -9999 ≤ x.2 ∧ x.2 ≤ 9999) :
    Calls Try.prog 81 #[v] w fun e w' => e = .returned (.int .i64 (sumI xs)) ∧ Below w.heap.size w w' := by
  obtain ⟨ao, cap, rfl, hlc, hcm, hok, hcell⟩ := h
  go_enter Try.func81, Try.ntmps81
  go_wp2
  go_loopw [3, 4] (fun n i wr => ∃ (k : Nat) (q : Int), k ≤ xs.length ∧ i = .int .i64 k ∧ n = .int .i64 q ∧ Hid (q = sumI (xs.take k)) ∧ -9999 * (k : Int) ≤ q ∧ q ≤ 9999 * (k : Int) ∧ Below w.heap.size w wr) (fun _ i _ => xs.length - (intOf i).toNat)
  case atStart => exact ⟨0, 0, Nat.zero_le _, rfl, rfl, rfl, by omega, by omega, Below.refl _ _⟩
  case round =>
    obtain ⟨k, q, hk, rfl, rfl, HQ, hq0, hq1, hbl⟩ := hrel
    by_cases hlt : k < xs.length
    · obtain ⟨b, o, rfl, hbb, h1, h2⟩ := hcell k hlt
      have c2 := (hbl.cell (p := ⟨b, _, none⟩) hbb).trans h2
      have hx := hb _ (List.getElem_mem hlt)
      have e1 : IntKind.i64.wrap (q + xs[k].2) = q + xs[k].2 := IntWalk.i64_in _ (by omega)
      have hs : Hid (q + xs[k].2 = sumI (xs.take (k + 1))) := by have := HQ.out; unfold Hid; rw [sum_take hlt, this]
      clear h1 h2
      go_wp2
      go_roundw
      case rel => exact ⟨k + 1, q + xs[k].2, by omega, by go_num, rfl, hs, by omega, by omega, hbl⟩
      case measure => simp [intOf]; omega
    · obtain rfl : k = xs.length := by omega
      rw [List.take_length] at HQ
      go_wp2
      go_ret
      exact ⟨ret_int HQ.out, hbl⟩

theorem pos_bd {a : List Itm} (h : validI a = true) : ∀ x ∈ posI a, -9999 ≤ x.2 ∧ x.2 ≤ 9999 := fun x hx => valid_num h x (List.mem_filter.1 hx).1

theorem rep_snoc (L : List ByteArray) (j : Nat) (s : ByteArray) : cellsT (L ++ List.replicate (j + 1) s) = cellsT (L ++ List.replicate j s) ++ [.string s] := by
  rw [List.replicate_succ', ← List.append_assoc]
  simp [cellsT]

end Go.Proofs.Ytloalakpkjbeaaa
