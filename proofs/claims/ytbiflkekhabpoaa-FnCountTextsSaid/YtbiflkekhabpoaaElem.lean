/-
  Each key as often as its count tells: the model's function and the program's; and the model's total.
-/
import Derived.Test.YtbiflkekhabpoaaStr
import Derived.Test.YtbiflkekhabpoaaImpl2
namespace Go.Proofs.Ytbiflkekhabpoaa
open Go.RowKit

def elsI (l : List Itm) : List ByteArray := l.flatMap fun x => List.replicate x.2.toNat x.1
def NewT2 (l : List ByteArray) (ok : Bool) (w : World) (e : Ending) (w' : World) : Prop :=
  ∃ v, e = .returned (.tuple #[v, .bool ok]) ∧ OwnT w' w.heap.size v l ∧ Below w.heap.size w w'

theorem els_append (a b : List Itm) : elsI (a ++ b) = elsI a ++ elsI b := by simp [elsI]
theorem els_take {l : List Itm} {k : Nat} (h : k < l.length) : elsI (l.take (k + 1)) = elsI (l.take k) ++ List.replicate l[k].2.toNat l[k].1 := by
  rw [List.take_succ_eq_append_getElem h, els_append]
  simp [elsI]
theorem els_le (l : List Itm) (k : Nat) : (elsI (l.take k)).length ≤ (elsI l).length := by
  have e : elsI l = elsI (l.take k) ++ elsI (l.drop k) := by rw [← els_append, List.take_append_drop]
  rw [e, List.length_append]
  omega
theorem els_sum (l : List Itm) : ((elsI l).length : Int) = sumI (posI l) := by
  induction l with
  | nil => rfl
  | cons x r ih =>
    have e : elsI (x :: r) = List.replicate x.2.toNat x.1 ++ elsI r := rfl
    rw [e, List.length_append, List.length_replicate]
    unfold posI at ih ⊢
    rw [List.filter_cons]
    by_cases h : 0 < x.2
    · rw [if_pos (by simpa using h)]
      simp only [sumI]
      rw [← ih]
      omega
    · rw [if_neg (by simpa using h)]
      rw [← ih]
      omega
theorem els_ok {l : List Itm} (h : okI l) : okT (elsI l) := fun s hs => by
  obtain ⟨x, hx, hs⟩ := List.mem_flatMap.1 hs
  rw [List.eq_of_mem_replicate hs]
  exact (h x hx).1
theorem sum_take {l : List Itm} {k : Nat} (h : k < l.length) : sumI (l.take (k + 1)) = sumI (l.take k) + l[k].2 := by
  induction l generalizing k with
  | nil => simp at h
  | cons x r ih =>
    cases k with
    | zero => simp [sumI]
    | succ k =>
      have := ih (k := k) (by simpa using h)
      simp only [List.take_succ_cons, sumI, this, List.getElem_cons_succ]
      omega

set_option maxHeartbeats 400000 in
theorem stotal_any (v : Value) (xs : List Itm) (w : World) (h : Items w v xs) (hn : xs.length ≤ 100) (hb : ∀ x ∈ xs, -9999 ≤ x.2 ∧ x.2 ≤ 9999) :
    Calls Try.prog 100 #[v] w fun e w' => e = .returned (.int .i64 (sumI xs)) ∧ Below w.heap.size w w' := by
  obtain ⟨ao, cap, rfl, hlc, hcm, hok, hcell⟩ := h
  go_enter Try.func100, Try.ntmps100
  go_wp2
  go_loopw [3, 4] (fun n i wr => ∃ (k : Nat) (q : Int), k ≤ xs.length ∧ i = .int .i64 k ∧ n = .int .i64 q ∧ Hid (q = sumI (xs.take k)) ∧ -9999 * (k : Int) ≤ q ∧ q ≤ 9999 * (k : Int) ∧ Below w.heap.size w wr) (fun _ i _ => xs.length - (intOf i).toNat)
  case atStart => exact ⟨0, 0, Nat.zero_le _, rfl, rfl, rfl, by omega, by omega, Below.refl _ _⟩
  case round =>
    obtain ⟨k, q, hk, rfl, rfl, HQ, hq0, hq1, hbl⟩ := hrel
    by_cases hlt : k < xs.length
    · obtain ⟨b, o, rfl, hbb, h1, h2⟩ := hcell k hlt
      have c2 := (hbl.cell (p := ⟨b, _, none⟩) hbb).trans h2
      have hx := hb _ (List.getElem_mem hlt)
      have e1 : IntKind.i64.wrap (q + xs[k].2) = q + xs[k].2 := IntWalk.i64_in _ (by omega)
      have hs : Hid (q + xs[k].2 = sumI (xs.take (k + 1))) := by have := HQ.out; unfold Hid; rw [sum_take hlt, this]
      clear h1 h2
      go_wp2
      go_roundw
      case rel => exact ⟨k + 1, q + xs[k].2, by omega, by go_num, rfl, hs, by omega, by omega, hbl⟩
      case measure => simp [intOf]; omega
    · obtain rfl : k = xs.length := by omega
      rw [List.take_length] at HQ
      go_wp2
      go_ret
      exact ⟨ret_int HQ.out, hbl⟩

theorem pos_bd {a : List Itm} (h : validI a = true) : ∀ x ∈ posI a, -9999 ≤ x.2 ∧ x.2 ≤ 9999 := fun x hx => valid_num h x (List.mem_filter.1 hx).1

theorem rep_snoc (L : List ByteArray) (j : Nat) (s : ByteArray) : cellsT (L ++ List.replicate (j + 1) s) = cellsT (L ++ List.replicate j s) ++ [.string s] := by
  rw [List.replicate_succ', ← List.append_assoc]
  simp [cellsT]

set_option maxHeartbeats 1600000 in
set_option maxRecDepth 100000 in
theorem sElements_any (va : Value) (a : List Itm) (w : World) (ha : Items w va a) :
    Calls Try.prog 62 #[va] w (NewT2 (if (validI a && decide ((elsI a).length ≤ 40)) = true then elsI a else []) (validI a && decide ((elsI a).length ≤ 40)) w) := by
  go_enter Try.func62, Try.ntmps62
  cases hv : validI a
  · have H := Lib.hid hv
    clear hv
    go_wp2_with fail
    refine (sVi_v _ ha H.out).mono ?_
    rintro e w1 ⟨rfl, hb1⟩
    go_wp2
    go_ret2
    exact ⟨_, rfl, OwnT_nil _ _, hb1⟩
  · have H := Lib.hid hv
    clear hv
    have hn := valid_len H.out
    have hnum := valid_num H.out
    have HS := Lib.hid (els_sum a)
    have hpl : (posI a).length ≤ a.length := List.length_filter_le _ _
    by_cases h40 : (elsI a).length ≤ 40
    · have HD := Lib.hid (decide_eq_true h40)
      rw [HD.out]
      have hcmp : ¬ ((40 : Int) < sumI (posI a)) := by have := HS.out; omega
      go_wp2_with fail
      refine (sVi_v _ ha H.out).mono ?_
      rintro e w1 ⟨rfl, hb1⟩
      go_wp2_with fail
      refine (spositive_any va a w1 (ha.mono hb1 (Nat.le_refl _)) (by omega)).mono ?_
      rintro e w2 ⟨v2, rfl, ho2, hb2⟩
      go_wp2_with fail
      refine (stotal_any v2 _ w2 ho2.items (by omega) (pos_bd H.out)).mono ?_
      rintro e w3 ⟨rfl, hb3⟩
      have hb12 := hb1.trans (hb2.mono hb1.size)
      have hb13 := hb12.trans (hb3.mono hb12.size)
      clear hb12 hb1 hb2 hb3 ho2
      have ha3 := ha.mono hb13 (Nat.le_refl _)
      obtain ⟨ao, cap, rfl, hlc, hcm, hok, hcell⟩ := ha3
      clear ha
      obtain ⟨i0, hi0, hz0, hz1, hz2⟩ := info_parts Try.infoS
      have hown0 := World.ownsRow_lit (base := w3.heap.size) (e := 9) (size := 1) w3 #[] 0 (Nat.le_refl _) (by unfold maxLen; omega) rfl
      go_wp2
      go_loopw [4, 5] (fun x i wr => ∃ k : Nat, k ≤ a.length ∧ i = .int .i64 k ∧ wr.ownsRow w3.heap.size 9 1 x (elsI (a.take k)).length (cellsT (elsI (a.take k))) ∧ Below w3.heap.size w3 wr ∧ w3.heap.size < wr.heap.size) (fun _ i _ => a.length - (intOf i).toNat)
      case atStart => exact ⟨0, Nat.zero_le _, rfl, hown0, (Below.refl _ _).alloc (Nat.le_refl _) _, by simp⟩
      case round =>
        obtain ⟨k, hk, rfl, hrow, hbl, hsz⟩ := hrel
        by_cases hlt : k < a.length
        · obtain ⟨b, o, rfl, hb, h1, h2⟩ := hcell k hlt
          have c2 := (hbl.cell (p := ⟨b, _, none⟩) hb).trans h2
          have hle := els_le a k
          have hN := hnum _ (List.getElem_mem hlt)
          obtain ⟨L, hL⟩ : ∃ L, L = elsI (a.take k) := ⟨_, rfl⟩
          rw [← hL] at hrow hle
          have HL := Lib.hid hL
          clear hL
          go_wp2
          go_loopw [4, 6] (fun x n wr' => ∃ (j : Nat) (q : Int), j ≤ a[k].2.toNat ∧ n = .int .i64 q ∧ Hid (q = a[k].2 - j) ∧ wr'.ownsRow w3.heap.size 9 1 x (L ++ List.replicate j a[k].1).length (cellsT (L ++ List.replicate j a[k].1)) ∧ Below w3.heap.size w3 wr' ∧ w3.heap.size < wr'.heap.size) (fun _ n _ => (intOf n).toNat)
          case atStart => exact ⟨0, a[k].2, Nat.zero_le _, rfl, by unfold Hid; omega, by simpa using hrow, hbl, hsz⟩
          case round =>
            clear hrow hbl hsz c2
            obtain ⟨j, q, hj, rfl, HQ, hrow, hbl, hsz⟩ := hrel
            have hlen : (L ++ List.replicate j a[k].1).length = L.length + j := by simp
            by_cases hq : 0 < q
            · have c1 := (hbl.cell (p := ⟨b, _, none⟩) hb).trans h1
              have e1 : IntKind.i64.wrap (q - 1) = q - 1 := IntWalk.i64_in _ (by have := HQ.out; omega)
              have hjlt : j < a[k].2.toNat := by have := HQ.out; omega
              obtain ⟨xo, xcap, rfl, _, _⟩ := own_slice hrow
              go_wp2_with (at_builtin; refine wpList_append_own _ rfl _ _ 31 rfl w3.heap.size 9 i0 (.string ⟨#[]⟩) 1 16 Try.underlying31 hi0 hz0 hz1 hz2 rfl (by decide) (.slice xo (L ++ List.replicate j a[k].1).length xcap) (L ++ List.replicate j a[k].1).length (cellsT (L ++ List.replicate j a[k].1)) rfl (hrow.alloc _) ⟨wr.heap.size, 0, none⟩ 1 1 [.string a[k].1] rfl rfl (cell_one_new _ _ _) (by intro u hu; simp at hu; subst hu; rfl) (by unfold maxLen; omega) (by omega) (by simp; omega) ?_; intro v' w4 hown4 hgrow4 hnil4)
              have hs4 := hgrow4.size
              simp at hs4
              have hrow4 : w4.ownsRow w3.heap.size 9 1 v' (L ++ List.replicate (j + 1) a[k].1).length (cellsT (L ++ List.replicate (j + 1) a[k].1)) := by
                have e3 : (L ++ List.replicate (j + 1) a[k].1).length = (L ++ List.replicate j a[k].1).length + 1 := by simp; omega
                rw [rep_snoc, e3]; exact hown4
              have hb4 := (hbl.alloc (Nat.le_of_lt hsz) _).grown hgrow4 (by simp; omega) (fun j hj => (hrow.lt j hj).1)
              clear hown4 hrow c1 hgrow4 hnil4
              go_roundw
              case rel => exact ⟨j + 1, q - 1, by omega, rfl, by have := HQ.out; unfold Hid; omega, hrow4, hb4, by omega⟩
              case measure => simp [intOf]; omega
            · have hje : j = a[k].2.toNat := by have := HQ.out; omega
              have e5 : elsI (a.take (k + 1)) = L ++ List.replicate j a[k].1 := by rw [els_take hlt, ← HL.out, hje]
              rw [← e5] at hrow
              have HR := Lib.hid hrow
              clear hrow e5 hlen
              go_wp2
              go_roundw
              case rel => exact ⟨k + 1, by omega, by go_num, HR.out, hbl, hsz⟩
              case measure => simp [intOf]; omega
        · obtain rfl : k = a.length := by omega
          rw [List.take_length] at hrow
          go_wp2
          go_ret2
          exact ⟨_, rfl, ⟨ownsRow_base hrow hb13.size, els_ok hok⟩, hb13.trans (hbl.mono hb13.size)⟩
    · have HD := Lib.hid (decide_eq_false h40)
      rw [HD.out]
      have hcmp : ((40 : Int) < sumI (posI a)) := by have := HS.out; omega
      go_wp2_with fail
      refine (sVi_v _ ha H.out).mono ?_
      rintro e w1 ⟨rfl, hb1⟩
      go_wp2_with fail
      refine (spositive_any va a w1 (ha.mono hb1 (Nat.le_refl _)) (by omega)).mono ?_
      rintro e w2 ⟨v2, rfl, ho2, hb2⟩
      go_wp2_with fail
      refine (stotal_any v2 _ w2 ho2.items (by omega) (pos_bd H.out)).mono ?_
      rintro e w3 ⟨rfl, hb3⟩
      have hb12 := hb1.trans (hb2.mono hb1.size)
      have hb13 := hb12.trans (hb3.mono hb12.size)
      go_wp2
      go_ret2
      exact ⟨_, rfl, OwnT_nil _ _, hb13⟩
end Go.Proofs.Ytbiflkekhabpoaa
