/-
  The statements' own helpers over items: how much they hold, a copy, equality.
-/
import Derived.Test.YtfocobgceelnoaaBase
import Derived.StillTailTactics
namespace Go.Proofs.Ytfocobgceelnoaa
open Go.RowKit

def SzPost (left : Int) (xs : List Itm) (w : World) (e : Ending) (w' : World) : Prop :=
  ∃ r : Int, e = .returned (.int .i64 r) ∧ -1 ≤ r ∧ r ≤ left ∧ (0 ≤ r → (xs.length : Int) ≤ left ∧ ∀ x ∈ xs, (x.1.size : Int) ≤ left) ∧ Below w.heap.size w w'

theorem szItem_r (s : ByteArray) (n left : Int) (w : World) (hs : s.size ≤ maxLen) (hl : 0 ≤ left) (hu : left ≤ 1048576) :
    Calls Try.prog 53 #[.agg #[.string s, .int .i64 n], .int .i64 left] w fun e w' =>
      ∃ r : Int, e = .returned (.int .i64 r) ∧ -1 ≤ r ∧ r ≤ left ∧ (0 ≤ r → (s.size : Int) ≤ left) ∧ Below w.heap.size w w' := by
  refine (szItem_any s n left w hs hl hu).mono ?_
  rintro e w' ⟨rfl, hb⟩
  by_cases h : left - (s.size : Int) < 0
  · exact ⟨-1, by rw [if_pos h], by omega, by omega, fun h => absurd h (by omega), hb⟩
  · exact ⟨left - s.size, by rw [if_neg h], by omega, by omega, fun _ => by omega, hb⟩

theorem take_sizes {xs : List Itm} {k : Nat} {left : Int} (hlt : k < xs.length) (h : ∀ x ∈ xs.take k, (x.1.size : Int) ≤ left) (hk : (xs[k].1.size : Int) ≤ left) : ∀ x ∈ xs.take (k + 1), (x.1.size : Int) ≤ left := by
  intro x hx
  rw [List.take_succ_eq_append_getElem hlt] at hx
  rcases List.mem_append.1 hx with hx | hx
  · exact h x hx
  · rw [List.mem_singleton.1 hx]; exact hk

set_option maxHeartbeats 400000 in
theorem szItemS_any (v : Value) (xs : List Itm) (left : Int) (w : World) (h : Items w v xs) (hl0 : 0 ≤ left) (hl1 : left ≤ 1048576) :
    Calls Try.prog 14 #[v, .int .i64 left] w (SzPost left xs w) := by
  obtain ⟨ao, cap, rfl, hlc, hcm, hok, hcell⟩ := h
  go_enter Try.func14, Try.ntmps14
  go_wp2
  · go_ret
    exact ⟨-1, rfl, by omega, by omega, fun h => absurd h (by omega), Below.refl _ _⟩
  · have hle : (xs.length : Int) ≤ left := by omega
    go_loopw [1, 5] (fun l i wr => ∃ (k : Nat) (q : Int), k ≤ xs.length ∧ i = .int .i64 k ∧ l = .int .i64 q ∧ 0 ≤ q ∧ q ≤ left - xs.length ∧ (∀ x ∈ xs.take k, (x.1.size : Int) ≤ left) ∧ Below w.heap.size w wr)
      (fun _ i _ => xs.length - (intOf i).toNat)
    case atStart => exact ⟨0, left - xs.length, Nat.zero_le _, rfl, rfl, by omega, Int.le_refl _, by simp, Below.refl _ _⟩
    case round =>
      obtain ⟨k, q, hk, rfl, rfl, hq0, hq1, hsz, hbl⟩ := hrel
      by_cases hlt : k < xs.length
      · obtain ⟨b, o, rfl, hb, h1, h2⟩ := hcell k hlt
        have c1 := (hbl.cell (p := ⟨b, _, none⟩) hb).trans h1
        have c2 := (hbl.cell (p := ⟨b, _, none⟩) hb).trans h2
        have hks : xs[k].1.size ≤ maxLen := by have := (hok _ (List.getElem_mem hlt)).1; unfold maxLen; omega
        go_wp2_with (go_at_call 53; refine (szItem_r _ _ _ _ hks (by omega) (by omega)).mono ?_; rintro e w1 ⟨r, rfl, hr1, hr2, hr3, hb1⟩)
        · go_ret
          exact ⟨-1, rfl, by omega, by omega, fun h => absurd h (by omega), hbl.trans (hb1.mono hbl.size)⟩
        · have hr0 : 0 ≤ r := by assumption
          have hsz' := take_sizes hlt hsz (Int.le_trans (hr3 hr0) (by omega))
          clear hsz hr3 c1 c2 h1 h2
          go_roundw
          case rel => exact ⟨k + 1, r, by omega, by go_num, rfl, hr0, by omega, hsz', hbl.trans (hb1.mono hbl.size)⟩
          case measure => simp [intOf]; omega
      · obtain rfl : k = xs.length := by omega
        go_wp2
        go_ret
        exact ⟨q, rfl, by omega, by omega, fun _ => ⟨by omega, by simpa using hsz⟩, hbl⟩

/-! ### a copy -/
theorem Try.infoI : (Try.prog.info? 66).map (fun i => (i.zero, i.size, i.bytes)) = some (some (.agg #[.string ⟨#[]⟩, .int .i64 0]), 2, 24) := by kernel_rfl

theorem cellsI_snoc (xs : List Itm) (x : Itm) : cellsI (xs ++ [x]) = cellsI xs ++ [.string x.1, .int .i64 x.2] := by simp [cellsI]

/-- Two cells more. -/
theorem copy_step {w : World} {B E g n : Nat} {xs : List Itm} {k : Nat} {zs : List Value} (hlt : k < xs.length) (hn : n = xs.length) (hz : zs.length = (n - k) * 2)
    (hown : w.ownsRow B E 2 (.slice (some ⟨g, 0, none⟩) n n) n (cellsI (xs.take k) ++ zs)) :
    ∃ zs', zs'.length = (n - (k + 1)) * 2 ∧
      ((w.setCell ⟨g, k * 2, none⟩ (.string xs[k].1)).setCell ⟨g, k * 2 + 1, none⟩ (.int .i64 xs[k].2)).ownsRow B E 2 (.slice (some ⟨g, 0, none⟩) n n) n (cellsI (xs.take (k + 1)) ++ zs') := by
  have h1 := (hown.stored (k * 2) (.string xs[k].1)).1
  have h2 := (h1.stored (k * 2 + 1) (.int .i64 xs[k].2)).1
  refine ⟨zs.drop 2, by simp [hz]; omega, ?_⟩
  have hlen : (cellsI (xs.take k)).length = k * 2 := by rw [cellsI_length]; simp; omega
  match zs, hz with
  | [], hz => simp at hz; omega
  | [_], hz => simp at hz; omega
  | z0 :: z1 :: r, hz =>
    have e : ((cellsI (xs.take k) ++ z0 :: z1 :: r).set (k * 2) (.string xs[k].1)).set (k * 2 + 1) (.int .i64 xs[k].2) = cellsI (xs.take (k + 1)) ++ r := by
      rw [List.set_append_right _ _ (by omega), List.set_append_right _ _ (by omega), hlen, Nat.sub_self, show k * 2 + 1 - k * 2 = 1 from by omega, List.take_succ_eq_append_getElem hlt, cellsI_snoc]
      simp
    rw [e] at h2
    exact h2

theorem row_cell {w : World} {B E S g n c m : Nat} {xs : List Value} (h : w.ownsRow B E S (.slice (some ⟨g, 0, none⟩) n c) m xs) {j : Nat} (hj : j < m * S) : ∃ u, w.cell? ⟨g, j, none⟩ = some u := by
  rcases h.2 with ⟨h', _⟩ | ⟨g', cap', cur, h', hb, hg, hnc, hcm, hcs, htake⟩
  · simp at h'
  · simp only [Value.slice.injEq, Option.some.injEq, Addr.mk.injEq, and_true] at h'
    obtain ⟨rfl, rfl, rfl⟩ := h'
    have hj' : j < cur.size := by rw [hcs]; exact Nat.lt_of_lt_of_le hj (Nat.mul_le_mul_right _ hnc)
    exact ⟨cur[j], by rw [cell_of_row w g j cur E (0, 0) hg]; simp [hj']⟩

def FreshI (xs : List Itm) (w : World) (e : Ending) (w' : World) : Prop :=
  ∃ v, e = .returned v ∧ OwnI 66 w' w.heap.size v xs ∧ Below w.heap.size w w'

set_option maxHeartbeats 400000 in
theorem toItemS_any (v : Value) (xs : List Itm) (w : World) (h : Items w v xs) (hn : xs.length ≤ 1048576) :
    Calls Try.prog 17 #[v] w (FreshI xs w) := by
  obtain ⟨ao, cap, rfl, hlc, hcm, hok, hcell⟩ := h
  obtain ⟨i0, hi, hz0, hz1, hz2⟩ := info_parts Try.infoI
  have hbytes : i0.bytes * xs.length ≤ 281474976710656 := by rw [hz2]; omega
  go_enter Try.func17, Try.ntmps17
  go_wp2_with (at_make; refine wpList_make_full _ rfl _ _ 34 rfl w.heap.size 66 i0 _ 2 Try.underlying34 hi hz0 hz1 _ _ _ _ xs.length rfl rfl rfl rfl hbytes (by unfold maxLen; omega) (Nat.le_refl _) ?_; intro w0 hown0 hgrow0)
  have hsz0 := hgrow0.size
  have hb0 : Below w.heap.size w w0 := (Below.refl _ _).grown hgrow0 (Nat.le_refl _) (fun k hk => by cases hk)
  have hlt0 := (hown0.lt w.heap.size rfl).2
  go_loopw [4] (fun i wr => ∃ (k : Nat) (zs : List Value), k ≤ xs.length ∧ i = .int .i64 k ∧ zs.length = (xs.length - k) * 2 ∧
      wr.ownsRow w.heap.size 66 2 (.slice (some ⟨w.heap.size, 0, none⟩) xs.length xs.length) xs.length (cellsI (xs.take k) ++ zs) ∧ w.heap.size < wr.heap.size ∧ Below w.heap.size w wr)
    (fun i _ => xs.length - (intOf i).toNat)
  case atStart => exact ⟨0, _, Nat.zero_le _, rfl, by simp [size_madeCells], hown0, hlt0, hb0⟩
  case round =>
    obtain ⟨k, zs, hk, rfl, hzl, hown, hltw, hbl⟩ := hrel
    have hzl := Lib.hid hzl
    by_cases hlt : k < xs.length
    · obtain ⟨b, o, rfl, hb, h1, h2⟩ := hcell k hlt
      have c1 := (hbl.cell (p := ⟨b, _, none⟩) hb).trans h1
      have c2 := (hbl.cell (p := ⟨b, _, none⟩) hb).trans h2
      go_wp2_with (go_at_call 59; refine (toItem_any _ _ _).mono ?_; rintro e w1 ⟨rfl, hb1⟩; have hown1 := ownsRow_below hown hb1 (Nat.le_refl _); obtain ⟨u0, c3⟩ := row_cell hown1 (j := k * 2) (by omega); obtain ⟨u1, c4⟩ := row_cell hown1 (j := k * 2 + 1) (by omega); have f3 := hown1.frozenAt (k * 2); have f4 := hown1.frozenAt (k * 2 + 1))
      obtain ⟨zs', hzl', hown'⟩ := copy_step hlt rfl hzl.out hown1
      have hsz1 := hb1.size
      clear hown hown1 c1 c2 c3 c4 f3 f4 h1 h2
      go_roundw
      case rel => exact ⟨k + 1, zs', by omega, by go_num, hzl', hown', by simp; omega, ((hbl.trans (hb1.mono hbl.size)).setCell (Nat.le_refl _) _).setCell (Nat.le_refl _) _⟩
      case measure => simp [intOf]; omega
    · obtain rfl : k = xs.length := by omega
      obtain rfl : zs = [] := List.eq_nil_of_length_eq_zero (by rw [hzl.out]; simp)
      go_wp2
      go_ret
      exact ⟨_, rfl, ⟨by simpa using hown, hok⟩, hbl⟩

/-! ### equality -/
theorem eqLen_lit {a b : Nat} (h : a = b) : ((a : Int) != (b : Int)) = false := by simp [h]

def eqFrom (k : Nat) (xs ys : List Itm) : Bool := decide (xs.drop k = ys.drop k)
def eqIB (x y : Itm) : Bool := decide (x = y)
theorem eqFrom_step {k : Nat} {xs ys : List Itm} (h1 : k < xs.length) (h2 : k < ys.length) : eqFrom k xs ys = (eqIB xs[k] ys[k] && eqFrom (k + 1) xs ys) := by
  unfold eqFrom eqIB
  have e1 := List.drop_eq_getElem_cons h1
  have e2 := List.drop_eq_getElem_cons h2
  rw [e1, e2, Bool.eq_iff_iff, Bool.and_eq_true, decide_eq_true_eq, decide_eq_true_eq, decide_eq_true_eq, List.cons.injEq]

theorem eqItem_b (x y : Itm) (w : World) :
    Calls Try.prog 63 #[.agg #[.string x.1, .int .i64 x.2], .agg #[.string y.1, .int .i64 y.2]] w fun e w' =>
      e = .returned (.bool (eqIB x y)) ∧ Below w.heap.size w w' := by
  refine (eqItem_any x.1 y.1 x.2 y.2 w).mono ?_
  rintro e w' ⟨rfl, hb⟩
  refine ⟨ret_bool ?_, hb⟩
  unfold eqIB
  rw [Bool.eq_iff_iff, Bool.and_eq_true, decide_eq_true_eq, decide_eq_true_eq, decide_eq_true_eq, Prod.ext_iff]

set_option maxHeartbeats 400000 in
set_option maxRecDepth 100000 in
theorem eqItemS_any (v u : Value) (xs ys : List Itm) (w : World) (h : Items w v xs) (h' : Items w u ys) :
    Calls Try.prog 20 #[v, u] w fun e w' => e = .returned (.bool (decide (xs = ys))) ∧ Below w.heap.size w w' := by
  obtain ⟨ao, cap, rfl, hlc, hcm, hok, hcell⟩ := h
  obtain ⟨ao', cap', rfl, hlc', hcm', hok', hcell'⟩ := h'
  go_enter Try.func20, Try.ntmps20
  by_cases hl : xs.length = ys.length
  · have hlb := eqLen_lit hl
    have HL := Lib.hid hl
    clear hl
    go_wp2
    go_loopw [5] (fun i wr => ∃ k : Nat, k ≤ xs.length ∧ i = .int .i64 k ∧ Hid (decide (xs = ys) = eqFrom k xs ys) ∧ Below w.heap.size w wr) (fun i _ => xs.length - (intOf i).toNat)
    case atStart => exact ⟨0, Nat.zero_le _, rfl, rfl, Below.refl _ _⟩
    case round =>
      obtain ⟨k, hk, rfl, HQ, hbl⟩ := hrel
      by_cases hlt : k < xs.length
      · obtain ⟨b, o, rfl, hb, h1, h2⟩ := hcell k hlt
        have hlt' : k < ys.length := by have := HL.out; omega
        obtain ⟨b', o', rfl, hb', h1', h2'⟩ := hcell' k hlt'
        have c1 := (hbl.cell (p := ⟨b, _, none⟩) hb).trans h1
        have c2 := (hbl.cell (p := ⟨b, _, none⟩) hb).trans h2
        have c3 := (hbl.cell (p := ⟨b', _, none⟩) hb').trans h1'
        have c4 := (hbl.cell (p := ⟨b', _, none⟩) hb').trans h2'
        go_wp2_with fail
        go_still_tail 8, (by kernel_rfl)
        change wpList _ _ _ _ _ wr.drew
        go_wp2_with (go_at_call 63; refine (eqItem_b _ _ _).mono ?_; rintro e w1 ⟨rfl, hb1⟩)
        · have ht : (!eqIB xs[k] ys[k]) = true := by assumption
          go_ret
          refine ⟨ret_bool ?_, hbl.drew.trans (hb1.mono hbl.size)⟩
          rw [HQ.out, eqFrom_step hlt hlt']
          have ht' : eqIB xs[k] ys[k] = false := by simpa using ht
          rw [ht']
          rfl
        · have ht : (!eqIB xs[k] ys[k]) = false := by assumption
          have HT := Lib.hid ht
          clear c1 c2 c3 c4 h1 h2 h1' h2' ht
          go_roundw
          case rel => exact ⟨k + 1, by omega, by go_num, by have := HT.out; unfold Hid; rw [HQ.out, eqFrom_step hlt hlt']; simp at this; simp [this], hbl.drew.trans (hb1.mono hbl.size)⟩
          case measure => simp [intOf]; omega
      · obtain rfl : k = xs.length := by omega
        go_wp2
        go_ret
        refine ⟨ret_bool ?_, hbl⟩
        rw [HQ.out]
        unfold eqFrom
        rw [List.drop_length, HL.out, List.drop_length]
        rfl
  · go_wp2
    go_ret
    refine ⟨ret_bool ?_, Below.refl _ _⟩
    symm
    rw [decide_eq_false_iff_not]
    rintro rfl
    exact hl rfl
end Go.Proofs.Ytfocobgceelnoaa
