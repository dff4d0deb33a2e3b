/-
  Srt, SrtN.
-/
import Derived.Laws.Cover1
import Derived.Shelf.SlSortCmp.QuietGrown
import Derived.StillTailTactics
import Derived.Test.YtkaiekegbkoecaaP6
import Derived.Test.YtkaiekegbkoecaaP7
import Derived.Test.YtkaiekegbkoecaaP14
/-
  The library's insertion sort over items, by a comparison that looks at keys or at numbers: the row holds what sortR makes.
-/
namespace Go.Proofs.Ytkaiekegbkoecaa
open Go.RowKit

/-! ### a row of items with one in the middle -/
theorem cells_mid (Q : List Itm) (y : Itm) (T : List Itm) : (cellsI (Q ++ y :: T))[Q.length * 2]? = some (.string y.1) ∧ (cellsI (Q ++ y :: T))[Q.length * 2 + 1]? = some (.int .i64 y.2) := by
  have h := cells_at (l := Q ++ y :: T) (k := Q.length) (by simp)
  have e : (Q ++ y :: T)[Q.length]'(by simp) = y := by simp
  rw [e] at h
  exact h
theorem cells_put (Q : List Itm) (y z : Itm) (T : List Itm) : ((cellsI (Q ++ y :: T)).set (Q.length * 2) (.string z.1)).set (Q.length * 2 + 1) (.int .i64 z.2) = cellsI (Q ++ z :: T) := by
  induction Q with
  | nil => simp [cellsI]
  | cons q Q ih =>
    have e : (q :: Q).length * 2 = Q.length * 2 + 1 + 1 := by simp; omega
    rw [e, show q :: Q ++ y :: T = q :: (Q ++ y :: T) from rfl, show q :: Q ++ z :: T = q :: (Q ++ z :: T) from rfl]
    have c : ∀ L : List Itm, cellsI (q :: L) = .string q.1 :: .int .i64 q.2 :: cellsI L := fun L => by simp [cellsI]
    rw [c, c, List.set_cons_succ, List.set_cons_succ, List.set_cons_succ, List.set_cons_succ, ih]
theorem row_put {w : World} {B E g n cap : Nat} {Q T : List Itm} {y : Itm} (h : w.ownsRow B E 2 (.slice (some ⟨g, 0, none⟩) n cap) n (cellsI (Q ++ y :: T))) (z : Itm) :
    ((w.setCell ⟨g, Q.length * 2, none⟩ (.string z.1)).setCell ⟨g, Q.length * 2 + 1, none⟩ (.int .i64 z.2)).ownsRow B E 2 (.slice (some ⟨g, 0, none⟩) n cap) n (cellsI (Q ++ z :: T)) := by
  have h2 := ((h.stored (Q.length * 2) (.string z.1)).1.stored (Q.length * 2 + 1) (.int .i64 z.2)).1
  rw [cells_put] at h2
  exact h2

theorem Below.drewN {B : Nat} {w w' : World} (h : Below B w w') (n : Nat) : Below B w (w'.drewN n) := ⟨h.os, h.tape, h.output, h.size, h.block⟩

/-! ### comparisons -/
theorem isNaNs_any (s : ByteArray) (w : World) : Calls Try.prog 134 #[.string s] w fun e w' => e = .returned (.bool false) ∧ w = w' := by
  go_enter Try.func134, Try.ntmps134
  go_wp2
  go_ret
  exact ⟨by simp, rfl⟩
def cS (s t : ByteArray) : Int := if keyLt s t = true then -1 else if (!(keyLt s t || s.toList == t.toList)) = true then 1 else 0
theorem cS_lt (s t : ByteArray) : decide (cS s t < 0) = keyLt s t := by
  unfold cS
  cases keyLt s t
  · simp
    split <;> omega
  · rfl
theorem ret_i {a b : Int} (h : a = b) : Ending.returned (.int .i64 a) = .returned (.int .i64 b) := by rw [h]
theorem cmpS_any (s t : ByteArray) (w : World) : Calls Try.prog 125 #[.string s, .string t] w fun e w' => e = .returned (.int .i64 (cS s t)) ∧ w = w' := by
  go_enter Try.func125, Try.ntmps125
  go_wp2_with (go_at_call 134; refine (isNaNs_any _ _).mono ?_; rintro e w1 ⟨rfl, rfl⟩)
  all_goals go_ret
  all_goals refine ⟨ret_i ?_, rfl⟩
  all_goals unfold cS keyLt
  all_goals simp_all

def ltK (x y : Itm) : Bool := keyLt x.1 y.1
def cK (x y : Itm) : Int := cS x.1 y.1
theorem cK_lt (x y : Itm) : decide (cK x y < 0) = ltK x y := cS_lt _ _
theorem grow_two (w : World) (X Y : Go.Obj) : Sort.grow (w.drewN 0) #[X, Y] = (w.alloc X).alloc Y := by
  have e : w.heap ++ #[X, Y] = (w.heap.push X).push Y := by
    apply Array.ext'
    simp
  show ({ w.drewN 0 with heap := w.heap ++ #[X, Y] } : World) = _
  rw [e]
  rfl
theorem cmpK_any (x y : Itm) (w : World) : Calls Try.prog 124 #[.agg #[.string x.1, .int .i64 x.2], .agg #[.string y.1, .int .i64 y.2]] w fun e w' => e = .returned (.int .i64 (cK x y)) ∧ ∃ q os', w' = Sort.grow (w.drewN q) os' := by
  go_enter Try.func124, Try.ntmps124
  go_wp2_with (go_at_call 125; refine (cmpS_any _ _ _).mono ?_; rintro e w1 ⟨rfl, rfl⟩)
  go_ret
  exact ⟨rfl, 0, #[.cells #[.string x.1, .int .i64 x.2] 43 (0, 0), .cells #[.string y.1, .int .i64 y.2] 43 (0, 0)], by rw [grow_two]⟩
theorem grown_below {B : Nat} {w w' : World} (h : Below B w w') (hB : B ≤ w.heap.size) (n : Nat) (os : Array Go.Obj) : Below B w (Sort.grow (w'.drewN n) os) :=
  ⟨h.os, h.tape, h.output, by rw [Sort.size_grow]; exact Nat.le_trans h.size (Nat.le_add_right _ _), fun k hk => by
    have hk' : k < w'.heap.size := Nat.lt_of_lt_of_le (Nat.lt_of_lt_of_le hk hB) h.size
    rw [← h.block k hk]
    exact Sort.heap_grow_old (w'.drewN n) os hk'⟩
theorem grown_row {w : World} {B E S n : Nat} {v : Value} {xs : List Value} (h : w.ownsRow B E S v n xs) (k : Nat) (os : Array Go.Obj) : (Sort.grow (w.drewN k) os).ownsRow B E S v n xs :=
  ownsRow_below h (grown_below (Below.refl w.heap.size w) (Nat.le_refl _) k os) (Nat.le_refl _)

theorem setB4 {B g : Nat} {w w' : World} (h : Below B w w') (hg : B ≤ g) (a b c d : Nat) (va vb vc vd : Value) : Below B w ((((w'.drew.setCell ⟨g, a, none⟩ va).setCell ⟨g, b, none⟩ vb).setCell ⟨g, c, none⟩ vc).setCell ⟨g, d, none⟩ vd) :=
  (((h.drew.setCell hg _).setCell hg _).setCell hg _).setCell hg _
/-! ### the sort -/
theorem insK_left {lt : Itm → Itm → Bool} {Q R : List Itm} {x y : Itm} {p : List Itm} (h : insR lt p x = insR lt (Q ++ [y]) x ++ R) (hl : lt x y = true) : insR lt p x = insR lt Q x ++ y :: R := by
  rw [h, insR_snoc, if_pos hl]
  simp
theorem insK_stop {lt : Itm → Itm → Bool} {Q R : List Itm} {x y : Itm} {p : List Itm} (h : insR lt p x = insR lt (Q ++ [y]) x ++ R) (hl : lt x y = false) : insR lt p x = Q ++ [y] ++ x :: R := by
  rw [h, insR_snoc, if_neg (by simp [hl])]
  simp
theorem sortR_take {lt : Itm → Itm → Bool} {l : List Itm} {k : Nat} (h : k < l.length) : sortR lt (l.take (k + 1)) = insR lt (sortR lt (l.take k)) l[k] := by
  unfold sortR
  rw [List.take_succ_eq_append_getElem h, List.foldl_append]
  rfl
theorem sortR_length (lt : Itm → Itm → Bool) (l : List Itm) : (sortR lt l).length = l.length := by
  have : ∀ (r p : List Itm), (r.foldl (insR lt) p).length = p.length + r.length := by
    intro r
    induction r with
    | nil => intro p; simp
    | cons x r ih => intro p; rw [List.foldl_cons, ih, insR_length]; simp; omega
  unfold sortR
  rw [this]
  simp

set_option maxHeartbeats 3200000 in
set_option maxRecDepth 100000 in
theorem sortK_any {B g cap : Nat} (l : List Itm) (w : World) (h : w.ownsRow B 43 2 (.slice (some ⟨g, 0, none⟩) l.length cap) l.length (cellsI l)) (hn : l.length ≤ 1000) :
    Calls Try.prog 135 #[.slice (some ⟨g, 0, none⟩) l.length cap, .int .i64 0, .int .i64 l.length, .func (.func 124) #[] #[]] w fun e w' => e = .returned (.tuple #[]) ∧
      w'.ownsRow B 43 2 (.slice (some ⟨g, 0, none⟩) l.length cap) l.length (cellsI (sortR ltK l)) ∧ Below B w w' := by
  have hgB : B ≤ g := (own_range h rfl).1
  have hBw : B ≤ w.heap.size := Nat.le_of_lt (Nat.lt_of_le_of_lt hgB (own_range h rfl).2)
  have H0 := Lib.hid h
  clear h
  go_enter Try.func135, Try.ntmps135
  go_wp2
  go_loopw [8] (fun i wr => ∃ k : Nat, 1 ≤ k ∧ (k ≤ l.length ∨ k = 1) ∧ i = .int .i64 k ∧ Hid (wr.ownsRow B 43 2 (.slice (some ⟨g, 0, none⟩) l.length cap) l.length (cellsI (sortR ltK (l.take k) ++ l.drop k))) ∧ Hid (Below B w wr)) (fun i _ => l.length - (intOf i).toNat)
  case atStart =>
    refine ⟨1, Nat.le_refl _, .inr rfl, rfl, ?_, Below.refl _ _⟩
    have e : sortR ltK (l.take 1) ++ l.drop 1 = l := by
      cases l with
      | nil => rfl
      | cons x r => rfl
    rw [e]
    exact H0.out
  case round =>
    obtain ⟨k, hk1, hk2, rfl, HR, HB⟩ := hrel
    by_cases hlt : k < l.length
    · have HP : Hid ((sortR ltK (l.take k)).length = k) := by
        show _ = _
        rw [sortR_length]
        simp
        omega
      have HS := Lib.hid (sortR_take (lt := ltK) hlt)
      have HD := Lib.hid (List.drop_eq_getElem_cons hlt)
      generalize sortR ltK (l.take k) = p at *
      generalize hx : l[k] = x at *
      obtain ⟨T, hT⟩ : ∃ T, T = l.drop (k + 1) := ⟨_, rfl⟩
      have HT := Lib.hid hT
      have HR1 : Hid (wr.ownsRow B 43 2 (.slice (some ⟨g, 0, none⟩) l.length cap) l.length (cellsI (p ++ x :: T))) := by
        have := HR.out
        rw [HD.out, ← hT] at this
        exact this
      clear HR hx hT HD
      go_wp2_with fail
      go_loopw [9] (fun i wr' => ∃ (j : Nat) (P R : List Itm), i = .int .i64 j ∧ Hid (j = P.length) ∧ Hid (j + R.length = k) ∧ Hid (insR ltK p x = insR ltK P x ++ R) ∧ Hid (wr'.ownsRow B 43 2 (.slice (some ⟨g, 0, none⟩) l.length cap) l.length (cellsI (P ++ x :: (R ++ T)))) ∧ Hid (Below B w wr')) (fun i _ => (intOf i).toNat)
      case atStart => exact ⟨k, p, [], rfl, HP.out.symm, rfl, by unfold Hid; simp, HR1, HB⟩
      case round =>
        clear HR1 HB
        obtain ⟨j, P, R, rfl, HJ, HL, HI, HR, HB⟩ := hrel
        rcases List.eq_nil_or_concat P with hP | ⟨Q, y, hP⟩
        · subst hP
          have hj : j = 0 := HJ.out
          subst hj
          have HR2 : Hid (wr.ownsRow B 43 2 (.slice (some ⟨g, 0, none⟩) l.length cap) l.length (cellsI (sortR ltK (l.take (k + 1)) ++ l.drop (k + 1)))) := by
            unfold Hid
            rw [HS.out, HI.out, insR_nil, ← HT.out]
            exact HR.out
          clear HR
          go_wp2_with fail
          go_quiet (fail)
          go_wp2
          go_roundw
          case rel => exact ⟨k + 1, by omega, .inl (by omega), by go_num, HR2, Below.drewN HB.out _⟩
          case measure => simp [intOf]; omega
        · rw [List.concat_eq_append] at hP
          subst hP
          obtain ⟨m, hm⟩ : ∃ m, m = Q.length := ⟨_, rfl⟩
          have hj : j = m + 1 := by have := HJ.out; simp at this; omega
          have HM := Lib.hid hm
          have hjl : j < l.length := by have := HL.out; omega
          have hj0 : (0 : Int) < (j : Int) := by omega
          have hj1 : 0 < j := by omega
          have hml : m < l.length := by omega
          have ew : IntKind.i64.wrap ((j : Int) - 1) = (m : Int) := (congrArg _ (by omega)).trans (IntWalk.i64_in (m : Int) (by omega))
          have hr0 := HR.out
          rw [List.append_assoc, List.singleton_append] at hr0
          have a1 := cells_mid Q y (x :: (R ++ T))
          rw [← hm] at a1
          have a2 := cells_mid (Q ++ [y]) x (R ++ T)
          rw [← HJ.out, List.append_assoc, List.singleton_append] at a2
          have c1 := row_cell_at hr0 a1.1
          have c2 := row_cell_at hr0 a1.2
          have c3 := row_cell_at hr0 a2.1
          have c4 := row_cell_at hr0 a2.2
          have HR0 := Lib.hid hr0
          have hgl := (own_range hr0 rfl).2
          have HJJ := Lib.hid hj
          clear hr0 a1 a2 hm hj HR
          have d1 := cell_grown (a := ⟨g, m * 2, none⟩) hgl c1
          have d2 := cell_grown (a := ⟨g, m * 2 + 1, none⟩) hgl c2
          have d3 := cell_grown (a := ⟨g, j * 2, none⟩) hgl c3
          have d4 := cell_grown (a := ⟨g, j * 2 + 1, none⟩) hgl c4
          have hcg : ∀ n' os', Calls Try.prog 124 #[.agg #[.string x.1, .int .i64 x.2], .agg #[.string y.1, .int .i64 y.2]] (Sort.grow (wr.drewN n') os') fun e w' => e = .returned (.int .i64 (cK x y)) ∧ ∃ q os'', w' = Sort.grow ((Sort.grow (wr.drewN n') os').drewN q) os'' := fun n' os' => cmpK_any x y _
          have HC := Lib.hid (cK_lt x y)
          have mixed : Try.prog.follows .mixedOrders = true := by kernel_rfl
          clear c1 c2 c3 c4
          cases hc : decide (cK x y < 0)
          all_goals
            have HX := Lib.hid hc
            go_wp2_with fail
            go_quiet_grown (first | (go_at_call 124; refine Calls.grown_of (hcg _ _)))
            clear hcg d1 d2 d3 d4
          · have HI2 := Lib.hid (insK_stop HI.out (HC.out.symm.trans HX.out))
            have HR2 : Hid ((Sort.grow (wr.drewN nq) osq).ownsRow B 43 2 (.slice (some ⟨g, 0, none⟩) l.length cap) l.length (cellsI (sortR ltK (l.take (k + 1)) ++ l.drop (k + 1)))) := by
              unfold Hid
              rw [HS.out, HI2.out, ← HT.out]
              have := grown_row HR0.out nq osq
              rw [List.append_assoc, List.append_assoc]
              exact this
            have HB2 := Lib.hid (grown_below HB.out hBw nq osq)
            clear HR0 HB
            go_wp2
            go_roundw
            case rel => exact ⟨k + 1, by omega, .inl (by omega), by go_num, HR2, HB2⟩
            case measure => simp [intOf]; omega
          · have HI2 := Lib.hid (insK_left HI.out (HC.out.symm.trans HX.out))
            have hr3 := grown_row HR0.out nq osq
            have HB3 := Lib.hid (grown_below HB.out hBw nq osq)
            generalize Sort.grow (wr.drewN nq) osq = w3 at *
            have a1 := cells_mid Q y (x :: (R ++ T))
            rw [← HM.out] at a1
            have a2 := cells_mid (Q ++ [y]) x (R ++ T)
            rw [← HJ.out, List.append_assoc, List.singleton_append] at a2
            have c1 := row_cell_at hr3 a1.1
            have c2 := row_cell_at hr3 a1.2
            have c3 := row_cell_at hr3 a2.1
            have c4 := row_cell_at hr3 a2.2
            have f1 := hr3.frozenAt (m * 2)
            have f2 := hr3.frozenAt (m * 2 + 1)
            have f3 := hr3.frozenAt (j * 2)
            have f4 := hr3.frozenAt (j * 2 + 1)
            have HR3 := Lib.hid hr3
            have hr3' : w3.ownsRow B 43 2 (.slice (some ⟨g, 0, none⟩) l.length cap) l.length (cellsI ((Q ++ [y]) ++ x :: (R ++ T))) := by
              rw [List.append_assoc, List.singleton_append]
              exact hr3
            have hr4 := row_put hr3' y
            rw [← HJ.out] at hr4
            have e4 : (Q ++ [y]) ++ y :: (R ++ T) = Q ++ y :: (y :: (R ++ T)) := by simp
            rw [e4] at hr4
            have b1 := cells_mid Q y (y :: (R ++ T))
            rw [← HM.out] at b1
            have c5 := row_cell_at hr4 b1.1
            have c6 := row_cell_at hr4 b1.2
            have f5 := hr4.frozenAt (m * 2)
            have f6 := hr4.frozenAt (m * 2 + 1)
            have h3 := (hr4.stored (m * 2) (.string x.1)).1
            have c7 := row_cell_at h3 (j := m * 2 + 1) (by rw [List.getElem?_set_ne (by omega)]; exact b1.2)
            have f7 := h3.frozenAt (m * 2 + 1)
            have hr5 := row_put hr4 x
            rw [← HM.out] at hr5
            have HR5 := Lib.hid hr5
            clear HR0 HB a1 a2 hr3 hr3' hr4 hr5 h3 b1 e4
            go_wp2_with fail
            go_region
            all_goals go_wp2
            all_goals go_roundw
            case rel => exact ⟨m, Q, y :: R, rfl, HM, by have h1 := HL.out; have h2 := HJJ.out; unfold Hid; simp; omega, HI2, HR5, setB4 HB3.out hgB _ _ _ _ _ _ _ _⟩
            case measure => simp [intOf]; have := HJJ.out; omega
    · have e : sortR ltK (l.take k) ++ l.drop k = sortR ltK l := by
        rw [List.take_of_length_le (by omega), List.drop_eq_nil_of_le (by omega), List.append_nil]
      have HR2 : Hid (wr.ownsRow B 43 2 (.slice (some ⟨g, 0, none⟩) l.length cap) l.length (cellsI (sortR ltK l))) := by
        unfold Hid
        rw [← e]
        exact HR.out
      clear e HR
      go_wp2
      go_end0
      exact ⟨rfl, HR2.out, HB.out⟩
end Go.Proofs.Ytkaiekegbkoecaa
/-
  The library's insertion sort over items by their numbers, the greatest one first.
-/
namespace Go.Proofs.Ytkaiekegbkoecaa
open Go.RowKit
def cI (s t : Int) : Int := if s < t then -1 else if s > t then 1 else 0
theorem cI_lt (s t : Int) : decide (cI s t < 0) = decide (s < t) := by
  unfold cI
  by_cases h : s < t
  · simp [h]
  · rw [if_neg h, decide_eq_false h]
    split <;> simp
def ltN (x y : Itm) : Bool := decide (y.2 < x.2)
def cN (x y : Itm) : Int := cI y.2 x.2
theorem cN_lt (x y : Itm) : decide (cN x y < 0) = ltN x y := cI_lt _ _
end Go.Proofs.Ytkaiekegbkoecaa
