/-
  The program's functions that compare lists of items, and the smaller and the greater counts.
-/
import Derived.Test.YtloalakpkjbeaaaImpl1
namespace Go.Proofs.Ytloalakpkjbeaaa
open Go.RowKit

/-- K and the block of a row. -/
def withRow (K : Nat → Prop) (v : Value) (k : Nat) : Prop := K k ∨ v.ownBlock = some k

theorem withRow_lt {K : Nat → Prop} {w : World} {B : Nat} {v : Value} {l : List Itm} (hK : ∀ k, K k → k < w.heap.size) (h : OwnI 39 w B v l) : ∀ k, withRow K v k → k < w.heap.size := by
  rintro k (hk | hk)
  · exact hK k hk
  · exact (h.1.lt k hk).2

theorem inRow {K : Nat → Prop} {w : World} {B : Nat} {v : Value} {l : List Itm} (_h : OwnI 39 w B v l) : InK (withRow K v) v := by
  intro a n c e _
  subst e
  exact .inr rfl

theorem tally_row {K : Nat → Prop} {w : World} {B t : Nat} {v : Value} {l m : List Itm} (h : TallyAt K w t l) (hr : OwnI 39 w B v m) : TallyAt (withRow K v) w t l := by
  obtain ⟨u, mb, hb, h1, h2, h3, h4, h5⟩ := h
  refine ⟨u, mb, hb, ?_, ?_, ?_, h4, h5⟩
  · rintro (hk | hk)
    · exact h1 hk
    · exact own_ne hr.1 hb (by decide) hk
  · rintro (hk | hk)
    · exact h2 hk
    · exact own_map_ne hr.1 h5 hk
  · rintro g hg (hk | hk)
    · exact h3 g hg hk
    · rcases h4.2 with ⟨rfl, _⟩ | ⟨g', cap', cur, rfl, _, hc, _⟩
      · simp [Value.ownBlock] at hg
      · simp [Value.ownBlock] at hg
        subst hg
        exact own_ne hr.1 hc (by decide) hk

theorem addAll_leD (b : List Itm) (m D : Int) (hb : ∀ x ∈ b, -D ≤ x.2 * m ∧ x.2 * m ≤ D) : ∀ (t : List Itm) (M : Int), cntLe t M → cntLe (addAll t b m) (M + b.length * D) := by
  induction b with
  | nil => intro t M h; simpa [addAll] using h
  | cons x r ih =>
    intro t M h
    have hx := hb x (by simp)
    have h1 := ih (fun y hy => hb y (by simp [hy])) _ _ (cntLe_put (D := D) (d := x.2 * m) h x.1 (by omega) (by omega))
    have e : addAll t (x :: r) m = addAll (putI t x.1 (cnt t x.1 + x.2 * m)) r m := rfl
    have e2 : M + ((x :: r).length : Int) * D = M + D + (r.length : Int) * D := by
      rw [List.length_cons, Int.natCast_add, Int.add_mul]
      omega
    rw [e, e2]
    exact h1

theorem above_small {a b : List Itm} (ha : validI a = true) (hb : validI b = true) (m : Int) (hm : m = -1 ∨ m = 1) : smallI (posI (sumL a b (-1))) m := by
  have hna := valid_num ha
  have hnb := valid_num hb
  have hla := valid_len ha
  have hlb := valid_len hb
  have h1 := addAll_leD a 1 9999 (fun x hx => by have := hna x hx; omega) [] 0 cntLe_nil
  have h2 := addAll_leD b (-1) 9999 (fun x hx => by have := hnb x hx; omega) _ _ h1
  have l1 := addAll_length a 1 []
  have l2 := addAll_length b (-1) (addAll [] a 1)
  refine ⟨?_, fun x hx => ?_⟩
  · have := List.length_filter_le (fun x : Itm => decide (0 < x.2)) (sumL a b (-1))
    unfold posI
    unfold sumL at this ⊢
    simp at l1
    omega
  · have hx' := (List.mem_filter.1 hx).1
    obtain ⟨k, hk, rfl⟩ := List.mem_iff_getElem.1 hx'
    have h3 := h2 (sumL a b (-1))[k].1
    have e := cnt_at hk (sumL_uniq a b (-1))
    unfold sumL at e h3 ⊢
    rw [e] at h3
    rcases hm with rfl | rfl <;> omega

theorem CountOf_any (va : Value) (a : List Itm) (s : ByteArray) (w : World) (ha : Items w va a) (hs : s.size ≤ 9223372036854775807) :
    Calls Try.prog 20 #[va, .string s] w fun e w' => e = .returned (.int .i64 (if validI a = true then cnt (sumL a [] 1) s else 0)) ∧ Below w.heap.size w w' := by
  go_enter Try.func20, Try.ntmps20
  cases hv : validI a
  · have H := Lib.hid hv
    clear hv
    go_wp2_with fail
    refine (Vi_v _ ha H.out).mono ?_
    rintro e w1 ⟨rfl, hb1⟩
    go_wp2
    go_ret
    exact ⟨rfl, hb1⟩
  · have H := Lib.hid hv
    clear hv
    have hsa := valid_small (m := 1) H.out (by omega) (by omega)
    go_wp2_with fail
    refine (Vi_v _ ha H.out).mono ?_
    rintro e w1 ⟨rfl, hb1⟩
    have ha1 := ha.mono hb1 (Nat.le_refl _)
    go_wp2_with fail
    refine (sumOf_any (· < w1.heap.size) va (.slice none 0 0) a [] 1 w1 (fun _ h => h) ha1 (Items.nil _) ha1.inK (InK.nil _) hsa (small_nil 1)).mono ?_
    rintro e w2 ⟨t, rfl, hT, hk2⟩
    have h12 : Below w1.heap.size w1 w2 := hk2.below (fun _ h => h)
    obtain ⟨v, mb, hbt, _, _, _, _, hmap⟩ := hT
    have c1 := two_cell1 hbt
    clear hk2 ha ha1 hbt
    go_wp2_with (at_lookup; refine wpl_lookN _ rfl _ _ 54 rfl hmap Try.underlying54 Try.underlying3 (zeroN _) rfl _ rfl hs ?_)
    go_ret
    exact ⟨rfl, hb1.trans (h12.mono hb1.size)⟩

theorem MeetCounts_any (va vb : Value) (a b : List Itm) (w : World) (ha : Items w va a) (hb : Items w vb b) :
    Calls Try.prog 38 #[va, vb] w (NewI (if (validI a && validI b) = true then posI (sumL a (posI (sumL a b (-1))) (-1)) else []) w) := by
  go_enter Try.func38, Try.ntmps38
  cases hv : (validI a && validI b)
  · have H := Lib.hid hv
    clear hv
    go_wp2_with fail
    refine (bothValid_v _ ha hb H.out).mono ?_
    rintro e w1 ⟨rfl, hb1⟩
    go_wp2
    go_ret
    exact ⟨_, rfl, OwnI_nil _ _ _, hb1⟩
  · have H := Lib.hid hv
    clear hv
    have HV := both_yes H.out
    have hsa := valid_small (m := 1) HV.1 (by omega) (by omega)
    have hsab := above_small HV.1 HV.2
    go_wp2_with fail
    refine (bothValid_v _ ha hb H.out).mono ?_
    rintro e w1 ⟨rfl, hb1⟩
    have ha1 := ha.mono hb1 (Nat.le_refl _)
    have hb1' := hb.mono hb1 (Nat.le_refl _)
    go_wp2_with fail
    refine (newTally_any (· < w1.heap.size) w1 (fun _ h => h)).mono ?_
    rintro e w2 ⟨t, rfl, hT, hk2⟩
    go_wp2_with fail
    refine (positive_any (· < w1.heap.size) t [] va vb a b (-1) w2 (fun _ h => Nat.lt_of_lt_of_le h hk2.size) hT (ha1.keeps hk2 ha1.inK) (hb1'.keeps hk2 hb1'.inK) ha1.inK hb1'.inK hsa (valid_small HV.2 (by omega) (by omega))).mono ?_
    rintro e w3 ⟨v3, rfl, ho3, hT3, hk3⟩
    have h13 := hk2.trans hk3
    have ha3 := ha1.keeps h13 ha1.inK
    go_wp2_with fail
    refine (positive_any (withRow (· < w1.heap.size) v3) t _ va v3 a _ (-1) w3 (withRow_lt (fun _ h => Nat.lt_of_lt_of_le h h13.size) ho3) (tally_row hT3 ho3) ha3 ho3.items (ha1.inK.mono fun _ h => .inl h) (inRow ho3) hsa (hsab (-1) (.inl rfl))).mono ?_
    rintro e w4 ⟨v4, rfl, ho4, hT4, hk4⟩
    have h14 : Below w1.heap.size w1 w4 := (h13.trans (hk4.mono fun _ h => .inl h)).below (fun _ h => h)
    go_wp2
    go_ret
    exact ⟨_, rfl, ho4.base (Nat.le_trans hb1.size h13.size), hb1.trans (h14.mono hb1.size)⟩

theorem JoinCounts_any (va vb : Value) (a b : List Itm) (w : World) (ha : Items w va a) (hb : Items w vb b) :
    Calls Try.prog 43 #[va, vb] w (NewI2 (if (validI a && validI b) = true then chkI (posI (sumL a (posI (sumL b a (-1))) 1)) else []) ((validI a && validI b) && validI (posI (sumL a (posI (sumL b a (-1))) 1))) w) := by
  go_enter Try.func43, Try.ntmps43
  cases hv : (validI a && validI b)
  · have H := Lib.hid hv
    clear hv
    go_wp2_with fail
    refine (bothValid_v _ ha hb H.out).mono ?_
    rintro e w1 ⟨rfl, hb1⟩
    go_wp2
    go_ret2
    exact ⟨_, rfl, OwnI_nil _ _ _, hb1⟩
  · have H := Lib.hid hv
    clear hv
    have HV := both_yes H.out
    have hsa := valid_small (m := 1) HV.1 (by omega) (by omega)
    have hsb := valid_small (m := 1) HV.2 (by omega) (by omega)
    have hsab := above_small HV.2 HV.1
    go_wp2_with fail
    refine (bothValid_v _ ha hb H.out).mono ?_
    rintro e w1 ⟨rfl, hb1⟩
    have ha1 := ha.mono hb1 (Nat.le_refl _)
    have hb1' := hb.mono hb1 (Nat.le_refl _)
    go_wp2_with fail
    refine (newTally_any (· < w1.heap.size) w1 (fun _ h => h)).mono ?_
    rintro e w2 ⟨t, rfl, hT, hk2⟩
    go_wp2_with fail
    refine (positive_any (· < w1.heap.size) t [] vb va b a (-1) w2 (fun _ h => Nat.lt_of_lt_of_le h hk2.size) hT (hb1'.keeps hk2 hb1'.inK) (ha1.keeps hk2 ha1.inK) hb1'.inK ha1.inK hsb (valid_small HV.1 (by omega) (by omega))).mono ?_
    rintro e w3 ⟨v3, rfl, ho3, hT3, hk3⟩
    have h13 := hk2.trans hk3
    have ha3 := ha1.keeps h13 ha1.inK
    go_wp2_with fail
    refine (positive_any (withRow (· < w1.heap.size) v3) t _ va v3 a _ 1 w3 (withRow_lt (fun _ h => Nat.lt_of_lt_of_le h h13.size) ho3) (tally_row hT3 ho3) ha3 ho3.items (ha1.inK.mono fun _ h => .inl h) (inRow ho3) hsa (hsab 1 (.inr rfl))).mono ?_
    rintro e w4 ⟨v4, rfl, ho4, hT4, hk4⟩
    have h14 : Below w1.heap.size w1 w4 := (h13.trans (hk4.mono fun _ h => .inl h)).below (fun _ h => h)
    go_wp2_with fail
    refine (checked_any _ ho4).mono ?_
    rintro e w5 ⟨v5, rfl, ho5, hb5⟩
    go_wp2
    go_ret2
    exact ⟨_, rfl, ho5.base (Nat.le_trans hb1.size h13.size), hb1.trans ((h14.trans (hb5.mono h14.size)).mono hb1.size)⟩

theorem WithinCounts_any (va vb : Value) (a b : List Itm) (w : World) (ha : Items w va a) (hb : Items w vb b) :
    Calls Try.prog 41 #[va, vb] w fun e w' => e = .returned (.bool ((validI a && validI b) && decide ((posI (sumL a b (-1))).length = 0))) ∧ Below w.heap.size w w' := by
  go_enter Try.func41, Try.ntmps41
  cases hv : (validI a && validI b)
  · have H := Lib.hid hv
    clear hv
    go_wp2_with fail
    refine (bothValid_v _ ha hb H.out).mono ?_
    rintro e w1 ⟨rfl, hb1⟩
    go_wp2
    go_ret
    exact ⟨rfl, hb1⟩
  · have H := Lib.hid hv
    clear hv
    have HV := both_yes H.out
    go_wp2_with fail
    refine (bothValid_v _ ha hb H.out).mono ?_
    rintro e w1 ⟨rfl, hb1⟩
    have ha1 := ha.mono hb1 (Nat.le_refl _)
    have hb1' := hb.mono hb1 (Nat.le_refl _)
    go_wp2_with fail
    refine (newTally_any (· < w1.heap.size) w1 (fun _ h => h)).mono ?_
    rintro e w2 ⟨t, rfl, hT, hk2⟩
    go_wp2_with fail
    refine (positive_any (· < w1.heap.size) t [] va vb a b (-1) w2 (fun _ h => Nat.lt_of_lt_of_le h hk2.size) hT (ha1.keeps hk2 ha1.inK) (hb1'.keeps hk2 hb1'.inK) ha1.inK hb1'.inK (valid_small HV.1 (by omega) (by omega)) (valid_small HV.2 (by omega) (by omega))).mono ?_
    rintro e w3 ⟨v3, rfl, ho3, hT3, hk3⟩
    have h13 : Below w1.heap.size w1 w3 := (hk2.trans hk3).below (fun _ h => h)
    obtain ⟨ao, cap, rfl, _, _⟩ := own_slice ho3.1
    clear ho3 hT3 hT hk2 hk3 ha hb ha1 hb1'
    go_wp2
    go_ret
    refine ⟨ret_bool ?_, hb1.trans (h13.mono hb1.size)⟩
    rw [Bool.eq_iff_iff]
    simp

theorem nzI_not (l : List Itm) : (l.filter fun x => !decide (x.2 = 0)) = nzI l := List.filter_congr fun x _ => by simp

theorem SameCounts_any (va vb : Value) (a b : List Itm) (w : World) (ha : Items w va a) (hb : Items w vb b) :
    Calls Try.prog 33 #[va, vb] w fun e w' => e = .returned (.bool ((validI a && validI b) && decide ((nzI (sumL a b (-1))).length = 0))) ∧ Below w.heap.size w w' := by
  go_enter Try.func33, Try.ntmps33
  cases hv : (validI a && validI b)
  · have H := Lib.hid hv
    clear hv
    go_wp2_with fail
    refine (bothValid_v _ ha hb H.out).mono ?_
    rintro e w1 ⟨rfl, hb1⟩
    go_wp2
    go_ret
    exact ⟨rfl, hb1⟩
  · have H := Lib.hid hv
    clear hv
    have HV := both_yes H.out
    have hsa := valid_small (m := 1) HV.1 (by omega) (by omega)
    have hsb := valid_small (m := -1) HV.2 (by omega) (by omega)
    have hok := sumL_ok hsa hsb ha.ok hb.ok
    have hlen := sumL_length hsa hsb
    go_wp2_with fail
    refine (bothValid_v _ ha hb H.out).mono ?_
    rintro e w1 ⟨rfl, hb1⟩
    have ha1 := ha.mono hb1 (Nat.le_refl _)
    have hb1' := hb.mono hb1 (Nat.le_refl _)
    go_wp2_with fail
    refine (sumOf_any (· < w1.heap.size) va vb a b (-1) w1 (fun _ h => h) ha1 hb1' ha1.inK hb1'.inK hsa hsb).mono ?_
    rintro e w2 ⟨t, rfl, hT, hk2⟩
    go_wp2_with fail
    refine (keepNz_any (· < w1.heap.size) t _ (fun n => decide (n ≠ 0)) w2 (fun _ h => Nat.lt_of_lt_of_le h hk2.size) hT (by omega) hok isNotZero_any).mono ?_
    rintro e w3 ⟨rfl, hT3, hk3⟩
    have h13 : Below w1.heap.size w1 w3 := (hk2.trans hk3).below (fun _ h => h)
    obtain ⟨v, mb, hbt, _, _, _, _, hmap⟩ := hT3
    have c1 := two_cell1 hbt
    clear hT hk2 hk3 ha hb ha1 hb1' hok hbt
    go_wp2_with (at_len; refine wpl_lenN _ rfl _ 54 rfl hmap Try.underlying54 rfl ?_)
    go_ret
    refine ⟨ret_bool ?_, hb1.trans (h13.mono hb1.size)⟩
    have e : ∀ n : Nat, ((n : Int) == 0) = (true && decide (n = 0)) := fun n => by rw [Bool.eq_iff_iff]; simp
    rw [nzI_not]
    exact e _

end Go.Proofs.Ytloalakpkjbeaaa
