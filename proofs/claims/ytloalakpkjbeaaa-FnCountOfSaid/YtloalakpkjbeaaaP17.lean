/-
  ImplO, ImplP.
-/
import Derived.Test.YtloalakpkjbeaaaP12
import Derived.Test.YtloalakpkjbeaaaP16
/-
  The program's functions over items in order: put, dropped, moved, popped, renamed, laid over.
-/
namespace Go.Proofs.Ytloalakpkjbeaaa
open Go.RowKit

theorem drpL_no {xs : List Itm} {s : ByteArray} (h : okG xs s = false) : drpL xs s = [] := by unfold drpL; rw [h]; rfl
theorem drpL_yes {xs : List Itm} {s : ByteArray} (h : okG xs s = true) : drpL xs s = delI xs s := by unfold drpL; rw [h]; rfl
theorem movL_no {xs : List Itm} {s : ByteArray} {l : Bool} (h : okG xs s = false) : movL xs s l = [] := by unfold movL; rw [h]; rfl
theorem movL_yes {xs : List Itm} {s : ByteArray} {l : Bool} (h : okG xs s = true) : movL xs s l = movI xs s l := by unfold movL; rw [h]; rfl
theorem okG_yes {xs : List Itm} {s : ByteArray} (h : okG xs s = true) : validI xs = true ∧ hasI xs s = true := by unfold okG at h; simpa using h
theorem ring_len {p q : List Nod} {a : Nat} {x : Itm} {xs : List Itm} (h : its (p ++ (a, x) :: q) = xs) (hv : validI xs = true) : (p ++ (a, x) :: q).length ≤ 8 := by
  have := valid_len hv
  rw [← h, its_len] at this
  exact this

theorem okI_pair {s : ByteArray} {n : Int} (hs : s.size ≤ 9223372036854775807) (hn : -9223372036854775808 ≤ n ∧ n ≤ 9223372036854775807) : okI [(s, n)] := fun x hx => by
  rw [List.mem_singleton.1 hx]
  exact ⟨hs, hn.1, hn.2⟩

end Go.Proofs.Ytloalakpkjbeaaa
/-
  The program's place of a key, its item, a default.
-/
namespace Go.Proofs.Ytloalakpkjbeaaa
open Go.RowKit

set_option maxHeartbeats 800000 in
theorem IndexFunc_any (v : Value) (xs : List Itm) (s : ByteArray) (kb : Nat) (w : World) (h : Items w v xs) (hkb : w.heap[kb]? = some (.cells #[.string s] 9 (0, 0))) :
    Calls Try.prog 90 #[v, .func (.func 98) #[] #[.pointer (some ⟨kb, 0, none⟩)]] w fun e w' => e = .returned (.int .i64 (plcI xs s 0)) ∧ Below w.heap.size w w' := by
  obtain ⟨ao, cap, rfl, hlc, hcm, hok, hcell⟩ := h
  have HKB := Lib.hid hkb
  have hkl := lt_of_block hkb
  clear hkb
  go_enter Try.func90, Try.ntmps90
  go_wp2
  go_loopw [8] (fun i wr => ∃ k : Nat, k ≤ xs.length ∧ i = .int .i64 k ∧ Hid (plcI xs s 0 = plcI (xs.drop k) s k) ∧ Hid (Below w.heap.size w wr)) (fun i _ => xs.length - (intOf i).toNat)
  case atStart => exact ⟨0, Nat.zero_le _, rfl, rfl, Below.refl _ _⟩
  case round =>
    obtain ⟨k, hk, rfl, HP, HB⟩ := hrel
    by_cases hlt : k < xs.length
    · obtain ⟨b, o, rfl, hb, h1, h2⟩ := hcell k hlt
      have c1 := (HB.out.cell (p := ⟨b, _, none⟩) hb).trans h1
      have c2 := (HB.out.cell (p := ⟨b, _, none⟩) hb).trans h2
      have HKR := Lib.hid ((HB.out.block kb hkl).trans HKB.out)
      clear h1 h2
      cases hxs : decide (xs[k].1 = s)
      all_goals
        have HX := Lib.hid hxs
        clear hxs
        go_wp2_with fail
        refine (hasKey1_v _ HKR.out HX.out).mono ?_
        rintro e w2 ⟨rfl, hb2⟩
        have HB2 := Lib.hid (HB.out.trans (hb2.mono HB.out.size))
        clear hb2 c1 c2
      · have HP2 : Hid (plcI xs s 0 = plcI (xs.drop (k + 1)) s (k + 1)) := by
          unfold Hid
          rw [HP.out, List.drop_eq_getElem_cons hlt]
          show (if xs[k].1 = s then _ else _) = _
          rw [if_neg (by simpa using HX.out)]
        clear HP HB
        go_wp2
        go_roundw
        case rel => exact ⟨k + 1, by omega, by go_num, HP2, HB2⟩
        case measure => simp [intOf]; omega
      · have HP2 : Hid (plcI xs s 0 = k) := by
          unfold Hid
          rw [HP.out, List.drop_eq_getElem_cons hlt]
          show (if xs[k].1 = s then _ else _) = _
          rw [if_pos (by simpa using HX.out)]
        go_wp2
        go_ret
        exact ⟨ret_int HP2.out.symm, HB2.out⟩
    · obtain rfl : k = xs.length := by omega
      have HP2 : Hid (plcI xs s 0 = -1) := by
        unfold Hid
        rw [HP.out, List.drop_length]
        rfl
      go_wp2
      go_ret
      exact ⟨ret_int HP2.out.symm, HB.out⟩

theorem PlaceOf_any (v : Value) (xs : List Itm) (s : ByteArray) (w : World) (h : Items w v xs) :
    Calls Try.prog 65 #[v, .string s] w (RetQ (.int .i64 (plcN xs s)) w) := by
  go_enter Try.func65, Try.ntmps65
  cases hv : validI xs
  all_goals
    have HV := Lib.hid hv
    clear hv
    go_wp2_with fail
    refine (Vi_v _ h HV.out).mono ?_
    rintro e w1 ⟨rfl, hb1⟩
  · go_wp2
    go_ret
    exact ⟨ret_int (by unfold plcN; rw [HV.out]; rfl), hb1⟩
  · have hb2 : Below w1.heap.size w1 (w1.alloc (.cells #[.string s] 9)) := (Below.refl _ _).alloc (Nat.le_refl _) _
    have HB2 := Lib.hid hb2
    clear hb2
    go_wp2_with fail
    refine (hasKey_any s w1).mono ?_
    rintro e w2 ⟨rfl, rfl⟩
    go_wp2_with fail
    refine (IndexFunc_any _ _ s _ _ ((h.mono hb1 (Nat.le_refl _)).mono HB2.out (Nat.le_refl _)) (heap_alloc_new _ _)).mono ?_
    rintro e w3 ⟨rfl, hb3⟩
    have HP := Lib.hid (show plcN xs s = plcI xs s 0 by unfold plcN; rw [HV.out]; rfl)
    go_wp2
    go_ret
    exact ⟨ret_int HP.out.symm, hb1.trans ((HB2.out.trans (hb3.mono HB2.out.size)).mono hb1.size)⟩

theorem plcI_no {l : List Itm} {s : ByteArray} : ∀ i, hasI l s = false → plcI l s i = -1 := by
  induction l with
  | nil => intro i _; rfl
  | cons x r ih =>
    intro i h
    simp only [hasI, Bool.or_eq_false_iff, decide_eq_false_iff_not] at h
    unfold plcI
    rw [if_neg h.1]
    exact ih _ h.2
theorem plcI_yes {l : List Itm} {s : ByteArray} : ∀ i : Nat, hasI l s = true → ∃ k, ∃ h : k < l.length, plcI l s i = (k + i : Nat) ∧ l[k] = (s, cnt l s) := by
  induction l with
  | nil => intro i h; simp [hasI] at h
  | cons x r ih =>
    intro i h
    by_cases hx : x.1 = s
    · exact ⟨0, by simp, by simp [plcI, hx], by simp [cnt, ← hx]⟩
    · simp only [hasI, hx, decide_false, Bool.false_or] at h
      obtain ⟨k, hk, h1, h2⟩ := ih (i + 1) h
      refine ⟨k + 1, by simpa using hk, ?_, by simpa [cnt, hx] using h2⟩
      simp only [plcI, hx, if_false, h1]
      omega

theorem PlaceOf_v {v : Value} {xs : List Itm} {s : ByteArray} {n : Int} (w : World) (h : Items w v xs) (hn : plcN xs s = n) :
    Calls Try.prog 65 #[v, .string s] w (RetQ (.int .i64 n) w) := by subst hn; exact PlaceOf_any v xs s w h

set_option maxHeartbeats 800000 in
theorem GetItem_any (v : Value) (xs : List Itm) (s : ByteArray) (w : World) (h : Items w v xs) :
    Calls Try.prog 22 #[v, .string s] w (RetQ (.tuple #[.int .i64 (getN xs s), .bool (okG xs s)]) w) := by
  go_enter Try.func22, Try.ntmps22
  cases hg : okG xs s
  · have HG := Lib.hid hg
    have HN := Lib.hid (show getN xs s = 0 by unfold getN; rw [hg]; rfl)
    have HP := Lib.hid (show plcN xs s = -1 by
      unfold okG at hg
      unfold plcN
      cases hv : validI xs
      · rfl
      · rw [hv, Bool.true_and] at hg
        rw [if_pos rfl]
        exact plcI_no 0 hg)
    clear hg
    go_wp2_with fail
    refine (PlaceOf_v _ h HP.out).mono ?_
    rintro e w1 ⟨rfl, hb1⟩
    go_wp2
    go_ret2
    exact ⟨ret_ib HN.out.symm rfl, hb1⟩
  · have HG := Lib.hid hg
    have hy := okG_yes hg
    have HN := Lib.hid (show getN xs s = cnt xs s by unfold getN; rw [hg]; rfl)
    obtain ⟨k, hk, h1, h2⟩ := plcI_yes 0 hy.2
    have HP := Lib.hid (show plcN xs s = (k : Int) by unfold plcN; rw [hy.1, if_pos rfl, h1]; simp)
    have H2 := Lib.hid h2
    clear hg hy h1 h2
    go_wp2_with fail
    refine (PlaceOf_v _ h HP.out).mono ?_
    rintro e w1 ⟨rfl, hb1⟩
    obtain ⟨ao, cap, rfl, hlc, hcm, hok, hcell⟩ := h.mono hb1 (Nat.le_refl _)
    obtain ⟨b, o, rfl, hb, c1, c2⟩ := hcell k hk
    rw [H2.out] at c1 c2
    clear hcell hok h
    go_wp2
    go_ret2
    exact ⟨ret_ib HN.out.symm rfl, hb1⟩

theorem GetItem_v {v : Value} {xs : List Itm} {s : ByteArray} {n : Int} {b : Bool} (w : World) (h : Items w v xs) (hn : getN xs s = n) (hb : okG xs s = b) :
    Calls Try.prog 22 #[v, .string s] w (RetQ (.tuple #[.int .i64 n, .bool b]) w) := by subst hn hb; exact GetItem_any v xs s w h
theorem ret_lib {a b : Value} {n m : Int} {c d : Bool} (h : a = b) (h1 : n = m) (h' : c = d) : Ending.returned (.tuple #[a, .int .i64 n, .bool c]) = .returned (.tuple #[b, .int .i64 m, .bool d]) := by rw [h, h1, h']
theorem cnt_bd {xs : List Itm} {s : ByteArray} (h : okI xs) : -9223372036854775808 ≤ cnt xs s ∧ cnt xs s ≤ 9223372036854775807 := by
  induction xs with
  | nil => simp [cnt]
  | cons x r ih =>
    unfold cnt
    split
    · exact (h x (by simp)).2
    · exact ih (fun y hy => h y (by simp [hy]))

def NewLI (l : List Itm) (n : Int) (b : Bool) : World → Ending → World → Prop := NewL (fun v => .tuple #[v, .int .i64 n, .bool b]) l

/-- A put that fails, or one that does not: what DefaultItem makes of it. -/
theorem def_bad {xs : List Itm} {s : ByteArray} {n m : Int} (hm : defI xs s n = m ∨ validI xs = false) (hb : okP xs s m = false) : okD xs s n = false := by
  unfold okD
  rcases hm with h | h
  · rw [h, hb]
  · unfold okP; rw [h]; rfl

end Go.Proofs.Ytloalakpkjbeaaa
