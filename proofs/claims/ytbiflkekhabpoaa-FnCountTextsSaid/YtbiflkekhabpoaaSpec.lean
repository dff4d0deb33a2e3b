/-
  The model's small functions over items: a copy, a count, a number put, what is positive.
-/
import Derived.Test.YtbiflkekhabpoaaImpl2
namespace Go.Proofs.Ytbiflkekhabpoaa
open Go.RowKit

theorem cellsI_one (xs : List Itm) : ∀ u ∈ cellsI xs, u.oneCell' = true := by
  intro u hu
  obtain ⟨x, _, hx⟩ := List.mem_flatMap.1 hu
  simp at hx
  rcases hx with rfl | rfl <;> rfl

/-- The cells of a slice of items, one by one. -/
theorem Items.news {w : World} {b o n cap : Nat} {sp : Option Nat} {xs : List Itm} (h : Items w (.slice (some ⟨b, o, sp⟩) n cap) xs) : ∀ j u, (cellsI xs)[j]? = some u → w.cell? ((⟨b, o, sp⟩ : Addr).add j) = some u := by
  intro j u hu
  obtain ⟨ao, cap', e, hl, hc, hok, hcell⟩ := h
  simp only [Value.slice.injEq] at e
  obtain ⟨rfl, rfl, rfl⟩ := e
  have hj : j < xs.length * 2 := by rw [← cellsI_length]; exact (List.getElem?_eq_some_iff.1 hu).1
  have hk : j / 2 < xs.length := by omega
  obtain ⟨b', o', e, _, h1, h2⟩ := hcell (j / 2) hk
  simp only [Option.some.injEq, Addr.mk.injEq] at e
  obtain ⟨rfl, rfl, rfl⟩ := e
  have hf := cellsI_fst xs (j / 2) hk
  rw [Addr.add_lit]
  rcases Nat.mod_two_eq_zero_or_one j with h | h
  · have e : j = j / 2 * 2 := by omega
    rw [e] at hu
    rw [e, h1, ← hu, hf.1]
  · have e : j = j / 2 * 2 + 1 := by omega
    rw [e] at hu
    rw [e, ← Nat.add_assoc, h2, ← hu, hf.2]

theorem run_append_nothing {P : Program} {w : World} (base : Nat) (t ty e : TypeId) (i : TypeInfo) (size : Nat) (ht : P.underlying t = some (.slice e)) (hi : P.info? e = some i)
    (v : Value) (n : Nat) (xs : List Value) (hown : w.ownsRow base e size v n xs) (c : Nat) :
    (Builtin.append_ #[t, t] ty #[v, .slice none 0 c]).run P w = .ok v w := by
  rcases hown.2 with ⟨rfl, rfl⟩ | ⟨g, cap, cur, rfl, _, _, hnc, _⟩
  · simp [Builtin.append_, run_underlying ht, sizeOf, typeInfo, hi, Builtin.lenOf, Builtin.firstCells]
  · simp [Builtin.append_, run_underlying ht, sizeOf, typeInfo, hi, Builtin.lenOf, Builtin.firstCells, hnc, storeCells]

/-- Nothing is appended. -/
theorem wpl_append_nothing {P : Program} (w : World) {ops : Array Oper} {rest : List Oper} {o : Oper} {a : Act} {Q : Exit → Act → World → Prop} (hgd : o.guard = none) (s x : Operand) (t : TypeId)
    (ho : o.op = .call { callee := .builtin .append, args := #[s, x], argTypes := #[t, t] })
    (base : Nat) (e : TypeId) (i : TypeInfo) (size : Nat) (ht : P.underlying t = some (.slice e)) (hi : P.info? e = some i)
    (v : Value) (n : Nat) (xs : List Value) (hs : a.eval s = v) (hown : w.ownsRow base e size v n xs) (c : Nat) (hx : a.eval x = .slice none 0 c)
    (h : wpList P ops Q rest (a.put o.dst v) w) : wpList P ops Q (o :: rest) a w := by
  refine wpList_plain hgd fun K hK => ?_
  have hrun := run_append_nothing (P := P) (w := w) base t o.type e i size ht hi v n xs hown c
  unfold Oper.wp
  simp [execOp, ho, resolve, invoke, builtin, hs, hx, hrun, Result.andThen]
  exact hK _ _ h

set_option maxHeartbeats 400000 in
theorem copyItems_any (v : Value) (xs : List Itm) (w : World) (h : Items w v xs) (hn : xs.length ≤ 1048576) :
    Calls Try.prog 95 #[v] w (FreshI xs w) := by
  have h0 := h
  obtain ⟨ao, cap, rfl, hlc, hcm, hok, hcell⟩ := h
  obtain ⟨i0, hi, hz0, hz1, hz2⟩ := info_parts Try.infoI
  have hown := World.ownsRow_lit (base := w.heap.size) (e := 54) (size := 2) w #[] 0 (Nat.le_refl _) (by unfold maxLen; omega) rfl
  go_enter Try.func95, Try.ntmps95
  cases ao with
  | none =>
    have hx : xs = [] := by
      cases xs with
      | nil => rfl
      | cons x r => obtain ⟨b, o, e, _⟩ := hcell 0 (by simp); cases e
    subst hx
    go_wp2_with (at_builtin; refine wpl_append_nothing _ rfl _ _ 25 rfl w.heap.size 54 i0 2 Try.underlying25 hi (.slice (some ⟨w.heap.size, 0, none⟩) 0 0) 0 [] rfl hown cap rfl ?_)
    go_ret
    exact ⟨_, rfl, ⟨hown, hok⟩, (Below.refl _ _).alloc (Nat.le_refl _) _⟩
  | some ad =>
    obtain ⟨b, o, sp⟩ := ad
    go_wp2_with (at_builtin; refine wpList_append_own _ rfl _ _ 25 rfl w.heap.size 54 i0 (.agg #[.string ⟨#[]⟩, .int .i64 0]) 2 24 Try.underlying25 hi hz0 hz1 hz2 rfl (by decide) (.slice (some ⟨w.heap.size, 0, none⟩) 0 0) 0 [] rfl hown ⟨b, o, sp⟩ xs.length cap (cellsI xs) rfl (cellsI_length xs) ((h0.mono ((Below.refl _ _).alloc (Nat.le_refl _) _) (Nat.le_refl _)).news) (cellsI_one xs) (by unfold maxLen; omega) (by omega) (by simp) ?_; intro v' w1 hown1 hgrow1 hnil1)
    go_ret
    exact ⟨_, rfl, ⟨by simpa using hown1, hok⟩, ((Below.refl _ _).alloc (Nat.le_refl _) _).grown hgrow1 (by simp) (fun k hk => by simp [Value.ownBlock] at hk; omega)⟩

/-! ### the place of a key, and its number -/
theorem placeI_at (l : List Itm) (s : ByteArray) : ∀ i : Nat, hasI l s = true → ∃ k, ∃ h : k < l.length, placeI l s i = (k + i : Nat) ∧ l[k].1 = s ∧ cnt l s = l[k].2 ∧ ∀ n, putI l s n = l.set k (s, n) := by
  induction l with
  | nil => intro i h; simp [hasI] at h
  | cons x r ih =>
    intro i h
    by_cases hx : x.1 = s
    · exact ⟨0, by simp, by simp [placeI, hx], hx, by simp [cnt, hx], fun n => by simp [putI, hx]⟩
    · simp only [hasI, hx, decide_false, Bool.false_or] at h
      obtain ⟨k, hk, h1, h2, h3, h4⟩ := ih (i + 1) h
      refine ⟨k + 1, by simpa using hk, ?_, by simpa using h2, by simp [cnt, hx, h3], fun n => by simp [putI, hx, h4]⟩
      simp only [placeI, hx, if_false, h1]
      omega

theorem place_no {v : Value} {xs : List Itm} {s : ByteArray} (w : World) (h : Items w v xs) (hh : hasI xs s = false) : Calls Try.prog 110 #[v, .string s] w fun e w' => e = .returned (.int .i64 (-1)) ∧ w = w' :=
  (place_any v xs s w h).mono fun _ _ ⟨he, hw⟩ => ⟨((placeI_has xs s 0).1 hh) ▸ he, hw⟩
theorem place_at {v : Value} {xs : List Itm} {s : ByteArray} {k : Nat} (w : World) (h : Items w v xs) (hh : placeI xs s 0 = k) : Calls Try.prog 110 #[v, .string s] w fun e w' => e = .returned (.int .i64 k) ∧ w = w' :=
  (place_any v xs s w h).mono fun _ _ ⟨he, hw⟩ => ⟨hh ▸ he, hw⟩

set_option maxHeartbeats 400000 in
theorem count_any (v : Value) (xs : List Itm) (s : ByteArray) (w : World) (h : Items w v xs) :
    Calls Try.prog 81 #[v, .string s] w fun e w' => e = .returned (.int .i64 (cnt xs s)) ∧ w = w' := by
  go_enter Try.func81, Try.ntmps81
  cases hh : hasI xs s
  · have HC := Lib.hid (cnt_none hh)
    have HH := Lib.hid hh
    clear hh
    go_wp2_with (go_at_call 110; refine (place_no _ h HH.out).mono ?_; rintro e w1 ⟨rfl, rfl⟩)
    go_ret
    exact ⟨ret_int HC.out.symm, rfl⟩
  · obtain ⟨k, hk, h1, h2, h3, h4⟩ := placeI_at xs s 0 hh
    have H1 := Lib.hid (h1.trans (by simp) : placeI xs s 0 = (k : Int))
    have H3 := Lib.hid h3
    clear hh h1 h2 h3 h4
    have h0 := Lib.hid h
    obtain ⟨ao, cap, rfl, hlc, hcm, hok, hcell⟩ := h
    obtain ⟨b, o, rfl, hb, c1, c2⟩ := hcell k hk
    clear hcell hok
    go_wp2_with (go_at_call 110; refine (place_at _ h0.out H1.out).mono ?_; rintro e w1 ⟨rfl, rfl⟩)
    go_ret
    exact ⟨ret_int H3.out.symm, rfl⟩

theorem sVi_v {v : Value} {xs : List Itm} {b : Bool} (w : World) (h : Items w v xs) (hb : validI xs = b) : Calls Try.prog 76 #[v] w fun e w' => e = .returned (.bool b) ∧ Below w.heap.size w w' := by
  refine (validItems_any v xs w h).mono ?_
  rintro e w' ⟨rfl, n, rfl⟩
  exact ⟨by rw [hb], rfl, rfl, rfl, Nat.le_refl _, fun _ _ => rfl⟩

theorem posI_yes {l : List Itm} {k : Nat} (h : k < l.length) (hq : 0 < l[k].2) : posI (l.take (k + 1)) = posI (l.take k) ++ [l[k]] := by
  unfold posI; rw [List.take_succ_eq_append_getElem h, List.filter_append]; simp [hq]
theorem posI_no {l : List Itm} {k : Nat} (h : k < l.length) (hq : ¬ 0 < l[k].2) : posI (l.take (k + 1)) = posI (l.take k) := by
  unfold posI; rw [List.take_succ_eq_append_getElem h, List.filter_append]; simp [hq]

/-! ### a number put -/
theorem cellsI_set (l : List Itm) : ∀ (k : Nat) (h : k < l.length) (n : Int), (cellsI l).set (k * 2 + 1) (.int .i64 n) = cellsI (l.set k (l[k].1, n)) := by
  induction l with
  | nil => intro k h; simp at h
  | cons x r ih =>
    intro k h n
    cases k with
    | zero => simp [cellsI]
    | succ k =>
      have := ih k (by simpa using h) n
      have e : (k + 1) * 2 + 1 = k * 2 + 1 + 1 + 1 := by omega
      rw [e]
      simpa [cellsI] using this

theorem okI_put {l : List Itm} {s : ByteArray} {n : Int} (h : okI l) (hs : s.size ≤ 9223372036854775807) (hn : -9223372036854775808 ≤ n ∧ n ≤ 9223372036854775807) : okI (putI l s n) := by
  induction l with
  | nil => intro x hx; simp [putI] at hx; subst hx; exact ⟨hs, hn.1, hn.2⟩
  | cons y r ih =>
    have hr : okI r := fun x hx => h x (by simp [hx])
    unfold putI
    split
    · intro x hx
      rcases List.mem_cons.1 hx with rfl | hx
      · exact ⟨hs, hn.1, hn.2⟩
      · exact hr x hx
    · intro x hx
      rcases List.mem_cons.1 hx with rfl | hx
      · exact h _ (by simp)
      · exact ih hr x hx

set_option maxHeartbeats 800000 in
theorem put_any (v : Value) (xs : List Itm) (s : ByteArray) (n : Int) (w : World) (h : Items w v xs) (hn : xs.length ≤ 1000000) (hs : s.size ≤ 9223372036854775807) (hi : -9223372036854775808 ≤ n ∧ n ≤ 9223372036854775807) :
    Calls Try.prog 83 #[v, .string s, .int .i64 n] w (FreshI (putI xs s n) w) := by
  have HOK := Lib.hid (okI_put h.ok hs hi)
  obtain ⟨i0, hi0, hz0, hz1, hz2⟩ := info_parts Try.infoI
  go_enter Try.func83, Try.ntmps83
  go_wp2_with fail
  refine (copyItems_any v xs w h (by omega)).mono ?_
  rintro e w1 ⟨v1, rfl, ho1, hb1⟩
  have hsz1 := hb1.size
  obtain ⟨ao, cap, rfl, hlc, hcm⟩ := own_slice ho1.1
  have hI := Lib.hid ho1.items
  cases hh : hasI xs s
  · have HP := Lib.hid (putI_new (n := n) hh)
    have HH := Lib.hid hh
    have hown := ho1.1
    clear hh h
    go_wp2_with (first
      | (go_at_call 110; refine (place_no _ hI.out HH.out).mono ?_; rintro e w2 ⟨rfl, rfl⟩)
      | (at_builtin; refine wpList_append_own _ rfl _ _ 25 rfl w.heap.size 54 i0 (.agg #[.string ⟨#[]⟩, .int .i64 0]) 2 24 Try.underlying25 hi0 hz0 hz1 hz2 rfl (by decide) (.slice ao xs.length cap) xs.length (cellsI xs) rfl (hown.alloc _) ⟨w1.heap.size, 0, none⟩ 1 1 [.string s, .int .i64 n] rfl rfl (cells_two_new _ _ _ _) (by intro u hu; simp at hu; rcases hu with rfl | rfl <;> rfl) (by unfold maxLen; omega) (by omega) (by simp; omega) ?_; intro v' w2 hown2 hgrow2 hnil2))
    go_ret
    refine ⟨_, rfl, ⟨by rw [HP.out, List.length_append, cellsI_snoc]; exact hown2, HOK.out⟩, (hb1.alloc hsz1 _).grown hgrow2 (by simp; omega) (fun k hk => (hown.lt k hk).1)⟩
  · obtain ⟨k, hk, h1, h2, h3, h4⟩ := placeI_at xs s 0 hh
    have H1 := Lib.hid (h1.trans (by simp) : placeI xs s 0 = (k : Int))
    have H2 := Lib.hid h2
    have H4 := Lib.hid (h4 n)
    have hown := ho1.1
    obtain ⟨g, cap', e, hgc, hgB⟩ := own_shape hown (by omega)
    simp only [Value.slice.injEq] at e
    obtain ⟨rfl, _, rfl⟩ := e
    obtain ⟨u, c1⟩ := row_cell hown (j := k * 2 + 1) (by omega)
    have f1 := hown.frozenAt (k * 2 + 1)
    clear hh h1 h2 h3 h4 h
    go_wp2_with (go_at_call 110; refine (place_at _ hI.out H1.out).mono ?_; rintro e w2 ⟨rfl, rfl⟩)
    go_ret
    have hst := hown.stored (k * 2 + 1) (.int .i64 n)
    refine ⟨_, rfl, ⟨?_, HOK.out⟩, hb1.setCell hgB _⟩
    rw [H4.out, List.length_set]
    have e := cellsI_set xs k hk n
    rw [H2.out] at e
    rw [← e]
    exact hst.1

theorem both_v {va vb : Value} {a b : List Itm} {r : Bool} (w : World) (ha : Items w va a) (hb : Items w vb b) (hr : (validI a && validI b) = r) :
    Calls Try.prog 90 #[va, vb] w fun e w' => e = .returned (.bool r) ∧ Below w.heap.size w w' := by
  go_enter Try.func90, Try.ntmps90
  cases hva : validI a
  · have H := Lib.hid hva
    clear hva
    rw [H.out, Bool.false_and] at hr
    subst hr
    go_wp2_with (go_at_call 76; refine (sVi_v _ ha H.out).mono ?_; rintro e w1 ⟨rfl, hb1⟩)
    go_ret
    exact ⟨rfl, hb1⟩
  · have H := Lib.hid hva
    clear hva
    rw [H.out, Bool.true_and] at hr
    have HR := Lib.hid hr
    clear hr
    go_wp2_with fail
    refine (sVi_v _ ha H.out).mono ?_
    rintro e w1 ⟨rfl, hb1⟩
    go_wp2_with fail
    refine (sVi_v _ (hb.mono hb1 (Nat.le_refl _)) HR.out).mono ?_
    rintro e w2 ⟨rfl, hb2⟩
    go_wp2
    go_ret
    exact ⟨rfl, hb1.trans (hb2.mono hb1.size)⟩

theorem schecked_any {B : Nat} {v : Value} {l : List Itm} (w : World) (h : OwnI 54 w B v l) :
    Calls Try.prog 84 #[v] w fun e w' => ∃ v', e = .returned (.tuple #[v', .bool (validI l)]) ∧ OwnI 54 w' B v' (chkI l) ∧ Below w.heap.size w w' := by
  go_enter Try.func84, Try.ntmps84
  cases hv : validI l
  all_goals
    have H := Lib.hid hv
    clear hv
    go_wp2_with fail
    refine (sVi_v _ h.items H.out).mono ?_
    rintro e w1 ⟨rfl, hb1⟩
    go_wp2
    go_ret2
  · exact ⟨_, rfl, by unfold chkI; rw [H.out]; exact OwnI_nil _ _ _, hb1⟩
  · exact ⟨_, rfl, by unfold chkI; rw [H.out]; exact h.below hb1 (Nat.le_refl _), hb1⟩

/-! ### what is positive -/
set_option maxHeartbeats 800000 in
theorem spositive_any (v : Value) (xs : List Itm) (w : World) (h : Items w v xs) (hn : xs.length ≤ 1000000) :
    Calls Try.prog 93 #[v] w (FreshI (posI xs) w) := by
  obtain ⟨ao, cap, rfl, hlc, hcm, hok, hcell⟩ := h
  obtain ⟨i0, hi0, hz0, hz1, hz2⟩ := info_parts Try.infoI
  have hown0 := World.ownsRow_lit (base := w.heap.size) (e := 54) (size := 2) w #[] 0 (Nat.le_refl _) (by unfold maxLen; omega) rfl
  go_enter Try.func93, Try.ntmps93
  go_wp2
  go_loopw [3, 4] (fun x i wr => ∃ k : Nat, k ≤ xs.length ∧ i = .int .i64 k ∧ wr.ownsRow w.heap.size 54 2 x (posI (xs.take k)).length (cellsI (posI (xs.take k))) ∧ Below w.heap.size w wr ∧ w.heap.size < wr.heap.size) (fun _ i _ => xs.length - (intOf i).toNat)
  case atStart => exact ⟨0, Nat.zero_le _, rfl, hown0, (Below.refl _ _).alloc (Nat.le_refl _) _, by simp⟩
  case round =>
    obtain ⟨k, hk, rfl, hrow, hbl, hsz⟩ := hrel
    by_cases hlt : k < xs.length
    · obtain ⟨b, o, rfl, hb, h1, h2⟩ := hcell k hlt
      have c1 := (hbl.cell (p := ⟨b, _, none⟩) hb).trans h1
      have c2 := (hbl.cell (p := ⟨b, _, none⟩) hb).trans h2
      have hle : (posI (xs.take k)).length ≤ k := Nat.le_trans (List.length_filter_le _ _) (List.length_take_le _ _)
      clear h1 h2
      obtain ⟨xo, xcap, rfl, _, _⟩ := own_slice hrow
      by_cases hp : 0 < xs[k].2
      · have e1 := Lib.hid (posI_yes hlt hp)
        go_wp2_with (at_builtin; refine wpList_append_own _ rfl _ _ 25 rfl w.heap.size 54 i0 (.agg #[.string ⟨#[]⟩, .int .i64 0]) 2 24 Try.underlying25 hi0 hz0 hz1 hz2 rfl (by decide) (.slice xo (posI (xs.take k)).length xcap) (posI (xs.take k)).length (cellsI (posI (xs.take k))) rfl (hrow.alloc _) ⟨wr.heap.size, 0, none⟩ 1 1 [.string xs[k].1, .int .i64 xs[k].2] rfl rfl (cells_two_new _ _ _ _) (by intro u hu; simp at hu; rcases hu with rfl | rfl <;> rfl) (by unfold maxLen; omega) (by omega) (by simp; omega) ?_; intro v' w2 hown2 hgrow2 hnil2)
        have hs2 := hgrow2.size
        simp at hs2
        have hrow3 : w2.ownsRow w.heap.size 54 2 v' (posI (xs.take (k + 1))).length (cellsI (posI (xs.take (k + 1)))) := by
          rw [e1.out, cellsI_snoc, List.length_append]; exact hown2
        have hb3 := (hbl.alloc (Nat.le_of_lt hsz) _).grown hgrow2 (by simp; omega) (fun j hj => (hrow.lt j hj).1)
        clear hown2 hrow c1 c2 hgrow2 hnil2
        go_roundw
        case rel => exact ⟨k + 1, by omega, by go_num, hrow3, hb3, by omega⟩
        case measure => simp [intOf]; omega
      · have e1 := Lib.hid (posI_no hlt hp)
        go_wp2
        go_roundw
        case rel => exact ⟨k + 1, by omega, by go_num, by rw [e1.out]; exact hrow, hbl, hsz⟩
        case measure => simp [intOf]; omega
    · obtain rfl : k = xs.length := by omega
      rw [List.take_length] at hrow
      go_wp2
      go_ret
      exact ⟨_, rfl, ⟨hrow, okI_filter hok _⟩, hbl⟩
end Go.Proofs.Ytbiflkekhabpoaa
