/-
  Two rows compared, by the program.
-/
import Derived.Test.YtllliommjkobeaaRowP
import Derived.Laws.StructEq
import Derived.BigQuiet
namespace Go.Proofs.Ytllliommjkobeaa
open Go.RowKit Go.Deep

theorem run_part_int {P : Program} (w : World) (E : TypeId) {k0 : IntKind} (he : P.underlying E = some (.int k0)) (xs : List Int) (i : Nat) (h : i < xs.length) :
    (part E (xs.map (Value.int .i64)).toArray i).run P w = .ok (.int .i64 xs[i]) w := by
  have hagg : (isAgg E).run P w = .ok false w := by
    unfold isAgg
    rw [Sem.run_bind, run_underlying he w]
    rfl
  simp [part, Sem.run_bind, hagg, h]
theorem run_equalIn_ints {P : Program} (w : World) (d : Nat) (t E : TypeId) {k0 : IntKind} {n : Nat} (ht : P.underlying t = some (.array n E)) (he : P.underlying E = some (.int k0)) (hs : (P.info? E).map (·.size) = some 1) (xs ys : List Int) (hx : xs.length = n) (hy : ys.length = n) :
    (Op.equalIn (d + 1 + 1) t (.agg (xs.map (Value.int .i64)).toArray) (.agg (ys.map (Value.int .i64)).toArray)).run P w = .ok (decide (xs = ys)) w := by
  have hsz : (sizeOf E).run P w = .ok 1 w := by
    cases hq : P.info? E with
    | none => simp [hq] at hs
    | some i => simp [sizeOf, typeInfo, hq]; simpa [hq] using hs
  unfold Op.equalIn
  simp only [Sem.run_bind, run_underlying ht, Result.andThen_ok, hsz]
  simp only [Std.Legacy.Range.forIn_eq_forIn_range', Std.Legacy.Range.size]
  have loop : ∀ (m i : Nat), i + m = n → (forIn (List.range' i m) ((none : Option Bool), ()) fun i __s => do
            let __do_lift ← part E (List.map (Value.int IntKind.i64) xs).toArray (i * 1)
            let __do_lift_1 ← part E (List.map (Value.int IntKind.i64) ys).toArray (i * 1)
            let __do_lift ← Op.equalIn (d + 1) E __do_lift __do_lift_1
            if (!__do_lift) = true then pure (ForInStep.done (some false, ())) else pure (ForInStep.yield (none, ()))).run P w = .ok (if xs.drop i = ys.drop i then (none, ()) else (some false, ())) w := by
    intro m
    induction m with
    | zero =>
      intro i hi
      rw [List.drop_of_length_le (by omega), List.drop_of_length_le (by omega)]
      simp
    | succ m ih =>
      intro i hi
      have h1 : i < xs.length := by omega
      have h2 : i < ys.length := by omega
      rw [List.range'_succ, List.forIn_cons]
      simp only [Sem.run_bind, Nat.mul_one, run_part_int w E he xs i h1, run_part_int w E he ys i h2, Result.andThen_ok, run_equalIn_int w d E .i64 k0 _ _ he]
      have e3 : (xs.drop i = ys.drop i) = (xs[i] = ys[i] ∧ xs.drop (i + 1) = ys.drop (i + 1)) := by rw [List.drop_eq_getElem_cons h1, List.drop_eq_getElem_cons h2, List.cons.injEq]
      simp only [e3]
      by_cases hq : xs[i] = ys[i]
      · have e : (xs[i] == ys[i]) = true := by simp [hq]
        rw [e]
        simp only [Bool.not_true, Bool.false_eq_true, if_false, Sem.run_pure, Result.andThen_ok]
        have := ih (i + 1) (by omega)
        simp only [Nat.mul_one] at this
        rw [this]
        simp [hq]
      · have e : (xs[i] == ys[i]) = false := by simp [hq]
        rw [e]
        simp [hq]
  have h0 := loop n 0 (by omega)
  rw [show (n - 0 + 1 - 1) / 1 = n by omega, h0]
  simp only [Result.andThen_ok, List.drop_zero]
  by_cases hq : xs = ys
  · simp [hq]
  · simp [hq]

/-! ### which comes first -/
def lexN : List Int → List Int → Int
  | [], [] => 0
  | [], _ :: _ => -1
  | _ :: _, [] => 1
  | x :: xs, y :: ys => if x < y then -1 else if y < x then 1 else lexN xs ys
/-- The first difference. -/
def dif : List Int → List Int → Int
  | x :: xs, y :: ys => if x < y then -1 else if y < x then 1 else dif xs ys
  | _, _ => 0
theorem dif_self : ∀ xs : List Int, dif xs xs = 0
  | [] => rfl
  | x :: xs => by simp [dif, dif_self xs]
theorem dif_pre : ∀ p xs ys : List Int, dif (p ++ xs) (p ++ ys) = dif xs ys
  | [], _, _ => rfl
  | a :: p, xs, ys => by simp [dif, dif_pre p xs ys]
theorem dif_lex (b : Int) : ∀ (xs ys : List Int) (n : Nat), xs.length ≤ n → ys.length ≤ n → (∀ x ∈ xs, b < x) → (∀ y ∈ ys, b < y) → dif (xs ++ List.replicate (n - xs.length) b) (ys ++ List.replicate (n - ys.length) b) = lexN xs ys
  | [], [], n, _, _, _, _ => by simp [lexN, dif_self]
  | [], y :: ys, n, _, hy, _, hb => by
    obtain ⟨m, rfl⟩ : ∃ m, n = m + 1 := ⟨n - 1, by simp at hy; omega⟩
    have := hb y (by simp)
    simp [lexN, List.replicate_succ, dif, this]
  | x :: xs, [], n, hx, _, ha, _ => by
    obtain ⟨m, rfl⟩ : ∃ m, n = m + 1 := ⟨n - 1, by simp at hx; omega⟩
    have := ha x (by simp)
    have h2 : ¬ x < b := by omega
    simp [lexN, List.replicate_succ, dif, this, h2]
  | x :: xs, y :: ys, n, hx, hy, ha, hb => by
    obtain ⟨m, rfl⟩ : ∃ m, n = m + 1 := ⟨n - 1, by simp at hx; omega⟩
    have ih := dif_lex b xs ys m (by simpa using hx) (by simpa using hy) (fun z hz => ha z (by simp [hz])) (fun z hz => hb z (by simp [hz]))
    simp only [List.length_cons, Nat.add_sub_add_right, List.cons_append, dif, lexN, ih]
theorem dif_new {xs ys : List Int} (hx : xs.length ≤ 20) (hy : ys.length ≤ 20) (ha : allN xs = true) (hb : allN ys = true) : dif (newRowN xs) (newRowN ys) = lexN xs ys := by
  unfold newRowN
  rw [List.append_assoc, List.append_assoc, dif_pre]
  exact dif_lex (-10000) xs ys 20 hx hy (fun x h => by have := allN_iff.1 ha x h; omega) (fun x h => by have := allN_iff.1 hb x h; omega)
theorem dif_at {A B : List Int} {p : Nat} (h1 : p < A.length) (h2 : p < B.length) (hq : A[p] = B[p]) : dif (A.drop p) (B.drop p) = dif (A.drop (p + 1)) (B.drop (p + 1)) := by
  rw [List.drop_eq_getElem_cons h1, List.drop_eq_getElem_cons h2]
  simp [dif, hq]
theorem dif_end {A B : List Int} {p : Nat} (h1 : p < A.length) (h2 : p < B.length) (hq : ¬ A[p] = B[p]) : dif (A.drop p) (B.drop p) = if A[p] < B[p] then -1 else 1 := by
  rw [List.drop_eq_getElem_cons h1, List.drop_eq_getElem_cons h2]
  simp only [dif]
  split
  · rfl
  · rw [if_pos (by omega)]

theorem quiet_load_part {P : Program} {o : Oper} {a : Act} {C : World → Prop} {K : Act → Prop} (ty : TypeId) (x : Operand) (ho : o.op = .load ty x)
    (g : Nat) (hx : a.eval x = .pointer (some ⟨g, 0, none⟩)) (cs : List Value) (d : TypeDesc) (hc : ∀ w, C w → ∀ j v, cs[j]? = some v → w.cell? ⟨g, j, none⟩ = some v)
    (hu : P.underlying ty = some d) (hd : (match d with | .struct _ | .array _ _ => true | _ => false) = true) (hi : (P.info? ty).map (·.size) = some cs.length)
    (hk : K (a.put o.dst (.agg cs.toArray))) : o.quiet P a C K :=
  ⟨_, fun w hw => by
    unfold Oper.quietAt execOp
    simp only [ho, hx, Instr.loadAt, Instr.sureAddr, Sem.run_bind, Sem.run_pure, Result.andThen_ok, run_loadVar_part w g ty cs d (hc w hw) hu hd hi]
    exact ⟨rfl, rfl⟩, hk⟩
theorem isNaN_v (n : Int) (w : World) : Calls Try.prog 103 #[.int .i64 n] w fun e w' => e = .returned (.bool false) ∧ w = w' := by
  go_enter Try.func103, Try.ntmps103
  go_wp2
  go_ret
  exact ⟨rfl, rfl⟩
theorem cmp_v (x y : Int) (hxy : ¬ x = y) (w : World) : Calls Try.prog 102 #[.int .i64 x, .int .i64 y] w fun e w' => e = .returned (.int .i64 (if x < y then -1 else 1)) ∧ w' = w := by
  go_enter Try.func102, Try.ntmps102
  go_wp2_with fail
  refine (isNaN_v x _).mono ?_
  rintro e w1 ⟨rfl, rfl⟩
  go_wp2_with fail
  refine (isNaN_v y _).mono ?_
  rintro e w1 ⟨rfl, rfl⟩
  by_cases h : x < y
  · go_wp2
    go_ret
    exact ⟨rfl, rfl⟩
  · have h2 : y < x := by omega
    go_wp2
    go_ret
    exact ⟨rfl, rfl⟩

set_option maxHeartbeats 1600000 in
set_option maxRecDepth 100000 in
theorem compare_any {g g' : Nat} {A B : List Int} {f e f' e' : Nat} (w : World) (h : RowD w g A f e) (h' : RowD w g' B f' e') :
    Calls Try.prog 99 #[.pointer (some ⟨g, 0, none⟩), .pointer (some ⟨g', 0, none⟩)] w fun r w' => r = .returned (.int .i64 (dif A B)) ∧ Below w.heap.size w w' := by
  obtain ⟨C, hC⟩ : ∃ C, C = cellsN A := ⟨_, rfl⟩
  obtain ⟨C', hC'⟩ : ∃ C', C' = cellsN B := ⟨_, rfl⟩
  have hg : Try.prog.eqGuardType Try.prog.depth 63 = false := by kernel_rfl
  have heq : ∀ W : World, (Op.equalIn 10000 63 (.agg C.toArray) (.agg C'.toArray)).run Try.prog W = .ok (decide (A = B)) W := by
    intro W
    rw [hC, hC']
    exact run_equalIn_ints W 9998 63 3 Try.underlying63 Try.underlying3 Try.sizeN A B h.1 h'.1
  have HL : Hid (C.length = 30) := by show _ = _; rw [hC, cellsN_length, h.1]
  have HL' : Hid (C'.length = 30) := by show _ = _; rw [hC', cellsN_length, h'.1]
  have HQ : Hid (∀ w', (∃ n, w' = w.drewN n) → ∀ j v, C[j]? = some v → w'.cell? ⟨g, j, none⟩ = some v) := by
    rintro _ ⟨n, rfl⟩ j v hv
    rw [hC] at hv
    exact h.cells j v hv
  have HQ' : Hid (∀ w', (∃ n, w' = w.drewN n) → ∀ j v, C'[j]? = some v → w'.cell? ⟨g', j, none⟩ = some v) := by
    rintro _ ⟨n, rfl⟩ j v hv
    rw [hC'] at hv
    exact h'.cells j v hv
  have H := Lib.hid h
  have H' := Lib.hid h'
  have hlen : A.length = 30 := h.1
  have hlen' : B.length = 30 := h'.1
  have HLA := Lib.hid hlen
  have HLB := Lib.hid hlen'
  clear h h' hC hC' hlen hlen'
  by_cases hAB : A = B
  · have HAB := Lib.hid hAB
    have heq2 : ∀ W : World, (Op.equalIn 10000 63 (.agg C.toArray) (.agg C'.toArray)).run Try.prog W = .ok true W := fun W => by rw [heq W, decide_eq_true hAB]
    clear heq hAB
    go_enter Try.func99, Try.ntmps99
    go_wp2_with fail
    refine wp_region_quiet_lit (by kernel_rfl) (by kernel_rfl) ?_
    repeat (first
      | (go_big_quiet_want; refine quiet_load_part (o := ⟨some 9, _, _, _, _, _⟩) 63 (.tmp 8) rfl g rfl C _ HQ.out Try.underlying63 rfl (by rw [HL.out]; exact Try.sizeR) ?_; simp only [Act.put, List.setIfInBounds_toArray, List.set_cons_succ, List.set_cons_zero]; go_big_quiet_on)
      | (go_big_quiet_want; refine quiet_load_part (o := ⟨some 13, _, _, _, _, _⟩) 63 (.tmp 12) rfl g' rfl C' _ HQ'.out Try.underlying63 rfl (by rw [HL'.out]; exact Try.sizeR) ?_; simp only [Act.put, List.setIfInBounds_toArray, List.set_cons_succ, List.set_cons_zero]; go_big_quiet_on)
      | go_big_quiet_skip
      | (go_big_quiet_want; go_big_quiet_op; go_big_quiet_on))
    refine wpQuiet_nil ?_
    rintro _ ⟨nq, rfl⟩
    go_wp2
    go_ret
    exact ⟨ret_int (by rw [HAB.out, dif_self]), belowN (Below.refl _ _) _⟩
  · have HAB := Lib.hid hAB
    have heq2 : ∀ W : World, (Op.equalIn 10000 63 (.agg C.toArray) (.agg C'.toArray)).run Try.prog W = .ok false W := fun W => by rw [heq W, decide_eq_false hAB]
    clear heq hAB
    go_enter Try.func99, Try.ntmps99
    go_wp2_with fail
    refine wp_region_quiet_lit (by kernel_rfl) (by kernel_rfl) ?_
    repeat (first
      | (go_big_quiet_want; refine quiet_load_part (o := ⟨some 9, _, _, _, _, _⟩) 63 (.tmp 8) rfl g rfl C _ HQ.out Try.underlying63 rfl (by rw [HL.out]; exact Try.sizeR) ?_; simp only [Act.put, List.setIfInBounds_toArray, List.set_cons_succ, List.set_cons_zero]; go_big_quiet_on)
      | (go_big_quiet_want; refine quiet_load_part (o := ⟨some 13, _, _, _, _, _⟩) 63 (.tmp 12) rfl g' rfl C' _ HQ'.out Try.underlying63 rfl (by rw [HL'.out]; exact Try.sizeR) ?_; simp only [Act.put, List.setIfInBounds_toArray, List.set_cons_succ, List.set_cons_zero]; go_big_quiet_on)
      | go_big_quiet_skip
      | (go_big_quiet_want; go_big_quiet_op; go_big_quiet_on))
    refine wpQuiet_nil ?_
    rintro _ ⟨nq, rfl⟩
    have HB0 : Hid (Below w.heap.size w (w.drewN nq)) := belowN (Below.refl _ _) _
    have HR0 : Hid (RowD (w.drewN nq) g A f e ∧ RowD (w.drewN nq) g' B f' e') := ⟨H.out, H'.out⟩
    clear heq2 hg
    go_wp2
    go_loopw [5] (fun i wr => ∃ p : Nat, p ≤ 30 ∧ i = .int .i64 p ∧ Hid (A.take p = B.take p) ∧ Hid (dif A B = dif (A.drop p) (B.drop p)) ∧ Hid (RowD wr g A f e ∧ RowD wr g' B f' e') ∧ Below w.heap.size w wr) (fun i _ => 30 - (intOf i).toNat)
    case atStart => exact ⟨0, by omega, rfl, rfl, rfl, HR0, HB0.out⟩
    case round =>
      obtain ⟨p, hp, rfl, HT, HD, HR, hbl⟩ := hrel
      have hp30 : p < 30 := by
        rcases Nat.lt_or_ge p 30 with h | h
        · exact h
        · have := HT.out
          rw [List.take_of_length_le (by rw [HLA.out]; omega), List.take_of_length_le (by rw [HLB.out]; omega)] at this
          exact absurd this HAB.out
      have hpA : p < A.length := by rw [HLA.out]; exact hp30
      have hpB : p < B.length := by rw [HLB.out]; exact hp30
      have cA := HR.out.1.cell hp30
      have cB := HR.out.2.cell hp30
      by_cases hx : A[p] = B[p]
      · have HX := Lib.hid hx
        have hbq : (A[p] == B[p]) = true := by simp [hx]
        have HD2 := Lib.hid (dif_at hpA hpB hx)
        have HT2 : Hid (A.take (p + 1) = B.take (p + 1)) := by show _ = _; rw [List.take_succ_eq_append_getElem hpA, List.take_succ_eq_append_getElem hpB, HT.out, hx]
        clear hx
        go_wp2_with fail
        go_quiet (fail)
        go_wp2
        go_roundw
        case rel => exact ⟨p + 1, by omega, by go_num, HT2, by show _ = _; rw [HD.out, HD2.out], HR, belowN hbl _⟩
        case measure => simp [intOf]; omega
      · have HX := Lib.hid hx
        have hbq : (A[p] == B[p]) = false := by simp [hx]
        have HD2 := Lib.hid (dif_end hpA hpB hx)
        clear hx
        go_wp2_with fail
        go_quiet (fail)
        go_wp2_with fail
        go_quiet ((go_at_call 102; exact (cmp_v _ _ HX.out _).mono fun _ _ h => ⟨h.1, _, h.2⟩))
        go_wp2
        all_goals go_ret
        all_goals exact ⟨ret_int (by rw [HD.out, HD2.out]; split <;> omega), belowN hbl _⟩
end Go.Proofs.Ytllliommjkobeaa
