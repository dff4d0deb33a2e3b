/-
  DqK, DqKC.
-/
import Derived.BigQuiet
import Derived.Laws.StructEq
import Derived.Test.YtoglgeinnocfjaaE11
/-
  Two rows compared, by the program.
-/
namespace Go.Proofs.Ytoglgeinnocfjaa
open Go.RowKit Go.Deep

theorem run_part_int {P : Program} (w : World) (E : TypeId) {k0 : IntKind} (he : P.underlying E = some (.int k0)) (xs : List Int) (i : Nat) (h : i < xs.length) :
    (part E (xs.map (Value.int .i64)).toArray i).run P w = .ok (.int .i64 xs[i]) w := by
  have hagg : (isAgg E).run P w = .ok false w := by
    unfold isAgg
    rw [Sem.run_bind, run_underlying he w]
    rfl
  simp [part, Sem.run_bind, hagg, h]
theorem run_equalIn_ints {P : Program} (w : World) (d : Nat) (t E : TypeId) {k0 : IntKind} {n : Nat} (ht : P.underlying t = some (.array n E)) (he : P.underlying E = some (.int k0)) (hs : (P.info? E).map (·.size) = some 1) (xs ys : List Int) (hx : xs.length = n) (hy : ys.length = n) :
    (Op.equalIn (d + 1 + 1) t (.agg (xs.map (Value.int .i64)).toArray) (.agg (ys.map (Value.int .i64)).toArray)).run P w = .ok (decide (xs = ys)) w := by
  have hsz : (sizeOf E).run P w = .ok 1 w := by
    cases hq : P.info? E with
    | none => simp [hq] at hs
    | some i => simp [sizeOf, typeInfo, hq]; simpa [hq] using hs
  unfold Op.equalIn
  simp only [Sem.run_bind, run_underlying ht, Result.andThen_ok, hsz]
  simp only [Std.Legacy.Range.forIn_eq_forIn_range', Std.Legacy.Range.size]
  have loop : ∀ (m i : Nat), i + m = n → (forIn (List.range' i m) ((none : Option Bool), ()) fun i __s => do
            let __do_lift ← part E (List.map (Value.int IntKind.i64) xs).toArray (i * 1)
            let __do_lift_1 ← part E (List.map (Value.int IntKind.i64) ys).toArray (i * 1)
            let __do_lift ← Op.equalIn (d + 1) E __do_lift __do_lift_1
            if (!__do_lift) = true then pure (ForInStep.done (some false, ())) else pure (ForInStep.yield (none, ()))).run P w = .ok (if xs.drop i = ys.drop i then (none, ()) else (some false, ())) w := by
    intro m
    induction m with
    | zero =>
      intro i hi
      rw [List.drop_of_length_le (by omega), List.drop_of_length_le (by omega)]
      simp
    | succ m ih =>
      intro i hi
      have h1 : i < xs.length := by omega
      have h2 : i < ys.length := by omega
      rw [List.range'_succ, List.forIn_cons]
      simp only [Sem.run_bind, Nat.mul_one, run_part_int w E he xs i h1, run_part_int w E he ys i h2, Result.andThen_ok, run_equalIn_int w d E .i64 k0 _ _ he]
      have e3 : (xs.drop i = ys.drop i) = (xs[i] = ys[i] ∧ xs.drop (i + 1) = ys.drop (i + 1)) := by rw [List.drop_eq_getElem_cons h1, List.drop_eq_getElem_cons h2, List.cons.injEq]
      simp only [e3]
      by_cases hq : xs[i] = ys[i]
      · have e : (xs[i] == ys[i]) = true := by simp [hq]
        rw [e]
        simp only [Bool.not_true, Bool.false_eq_true, if_false, Sem.run_pure, Result.andThen_ok]
        have := ih (i + 1) (by omega)
        simp only [Nat.mul_one] at this
        rw [this]
        simp [hq]
      · have e : (xs[i] == ys[i]) = false := by simp [hq]
        rw [e]
        simp [hq]
  have h0 := loop n 0 (by omega)
  rw [show (n - 0 + 1 - 1) / 1 = n by omega, h0]
  simp only [Result.andThen_ok, List.drop_zero]
  by_cases hq : xs = ys
  · simp [hq]
  · simp [hq]

/-! ### which comes first -/
def lexN : List Int → List Int → Int
  | [], [] => 0
  | [], _ :: _ => -1
  | _ :: _, [] => 1
  | x :: xs, y :: ys => if x < y then -1 else if y < x then 1 else lexN xs ys
/-- The first difference. -/
def dif : List Int → List Int → Int
  | x :: xs, y :: ys => if x < y then -1 else if y < x then 1 else dif xs ys
  | _, _ => 0
theorem dif_self : ∀ xs : List Int, dif xs xs = 0
  | [] => rfl
  | x :: xs => by simp [dif, dif_self xs]
theorem dif_pre : ∀ p xs ys : List Int, dif (p ++ xs) (p ++ ys) = dif xs ys
  | [], _, _ => rfl
  | a :: p, xs, ys => by simp [dif, dif_pre p xs ys]
theorem dif_lex (b : Int) : ∀ (xs ys : List Int) (n : Nat), xs.length ≤ n → ys.length ≤ n → (∀ x ∈ xs, b < x) → (∀ y ∈ ys, b < y) → dif (xs ++ List.replicate (n - xs.length) b) (ys ++ List.replicate (n - ys.length) b) = lexN xs ys
  | [], [], n, _, _, _, _ => by simp [lexN, dif_self]
  | [], y :: ys, n, _, hy, _, hb => by
    obtain ⟨m, rfl⟩ : ∃ m, n = m + 1 := ⟨n - 1, by simp at hy; omega⟩
    have := hb y (by simp)
    simp [lexN, List.replicate_succ, dif, this]
  | x :: xs, [], n, hx, _, ha, _ => by
    obtain ⟨m, rfl⟩ : ∃ m, n = m + 1 := ⟨n - 1, by simp at hx; omega⟩
    have := ha x (by simp)
    have h2 : ¬ x < b := by omega
    simp [lexN, List.replicate_succ, dif, this, h2]
  | x :: xs, y :: ys, n, hx, hy, ha, hb => by
    obtain ⟨m, rfl⟩ : ∃ m, n = m + 1 := ⟨n - 1, by simp at hx; omega⟩
    have ih := dif_lex b xs ys m (by simpa using hx) (by simpa using hy) (fun z hz => ha z (by simp [hz])) (fun z hz => hb z (by simp [hz]))
    simp only [List.length_cons, Nat.add_sub_add_right, List.cons_append, dif, lexN, ih]
theorem dif_new {xs ys : List Int} (hx : xs.length ≤ 20) (hy : ys.length ≤ 20) (ha : allN xs = true) (hb : allN ys = true) : dif (newRowN xs) (newRowN ys) = lexN xs ys := by
  unfold newRowN
  rw [List.append_assoc, List.append_assoc, dif_pre]
  exact dif_lex (-10000) xs ys 20 hx hy (fun x h => by have := allN_iff.1 ha x h; omega) (fun x h => by have := allN_iff.1 hb x h; omega)
theorem dif_at {A B : List Int} {p : Nat} (h1 : p < A.length) (h2 : p < B.length) (hq : A[p] = B[p]) : dif (A.drop p) (B.drop p) = dif (A.drop (p + 1)) (B.drop (p + 1)) := by
  rw [List.drop_eq_getElem_cons h1, List.drop_eq_getElem_cons h2]
  simp [dif, hq]
theorem dif_end {A B : List Int} {p : Nat} (h1 : p < A.length) (h2 : p < B.length) (hq : ¬ A[p] = B[p]) : dif (A.drop p) (B.drop p) = if A[p] < B[p] then -1 else 1 := by
  rw [List.drop_eq_getElem_cons h1, List.drop_eq_getElem_cons h2]
  simp only [dif]
  split
  · rfl
  · rw [if_pos (by omega)]

theorem quiet_load_part {P : Program} {o : Oper} {a : Act} {C : World → Prop} {K : Act → Prop} (ty : TypeId) (x : Operand) (ho : o.op = .load ty x)
    (g : Nat) (hx : a.eval x = .pointer (some ⟨g, 0, none⟩)) (cs : List Value) (d : TypeDesc) (hc : ∀ w, C w → ∀ j v, cs[j]? = some v → w.cell? ⟨g, j, none⟩ = some v)
    (hu : P.underlying ty = some d) (hd : (match d with | .struct _ | .array _ _ => true | _ => false) = true) (hi : (P.info? ty).map (·.size) = some cs.length)
    (hk : K (a.put o.dst (.agg cs.toArray))) : o.quiet P a C K :=
  ⟨_, fun w hw => by
    unfold Oper.quietAt execOp
    simp only [ho, hx, Instr.loadAt, Instr.sureAddr, Sem.run_bind, Sem.run_pure, Result.andThen_ok, run_loadVar_part w g ty cs d (hc w hw) hu hd hi]
    exact ⟨rfl, rfl⟩, hk⟩
theorem isNaN_v (n : Int) (w : World) : Calls Try.prog 136 #[.int .i64 n] w fun e w' => e = .returned (.bool false) ∧ w = w' := by
  go_enter Try.func136, Try.ntmps136
  go_wp2
  go_ret
  exact ⟨rfl, rfl⟩
theorem cmp_v (x y : Int) (hxy : ¬ x = y) (w : World) : Calls Try.prog 122 #[.int .i64 x, .int .i64 y] w fun e w' => e = .returned (.int .i64 (if x < y then -1 else 1)) ∧ w' = w := by
  go_enter Try.func122, Try.ntmps122
  go_wp2_with fail
  refine (isNaN_v x _).mono ?_
  rintro e w1 ⟨rfl, rfl⟩
  go_wp2_with fail
  refine (isNaN_v y _).mono ?_
  rintro e w1 ⟨rfl, rfl⟩
  by_cases h : x < y
  · go_wp2
    go_ret
    exact ⟨rfl, rfl⟩
  · have h2 : y < x := by omega
    go_wp2
    go_ret
    exact ⟨rfl, rfl⟩

set_option maxHeartbeats 1600000 in
set_option maxRecDepth 100000 in
theorem compare_any {g g' : Nat} {A B : List Int} {f e f' e' : Nat} (w : World) (h : RowD w g A f e) (h' : RowD w g' B f' e') :
    Calls Try.prog 90 #[.pointer (some ⟨g, 0, none⟩), .pointer (some ⟨g', 0, none⟩)] w fun r w' => r = .returned (.int .i64 (dif A B)) ∧ Below w.heap.size w w' := by
  obtain ⟨C, hC⟩ : ∃ C, C = cellsN A := ⟨_, rfl⟩
  obtain ⟨C', hC'⟩ : ∃ C', C' = cellsN B := ⟨_, rfl⟩
  have hg : Try.prog.eqGuardType Try.prog.depth 119 = false := by kernel_rfl
  have heq : ∀ W : World, (Op.equalIn 10000 119 (.agg C.toArray) (.agg C'.toArray)).run Try.prog W = .ok (decide (A = B)) W := by
    intro W
    rw [hC, hC']
    exact run_equalIn_ints W 9998 119 3 Try.underlying119 Try.underlying3 Try.sizeN A B h.1 h'.1
  have HL : Hid (C.length = 30) := by show _ = _; rw [hC, cellsN_length, h.1]
  have HL' : Hid (C'.length = 30) := by show _ = _; rw [hC', cellsN_length, h'.1]
  have HQ : Hid (∀ w', (∃ n, w' = w.drewN n) → ∀ j v, C[j]? = some v → w'.cell? ⟨g, j, none⟩ = some v) := by
    rintro _ ⟨n, rfl⟩ j v hv
    rw [hC] at hv
    exact h.cells j v hv
  have HQ' : Hid (∀ w', (∃ n, w' = w.drewN n) → ∀ j v, C'[j]? = some v → w'.cell? ⟨g', j, none⟩ = some v) := by
    rintro _ ⟨n, rfl⟩ j v hv
    rw [hC'] at hv
    exact h'.cells j v hv
  have H := Lib.hid h
  have H' := Lib.hid h'
  have hlen : A.length = 30 := h.1
  have hlen' : B.length = 30 := h'.1
  have HLA := Lib.hid hlen
  have HLB := Lib.hid hlen'
  clear h h' hC hC' hlen hlen'
  by_cases hAB : A = B
  · have HAB := Lib.hid hAB
    have heq2 : ∀ W : World, (Op.equalIn 10000 119 (.agg C.toArray) (.agg C'.toArray)).run Try.prog W = .ok true W := fun W => by rw [heq W, decide_eq_true hAB]
    clear heq hAB
    go_enter Try.func90, Try.ntmps90
    go_wp2_with fail
    refine wp_region_quiet_lit (by kernel_rfl) (by kernel_rfl) ?_
    repeat (first
      | (go_big_quiet_want; refine quiet_load_part (o := ⟨some 9, _, _, _, _, _⟩) 119 (.tmp 8) rfl g rfl C _ HQ.out Try.underlying119 rfl (by rw [HL.out]; exact Try.sizeR) ?_; simp only [Act.put, List.setIfInBounds_toArray, List.set_cons_succ, List.set_cons_zero]; go_big_quiet_on)
      | (go_big_quiet_want; refine quiet_load_part (o := ⟨some 13, _, _, _, _, _⟩) 119 (.tmp 12) rfl g' rfl C' _ HQ'.out Try.underlying119 rfl (by rw [HL'.out]; exact Try.sizeR) ?_; simp only [Act.put, List.setIfInBounds_toArray, List.set_cons_succ, List.set_cons_zero]; go_big_quiet_on)
      | go_big_quiet_skip
      | (go_big_quiet_want; go_big_quiet_op; go_big_quiet_on))
    refine wpQuiet_nil ?_
    rintro _ ⟨nq, rfl⟩
    go_wp2
    go_ret
    exact ⟨ret_int (by rw [HAB.out, dif_self]), belowN (Below.refl _ _) _⟩
  · have HAB := Lib.hid hAB
    have heq2 : ∀ W : World, (Op.equalIn 10000 119 (.agg C.toArray) (.agg C'.toArray)).run Try.prog W = .ok false W := fun W => by rw [heq W, decide_eq_false hAB]
    clear heq hAB
    go_enter Try.func90, Try.ntmps90
    go_wp2_with fail
    refine wp_region_quiet_lit (by kernel_rfl) (by kernel_rfl) ?_
    repeat (first
      | (go_big_quiet_want; refine quiet_load_part (o := ⟨some 9, _, _, _, _, _⟩) 119 (.tmp 8) rfl g rfl C _ HQ.out Try.underlying119 rfl (by rw [HL.out]; exact Try.sizeR) ?_; simp only [Act.put, List.setIfInBounds_toArray, List.set_cons_succ, List.set_cons_zero]; go_big_quiet_on)
      | (go_big_quiet_want; refine quiet_load_part (o := ⟨some 13, _, _, _, _, _⟩) 119 (.tmp 12) rfl g' rfl C' _ HQ'.out Try.underlying119 rfl (by rw [HL'.out]; exact Try.sizeR) ?_; simp only [Act.put, List.setIfInBounds_toArray, List.set_cons_succ, List.set_cons_zero]; go_big_quiet_on)
      | go_big_quiet_skip
      | (go_big_quiet_want; go_big_quiet_op; go_big_quiet_on))
    refine wpQuiet_nil ?_
    rintro _ ⟨nq, rfl⟩
    have HB0 : Hid (Below w.heap.size w (w.drewN nq)) := belowN (Below.refl _ _) _
    have HR0 : Hid (RowD (w.drewN nq) g A f e ∧ RowD (w.drewN nq) g' B f' e') := ⟨H.out, H'.out⟩
    clear heq2 hg
    go_wp2
    go_loopw [5] (fun i wr => ∃ p : Nat, p ≤ 30 ∧ i = .int .i64 p ∧ Hid (A.take p = B.take p) ∧ Hid (dif A B = dif (A.drop p) (B.drop p)) ∧ Hid (RowD wr g A f e ∧ RowD wr g' B f' e') ∧ Below w.heap.size w wr) (fun i _ => 30 - (intOf i).toNat)
    case atStart => exact ⟨0, by omega, rfl, rfl, rfl, HR0, HB0.out⟩
    case round =>
      obtain ⟨p, hp, rfl, HT, HD, HR, hbl⟩ := hrel
      have hp30 : p < 30 := by
        rcases Nat.lt_or_ge p 30 with h | h
        · exact h
        · have := HT.out
          rw [List.take_of_length_le (by rw [HLA.out]; omega), List.take_of_length_le (by rw [HLB.out]; omega)] at this
          exact absurd this HAB.out
      have hpA : p < A.length := by rw [HLA.out]; exact hp30
      have hpB : p < B.length := by rw [HLB.out]; exact hp30
      have cA := HR.out.1.cell hp30
      have cB := HR.out.2.cell hp30
      by_cases hx : A[p] = B[p]
      · have HX := Lib.hid hx
        have hbq : (A[p] == B[p]) = true := by simp [hx]
        have HD2 := Lib.hid (dif_at hpA hpB hx)
        have HT2 : Hid (A.take (p + 1) = B.take (p + 1)) := by show _ = _; rw [List.take_succ_eq_append_getElem hpA, List.take_succ_eq_append_getElem hpB, HT.out, hx]
        clear hx
        go_wp2_with fail
        go_quiet (fail)
        go_wp2
        go_roundw
        case rel => exact ⟨p + 1, by omega, by go_num, HT2, by show _ = _; rw [HD.out, HD2.out], HR, belowN hbl _⟩
        case measure => simp [intOf]; omega
      · have HX := Lib.hid hx
        have hbq : (A[p] == B[p]) = false := by simp [hx]
        have HD2 := Lib.hid (dif_end hpA hpB hx)
        clear hx
        go_wp2_with fail
        go_quiet (fail)
        go_wp2_with fail
        go_quiet ((go_at_call 122; exact (cmp_v _ _ HX.out _).mono fun _ _ h => ⟨h.1, _, h.2⟩))
        go_wp2
        all_goals go_ret
        all_goals exact ⟨ret_int (by rw [HD.out, HD2.out]; split <;> omega), belowN hbl _⟩
end Go.Proofs.Ytoglgeinnocfjaa
/-
  Two deques compared: by the model and by the program.
-/
namespace Go.Proofs.Ytoglgeinnocfjaa
open Go.RowKit Go.Deep

def cdB (xs ys : List Int) (m q : Int) : Bool := validD xs m && validD ys q
def cdI (xs ys : List Int) (m q : Int) : Int := if cdB xs ys m q = true then lexN xs ys else 0
theorem cd_no {xs ys : List Int} {m q : Int} (h : Hid (cdB xs ys m q = false)) : Ending.returned (.tuple #[.int .i64 0, .bool false]) = .returned (.tuple #[.int .i64 (cdI xs ys m q), .bool (cdB xs ys m q)]) := by
  unfold cdI
  rw [h.out]
  rfl
theorem cd_yes {xs ys : List Int} {m q x : Int} (h : Hid (cdB xs ys m q = true)) (hx : x = lexN xs ys) : Ending.returned (.tuple #[.int .i64 x, .bool true]) = .returned (.tuple #[.int .i64 (cdI xs ys m q), .bool (cdB xs ys m q)]) := by
  unfold cdI
  rw [h.out, hx]
  rfl
/-- Two arguments' boxes. -/
structure DFrame2 (W0 W : World) (v : Value) (m : Int) (u : Value) (q : Int) : Prop where
  arg : W.heap[W0.heap.size]? = some (.cells #[v, .int .i64 m] 25 (0, 0))
  arg2 : W.heap[W0.heap.size + 1]? = some (.cells #[u, .int .i64 q] 25 (0, 0))
  below : Below W0.heap.size W0 W
theorem DFrame2.new (w : World) (v : Value) (m : Int) (u : Value) (q : Int) : DFrame2 w ((w.alloc (.cells #[v, .int .i64 m] 25)).alloc (.cells #[u, .int .i64 q] 25)) v m u q :=
  ⟨heap_old (heap_new w _) _, heap_at _ _ (by simp), ((Below.refl _ _).alloc (Nat.le_refl _) _).alloc (by simp) _⟩
section
variable {W0 W : World} {v u : Value} {m q : Int}
theorem DFrame2.size (D : DFrame2 W0 W v m u q) : W0.heap.size + 2 ≤ W.heap.size := by
  have := (Array.getElem?_eq_some_iff.1 D.arg2).1
  omega
theorem DFrame2.step (D : DFrame2 W0 W v m u q) {W' : World} (hb : Below W.heap.size W W') : DFrame2 W0 W' v m u q := by
  have hs := D.size
  exact ⟨(hb.block _ (by omega)).trans D.arg, (hb.block _ (by omega)).trans D.arg2, D.below.trans (hb.mono (by omega))⟩
theorem DFrame2.nums (D : DFrame2 W0 W v m u q) {z : Value} {xs : List Int} (h : Nums W0 z xs) : Nums W z xs := h.mono D.below (Nat.le_refl _)
end

set_option maxHeartbeats 1600000 in
set_option maxRecDepth 100000 in
theorem CompareDeques_any (v u : Value) (xs ys : List Int) (m q : Int) (w : World) (h : Nums w v xs) (h' : Nums w u ys) :
    Calls Try.prog 34 #[.agg #[v, .int .i64 m], .agg #[u, .int .i64 q]] w (RetN (.tuple #[.int .i64 (cdI xs ys m q), .bool (cdB xs ys m q)]) w) := by
  have HX := Lib.hid h
  have HY := Lib.hid h'
  have g := h
  have g' := h'
  obtain ⟨ao, cap, rfl, hlc, hcm, hok, hcell⟩ := g
  obtain ⟨bo, bap, rfl, hlc', hcm', hok', hcell'⟩ := g'
  clear h h'
  go_enter Try.func34, Try.ntmps34
  have D := DFrame2.new w (.slice ao xs.length cap) m (.slice bo ys.length bap) q
  have c0 := two_cell0 D.arg
  have c1 := two_cell1 D.arg
  have d0 := two_cell0 D.arg2
  have d1 := two_cell1 D.arg2
  cases hv : validD xs m
  all_goals
    have HV := Lib.hid hv
    clear hv
    go_wp2_with fail
    refine (VD_v _ (D.nums HX.out) HV.out).mono ?_
    rintro e w1 ⟨rfl, hb⟩
    have D1 := D.step hb
    clear hb c0 c1 d0 d1
    have d0 := two_cell0 D1.arg2
    have d1 := two_cell1 D1.arg2
  · go_wp2
    go_ret2
    exact ⟨cd_no (and_no1 HV), D1.below⟩
  · cases hm : validD ys q
    all_goals
      have HM := Lib.hid hm
      clear hm
      go_wp2_with fail
      refine (VD_v _ (D1.nums HY.out) HM.out).mono ?_
      rintro e w2 ⟨rfl, hb⟩
      have D2 := D1.step hb
      clear hb d0 d1
    · go_wp2
      go_ret2
      exact ⟨cd_no (and_no2 HM), D2.below⟩
    · have hl := validD_len HV.out
      have hl' := validD_len HM.out
      have HB := and_yes HV HM
      have c0 := two_cell0 D2.arg
      have d0 := two_cell0 D2.arg2
      have DD : DFrame2 w w2.drew (.slice ao xs.length cap) m (.slice bo ys.length bap) q := ⟨D2.arg, D2.arg2, D2.below.drew⟩
      have HXD := Lib.hid (DD.nums HX.out)
      go_wp2_with fail
      go_region_with (first
        | (go_at_call 69; with_reducible refine (rowOf_any _ xs w2.drew HXD.out (by omega)).mono ?_; rintro e w3 ⟨rfl, hr, hb⟩; have HR := Lib.hid hr; have HBL := Lib.hid hb; have D3 := DD.step hb; clear hr hb; have k0 := two_cell0 D3.arg; have k1 := two_cell0 D3.arg2)
        | (go_at_call 69; with_reducible refine (rowOf_any _ ys w3 (D3.nums HY.out) (by omega)).mono ?_; rintro e w4 ⟨rfl, hr, hb⟩; have HR4 := Lib.hid (HR.out.below hb HR.out.lt); have HR5 := Lib.hid hr; have D4 := D3.step hb; clear hr hb)
        | (go_at_call 90; refine (compare_any w4 HR4.out HR5.out).mono ?_; rintro e w5 ⟨rfl, hb⟩; have D5 := D4.step hb; clear hb))
      all_goals go_wp2
      all_goals go_ret2
      all_goals exact ⟨cd_yes HB (dif_new (by omega) (by omega) (validD_all HV.out) (validD_all HM.out)), D5.below⟩

theorem lex_lt {xs ys : List Int} {k : Nat} (h1 : k < xs.length) (h2 : k < ys.length) (h : xs[k] < ys[k]) : lexN (xs.drop k) (ys.drop k) = -1 := by
  rw [List.drop_eq_getElem_cons h1, List.drop_eq_getElem_cons h2]
  simp [lexN, h]
theorem lex_gt {xs ys : List Int} {k : Nat} (h1 : k < xs.length) (h2 : k < ys.length) (h : ys[k] < xs[k]) : lexN (xs.drop k) (ys.drop k) = 1 := by
  rw [List.drop_eq_getElem_cons h1, List.drop_eq_getElem_cons h2]
  simp only [lexN]
  rw [if_neg (by omega), if_pos h]
theorem lex_eq {xs ys : List Int} {k : Nat} (h1 : k < xs.length) (h2 : k < ys.length) (h : xs[k] = ys[k]) : lexN (xs.drop k) (ys.drop k) = lexN (xs.drop (k + 1)) (ys.drop (k + 1)) := by
  rw [List.drop_eq_getElem_cons h1, List.drop_eq_getElem_cons h2]
  simp only [lexN]
  rw [if_neg (by omega), if_neg (by omega)]
theorem lex_gone {xs ys : List Int} (h : ys.length < xs.length) : lexN (xs.drop ys.length) (ys.drop ys.length) = 1 := by
  rw [List.drop_length, List.drop_eq_getElem_cons h]
  rfl
theorem lex_end {xs ys : List Int} (h : xs.length ≤ ys.length) : lexN (xs.drop xs.length) (ys.drop xs.length) = if xs.length = ys.length then 0 else -1 := by
  rw [List.drop_length]
  split
  · rename_i e
    rw [List.drop_of_length_le (by omega)]
    rfl
  · rw [List.drop_eq_getElem_cons (by omega)]
    rfl

set_option maxHeartbeats 1600000 in
set_option maxRecDepth 100000 in
theorem sCompareDeques_any (v u : Value) (xs ys : List Int) (m q : Int) (w : World) (h : Nums w v xs) (h' : Nums w u ys) :
    Calls Try.prog 35 #[.agg #[v, .int .i64 m], .agg #[u, .int .i64 q]] w (RetN (.tuple #[.int .i64 (cdI xs ys m q), .bool (cdB xs ys m q)]) w) := by
  have HX := Lib.hid h
  have HY := Lib.hid h'
  have g := h
  have g' := h'
  obtain ⟨ao, cap, rfl, hlc, hcm, hok, hcell⟩ := g
  obtain ⟨bo, bap, rfl, hlc', hcm', hok', hcell'⟩ := g'
  clear h h'
  go_enter Try.func35, Try.ntmps35
  have D := DFrame2.new w (.slice ao xs.length cap) m (.slice bo ys.length bap) q
  have c0 := two_cell0 D.arg
  have c1 := two_cell1 D.arg
  have d0 := two_cell0 D.arg2
  have d1 := two_cell1 D.arg2
  cases hv : validD xs m
  all_goals
    have HV := Lib.hid hv
    clear hv
    go_wp2_with fail
    refine (svD_v _ (D.nums HX.out) HV.out).mono ?_
    rintro e w1 ⟨rfl, hb⟩
    have D1 := D.step hb
    clear hb c0 c1 d0 d1
    have d0 := two_cell0 D1.arg2
    have d1 := two_cell1 D1.arg2
  · go_wp2
    go_ret2
    exact ⟨cd_no (and_no1 HV), D1.below⟩
  · cases hm : validD ys q
    all_goals
      have HM := Lib.hid hm
      clear hm
      go_wp2_with fail
      refine (svD_v _ (D1.nums HY.out) HM.out).mono ?_
      rintro e w2 ⟨rfl, hb⟩
      have D2 := D1.step hb
      clear hb d0 d1
    · go_wp2
      go_ret2
      exact ⟨cd_no (and_no2 HM), D2.below⟩
    · have hl := validD_len HV.out
      have hl' := validD_len HM.out
      have HB := and_yes HV HM
      have c0 := two_cell0 D2.arg
      have d0 := two_cell0 D2.arg2
      have HB2 : Hid (Below w.heap.size w w2) := D2.below
      go_wp2
      go_loopw [6] (fun i wr => ∃ k : Nat, k ≤ xs.length ∧ k ≤ ys.length ∧ i = .int .i64 k ∧ Hid (lexN xs ys = lexN (xs.drop k) (ys.drop k)) ∧ Hid (DFrame2 w wr (.slice ao xs.length cap) m (.slice bo ys.length bap) q)) (fun i _ => xs.length - (intOf i).toNat)
      case atStart => exact ⟨0, Nat.zero_le _, Nat.zero_le _, rfl, rfl, D2⟩
      case round =>
        obtain ⟨k, hk, hk', rfl, HQ, HD⟩ := hrel
        have e0 := two_cell0 HD.out.arg
        have e1 := two_cell0 HD.out.arg2
        by_cases hlt : k < xs.length
        · by_cases hlt' : k < ys.length
          · obtain ⟨b, o, rfl, hb, h1⟩ := hcell k hlt
            obtain ⟨b', o', rfl, hb', h1'⟩ := hcell' k hlt'
            have x1 := (HD.out.below.cell (p := ⟨b, _, none⟩) hb).trans h1
            have x2 := (HD.out.below.cell (p := ⟨b', _, none⟩) hb').trans h1'
            rcases Int.lt_trichotomy xs[k] ys[k] with hx | hx | hx
            · have HL := Lib.hid (lex_lt hlt hlt' hx)
              go_wp2_with fail
              go_quiet (fail)
              go_wp2
              go_ret2
              exact ⟨cd_yes HB (by rw [HQ.out, HL.out]), belowN HD.out.below _⟩
            · have HL := Lib.hid (lex_eq hlt hlt' hx)
              have hx1 : ¬ xs[k] < ys[k] := by omega
              have hx2 : ¬ ys[k] < xs[k] := by omega
              clear hx
              go_wp2_with fail
              go_quiet (fail)
              go_wp2_with fail
              go_quiet (fail)
              go_wp2
              go_roundw
              case rel => exact ⟨k + 1, by omega, by omega, by go_num, by show _ = _; rw [HQ.out, HL.out], ⟨HD.out.arg, HD.out.arg2, belowN HD.out.below _⟩⟩
              case measure => simp [intOf]; omega
            · have HL := Lib.hid (lex_gt hlt hlt' hx)
              have hx1 : ¬ xs[k] < ys[k] := by omega
              go_wp2_with fail
              go_quiet (fail)
              go_wp2_with fail
              go_quiet (fail)
              go_wp2
              go_ret2
              exact ⟨cd_yes HB (by rw [HQ.out, HL.out]), belowN (belowN HD.out.below _) _⟩
          · obtain rfl : k = ys.length := by omega
            have HL := Lib.hid (lex_gone hlt)
            have hgt : (ys.length : Int) < (xs.length : Int) := by omega
            go_wp2
            all_goals go_ret2
            all_goals exact ⟨cd_yes HB (by rw [HQ.out, HL.out] <;> omega), HD.out.below⟩
        · obtain rfl : k = xs.length := by omega
          have HL := Lib.hid (lex_end hk')
          go_wp2
          all_goals go_ret2
          all_goals exact ⟨cd_yes HB (by rw [HQ.out, HL.out]; split <;> omega), HD.out.below⟩
end Go.Proofs.Ytoglgeinnocfjaa
