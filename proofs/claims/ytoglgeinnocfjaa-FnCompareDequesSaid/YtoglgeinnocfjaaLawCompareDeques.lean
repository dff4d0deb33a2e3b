/-
  FnCompareDeques: true, for every code.
-/
import Derived.Test.YtoglgeinnocfjaaE7
import Derived.Test.YtoglgeinnocfjaaE11
import Derived.Test.YtoglgeinnocfjaaE13
import Derived.Test.YtoglgeinnocfjaaE16
import Derived.Test.YtoglgeinnocfjaaE17
import Derived.Test.YtoglgeinnocfjaaE18
namespace Go.Proofs.Ytoglgeinnocfjaa
open Go.RowKit
open Go.ChangeShapes Go.WideShapes Go.ChangeAt Go.Deep

theorem lex_self : ∀ xs : List Int, lexN xs xs = 0
  | [] => rfl
  | x :: xs => by
    show (if x < x then -1 else if x < x then 1 else lexN xs xs) = 0
    rw [if_neg (by omega), if_neg (by omega)]
    exact lex_self xs
theorem lex_swap : ∀ xs ys : List Int, lexN ys xs = -lexN xs ys
  | [], [] => rfl
  | [], _ :: _ => rfl
  | _ :: _, [] => rfl
  | x :: xs, y :: ys => by
    show (if y < x then -1 else if x < y then 1 else lexN ys xs) = -(if x < y then -1 else if y < x then 1 else lexN xs ys)
    rw [lex_swap xs ys]
    by_cases h1 : x < y
    · rw [if_neg (by omega), if_pos h1, if_pos h1]
      rfl
    · by_cases h2 : y < x
      · rw [if_pos h2, if_neg h1, if_pos h2]
      · rw [if_neg h2, if_neg h1, if_neg h1, if_neg h2]
theorem lex_more (z : Int) : ∀ xs : List Int, lexN xs (xs ++ [z]) = -1
  | [] => rfl
  | x :: xs => by
    show (if x < x then -1 else if x < x then 1 else lexN xs (xs ++ [z])) = -1
    rw [if_neg (by omega), if_neg (by omega)]
    exact lex_more z xs
theorem lex_zero : ∀ xs ys : List Int, lexN xs ys = 0 ↔ xs = ys
  | [], [] => by simp [lexN]
  | [], _ :: _ => by simp [lexN]
  | _ :: _, [] => by simp [lexN]
  | x :: xs, y :: ys => by
    show (if x < y then -1 else if y < x then 1 else lexN xs ys) = 0 ↔ _
    rw [List.cons.injEq]
    by_cases h1 : x < y
    · rw [if_pos h1]
      constructor
      · intro h; omega
      · intro h; omega
    · by_cases h2 : y < x
      · rw [if_neg h1, if_pos h2]
        constructor
        · intro h; omega
        · intro h; omega
      · rw [if_neg h1, if_neg h2, lex_zero xs ys]
        constructor
        · intro h; exact ⟨by omega, h⟩
        · intro h; exact h.2
theorem lex_bd : ∀ xs ys : List Int, -1 ≤ lexN xs ys ∧ lexN xs ys ≤ 1
  | [], [] => by simp [lexN]
  | [], _ :: _ => by simp [lexN]
  | _ :: _, [] => by simp [lexN]
  | x :: xs, y :: ys => by
    show -1 ≤ (if x < y then -1 else if y < x then 1 else lexN xs ys) ∧ (if x < y then -1 else if y < x then 1 else lexN xs ys) ≤ 1
    have := lex_bd xs ys
    split
    · omega
    · split <;> omega
theorem push_more {xs : List Int} {m : Int} (hv : validD xs m = true) (h : extB xs [5] (-1) = true) : cdB xs (extL xs [5] (-1)) m (-1) = true ∧ cdI xs (extL xs [5] (-1)) m (-1) = -1 := by
  have e : extL xs [5] (-1) = xs ++ [5] := by unfold extL fitB; rw [if_neg (by omega)]
  unfold extB at h
  simp only [Bool.and_eq_true] at h
  have h2 : cdB xs (extL xs [5] (-1)) m (-1) = true := by unfold cdB; rw [hv, h.2]; rfl
  refine ⟨h2, ?_⟩
  unfold cdI
  rw [if_pos h2, e]
  exact lex_more 5 xs

set_option maxHeartbeats 4000000 in
set_option maxRecDepth 100000 in
theorem FnCompareDeques_walk (v : Value) (bs : List Int) (w : World) (h : Bytes w v bs) :
    Calls Try.prog 7 #[v] w fun e w' => e = .returned (.bool true) ∧ Below w.heap.size w w' := by
  have h0 := h
  obtain ⟨ao, cap, rfl, hl, hc, hok, hcell⟩ := h0
  clear hcell hok
  go_enter Try.func7, Try.ntmps7
  by_cases hbig : (1048576 : Int) < (bs.length : Int)
  · go_wp2
    go_ret
    exact ⟨rfl, Below.refl _ _⟩
  go_wp2_with fail
  refine (DrawCompareDeques_any _ bs w h).mono ?_
  rintro e w1 ⟨va, xs, m, vb, ys, q, rfl, hxa, hxb, hbnd, hb1⟩
  obtain ⟨ap, ac, rfl, hac, ham⟩ := hxa.slice
  obtain ⟨bp, bc, rfl, hbc, hbm⟩ := hxb.slice
  have HXa := Lib.hid hxa
  have HXb := Lib.hid hxb
  have H1 := Things.nil w1
  have H2 := H1.boxed 25 [.slice ap xs.length ac, .int .i64 m]
  have H3 := H2.boxedAs (w1.heap.size + 1) (by simp) 25 [.slice bp ys.length bc, .int .i64 q]
  clear H1 H2 h hxa hxb
  obtain ⟨O, hO⟩ : ∃ O, Hid (O = cdI xs ys m q) := ⟨_, Lib.hid rfl⟩
  obtain ⟨K, hK⟩ : ∃ K, Hid (K = cdB xs ys m q) := ⟨_, Lib.hid rfl⟩
  have cI := Lib.hid (fun (v0 v1 : Value) (w : World) (h0 : Nums w v0 xs) (h1 : Nums w v1 ys) => (show Calls Try.prog 34 #[.agg #[v0, .int .i64 m], .agg #[v1, .int .i64 q]] w (RetN (.tuple #[.int .i64 O, .bool K]) w) by rw [hO.out, hK.out]; exact CompareDeques_any v0 v1 xs ys m q w h0 h1))
  have cS := Lib.hid (fun (v0 v1 : Value) (w : World) (h0 : Nums w v0 xs) (h1 : Nums w v1 ys) => (show Calls Try.prog 35 #[.agg #[v0, .int .i64 m], .agg #[v1, .int .i64 q]] w (RetN (.tuple #[.int .i64 O, .bool K]) w) by rw [hO.out, hK.out]; exact sCompareDeques_any v0 v1 xs ys m q w h0 h1))
  obtain ⟨a0_, a1_⟩ := H3.box2 1 rfl
  obtain ⟨b0_, b1_⟩ := H3.box2 0 rfl
  go_wp2_with fail
  refine (cI.out _ _ _ (H3.argN HXa.out) (H3.argN HXb.out)).mono ?_
  rintro e w4 ⟨rfl, hb⟩
  have H4 := H3.quiet hb
  clear a0_ a1_ b0_ b1_
  clear hb H3
  obtain ⟨a0_, a1_⟩ := H4.box2 1 rfl
  obtain ⟨b0_, b1_⟩ := H4.box2 0 rfl
  go_wp2_with fail
  refine (cS.out _ _ _ (H4.argN HXa.out) (H4.argN HXb.out)).mono ?_
  rintro e w5 ⟨rfl, hb⟩
  have H5 := H4.quiet hb
  clear a0_ a1_ b0_ b1_
  clear hb H4
  clear cI cS
  cases K
  · skip
    go_wp2
    go_ret
    exact ⟨rfl, hb1.trans (H5.below.mono hb1.size)⟩
  · have hk := hK.out.symm
    have hvx : validD xs m = true := by unfold cdB at hk; rw [Bool.and_eq_true] at hk; exact hk.1
    have hvy : validD ys q = true := by unfold cdB at hk; rw [Bool.and_eq_true] at hk; exact hk.2
    have hOe : O = lexN xs ys := by rw [hO.out]; unfold cdI; rw [if_pos hk]
    have hkt : cdB ys xs q m = true := by unfold cdB; rw [hvx, hvy]; rfl
    have hks : cdB xs xs m m = true := by unfold cdB; rw [hvx]; rfl
    have cT := Lib.hid (fun (v0 v1 : Value) (w : World) (h0 : Nums w v0 ys) (h1 : Nums w v1 xs) => (show Calls Try.prog 34 #[.agg #[v0, .int .i64 q], .agg #[v1, .int .i64 m]] w (RetN (.tuple #[.int .i64 (-O), .bool true]) w) by have h2 := CompareDeques_any v0 v1 ys xs q m w h0 h1; unfold cdI at h2; rw [hkt, if_pos rfl, lex_swap, ← hOe] at h2; exact h2))
    have cU := Lib.hid (fun (v0 v1 : Value) (w : World) (h0 : Nums w v0 xs) (h1 : Nums w v1 xs) => (show Calls Try.prog 34 #[.agg #[v0, .int .i64 m], .agg #[v1, .int .i64 m]] w (RetN (.tuple #[.int .i64 0, .bool true]) w) by have h2 := CompareDeques_any v0 v1 xs xs m m w h0 h1; unfold cdI at h2; rw [hks, if_pos rfl, lex_self] at h2; exact h2))
    obtain ⟨P, hP⟩ : ∃ P, Hid (P = ifN (extB xs [5] (-1)) (extL xs [5] (-1))) := ⟨_, Lib.hid rfl⟩
    obtain ⟨p1, hp1⟩ : ∃ p1, Hid (p1 = ifI (extB xs [5] (-1)) (-1)) := ⟨_, Lib.hid rfl⟩
    obtain ⟨F, hF⟩ : ∃ F, Hid (F = extB xs [5] (-1)) := ⟨_, Lib.hid rfl⟩
    have cP := Lib.hid (fun (v0 : Value) (w : World) (h0 : Nums w v0 xs) => (show Calls Try.prog 19 #[.agg #[v0, .int .i64 (-1)], .int .i64 5] w (NewD P p1 F w) by rw [hP.out, hp1.out, hF.out]; exact PushBack_any v0 xs (-1) 5 w h0 (by omega)))
    obtain ⟨L1, hL1⟩ : ∃ L1, Hid (L1 = cdI xs P m p1) := ⟨_, Lib.hid rfl⟩
    obtain ⟨L2, hL2⟩ : ∃ L2, Hid (L2 = cdB xs P m p1) := ⟨_, Lib.hid rfl⟩
    have cL := Lib.hid (fun (v0 v1 : Value) (w : World) (h0 : Nums w v0 xs) (h1 : Nums w v1 P) => (show Calls Try.prog 34 #[.agg #[v0, .int .i64 m], .agg #[v1, .int .i64 p1]] w (RetN (.tuple #[.int .i64 L1, .bool L2]) w) by rw [hL1.out, hL2.out]; exact CompareDeques_any v0 v1 xs P m p1 w h0 h1))
    have hFL : Hid (F = true → L1 = -1) := fun hf => by
      have h1 : extB xs [5] (-1) = true := by rw [← hF.out]; exact hf
      have h2 : P = extL xs [5] (-1) := by rw [hP.out, h1]; rfl
      have h3 : p1 = -1 := by rw [hp1.out, h1]; rfl
      rw [hL1.out, h2, h3]
      exact (push_more hvx h1).2
    have hbd := lex_bd xs ys
    rw [← hOe] at hbd
    have hneg : IntKind.i64.wrap (-O) = -O := IntWalk.i64_in _ (by omega)
    obtain ⟨D, hD⟩ : ∃ D, Hid (D = decide (xs = ys)) := ⟨_, Lib.hid rfl⟩
    have hOD : Hid ((O == 0) = D) := by unfold Hid; rw [hD.out, Bool.eq_iff_iff, beq_iff_eq, decide_eq_true_iff, hOe]; exact lex_zero xs ys
    have cE := Lib.hid (fun (v0 v1 : Value) (w : World) (h0 : Nums w v0 xs) (h1 : Nums w v1 ys) => (show Calls Try.prog 25 #[v0, v1] w (RetN (.bool D) w) by have h2 := equalInts_any v0 v1 xs ys w h0 h1; rw [← hD.out] at h2; exact h2))
    clear hO hK hk hvx hvy hOe hkt hks hP hp1 hF hL1 hL2 hbd hbnd hD
    obtain ⟨a0_, a1_⟩ := H5.box2 1 rfl
    obtain ⟨b0_, b1_⟩ := H5.box2 0 rfl
    go_wp2_with fail
    refine (cT.out _ _ _ (H5.argN HXb.out) (H5.argN HXa.out)).mono ?_
    rintro e w6 ⟨rfl, hb⟩
    have H6 := H5.quiet hb
    clear a0_ a1_ b0_ b1_
    clear hb H5
    obtain ⟨a0_, a1_⟩ := H6.box2 1 rfl
    obtain ⟨b0_, b1_⟩ := H6.box2 0 rfl
    go_wp2_with fail
    refine (cU.out _ _ _ (H6.argN HXa.out) (H6.argN HXa.out)).mono ?_
    rintro e w7 ⟨rfl, hb⟩
    have H7 := H6.quiet hb
    clear a0_ a1_ b0_ b1_
    clear hb H6
    clear cT cU
    obtain ⟨a0_, a1_⟩ := H7.box2 1 rfl
    go_wp2_with fail
    refine (cP.out _ _ (H7.argN HXa.out)).mono ?_
    rintro e w8 ⟨ve, rfl, ho, hbl⟩
    have H8 := H7.newN ho hbl
    obtain ⟨ep, ec, rfl, hec, hem⟩ := (H8.nums 0 rfl).slice
    have H9 := H8.boxed 25 [.slice ep P.length ec, .int .i64 p1]
    clear a0_ a1_
    clear H7 H8 ho hbl
    clear cP
    obtain ⟨a0_, a1_⟩ := H9.box2 3 rfl
    obtain ⟨e0_, e1_⟩ := H9.box2 0 rfl
    go_wp2_with fail
    refine (cL.out _ _ _ (H9.argN HXa.out) (H9.nums 1 rfl)).mono ?_
    rintro e w10 ⟨rfl, hb⟩
    have H10 := H9.quiet hb
    clear a0_ a1_ e0_ e1_
    clear hb H9
    clear cL
    cases F
    · clear hFL
      obtain ⟨a0_, a1_⟩ := H10.box2 3 rfl
      obtain ⟨b0_, b1_⟩ := H10.box2 2 rfl
      go_wp2_with fail
      refine (cE.out _ _ _ (H10.argN HXa.out) (H10.argN HXb.out)).mono ?_
      rintro e w11 ⟨rfl, hb⟩
      have H11 := H10.quiet hb
      clear a0_ a1_ b0_ b1_
      clear hb H10
      have hz : ((O == 0) == D) = true := by rw [hOD.out]; exact beq_self_eq_true _
      go_wp2
      go_ret
      exact ⟨rfl, hb1.trans (H11.below.mono hb1.size)⟩
    · obtain rfl : L1 = -1 := hFL.out rfl
      obtain ⟨a0_, a1_⟩ := H10.box2 3 rfl
      obtain ⟨b0_, b1_⟩ := H10.box2 2 rfl
      go_wp2_with fail
      refine (cE.out _ _ _ (H10.argN HXa.out) (H10.argN HXb.out)).mono ?_
      rintro e w11 ⟨rfl, hb⟩
      have H11 := H10.quiet hb
      clear a0_ a1_ b0_ b1_
      clear hb H10
      have hz : ((O == 0) == D) = true := by rw [hOD.out]; exact beq_self_eq_true _
      go_wp2
      go_ret
      exact ⟨rfl, hb1.trans (H11.below.mono hb1.size)⟩

set_option maxRecDepth 100000 in
theorem FnCompareDeques_lifted (os : Os) (started : os.Started) (H : Type) (enc : TypeId × Value → H) :
    ReturnsInHanded {} Try.checked os 7 .any (Rows.fnCompareDequesSpec.pre6 enc Try.prog Try.f7 Rows.fnCompareDequesRow.domain false) (Rows.fnCompareDequesSpec.post enc Try.prog Try.f7 false true false false) := by
  refine returnsInHanded_of_change (C := Try.checked) own started (by kernel_rfl) Try.func7
    (ChangeSpec.witness6 (enc := enc) (C := Try.checked) false ⟨#[], #[.slice none 0 0], []⟩ 8 (by kernel_rfl) (by kernel_rfl) (by kernel_rfl) (by kernel_rfl)) ?_
  intro W base args ds gs before hval0 hW _ _
  have hval : ∀ (j : Nat) t v, Try.f7.params[j]? = some t → args[j]? = some v → Value.okWide Try.prog W .any base t v := hval0
  have hW' := hW
  obtain ⟨p, q, hA0, hV, rfl, _, _⟩ := hW
  have hA : DataW.TrodAll enc Try.prog W 0 (fun _ => true) true Try.f7.params.toList args.toList ds p := hA0
  rw [Try.params7] at hA hval
  obtain ⟨v0, vs0, d0, ds0, p0, q0, hargs, rfl, rfl, h0, r0⟩ := trodAll_cons hA
  obtain ⟨rfl, rfl, rfl⟩ := trodAll_nil r0
  obtain rfl : args = #[v0] := by cases args; simp_all
  obtain ⟨rfl, rfl⟩ := trodVars_none hV
  obtain ⟨xs0, hI0⟩ := open_bytes (hval 0 _ v0 rfl rfl) h0
  refine (FnCompareDeques_walk v0 xs0 W hI0).mono fun e W' ⟨he, hb⟩ => ⟨_, he, ?_⟩
  exact law_end rfl (by rw [Try.params7]; decide +kernel) rfl hW' rfl rfl rfl hb

theorem FnCompareDeques_facts : joinedFacts Try.prog 7 Try.f7 Rows.fnCompareDequesSpec Rows.fnCompareDequesRow = true :=
  facts_of (by kernel_rfl) q2 q3 (by kernel_rfl) (by kernel_rfl) (by kernel_rfl) q7 (by kernel_rfl) q9 (by kernel_rfl) (by kernel_rfl) (by kernel_rfl) (by kernel_rfl) (by kernel_rfl) (by kernel_rfl) (by kernel_rfl) (by kernel_rfl) (by kernel_rfl) (by kernel_rfl) (by kernel_rfl) (by kernel_rfl) (by kernel_rfl)
    (by rw [q22]; kernel_rfl) (by kernel_rfl) q23 head_enter (by kernel_rfl) head_lifts head_make (by kernel_rfl) (by kernel_rfl) (by kernel_rfl) (by kernel_rfl) (by kernel_rfl)

theorem FnCompareDeques_holds : Rows.FnCompareDequesSaid :=
  OpenClaim.holds_of_wide 7 Try.f7 rfl rfl rfl rfl rfl rfl rfl ⟨rfl, rfl, rfl, rfl, rfl⟩ rfl rfl rfl rfl rfl (by kernel_rfl) Try.func7 FnCompareDeques_facts
    (of_decide_eq_true (by kernel_rfl)) (by unfold Func.isWrapper; first | (rw [if_pos (by decide +kernel)]; kernel_rfl) | (rw [if_neg (by decide +kernel)]; exact ⟨rfl, rfl⟩))
    (fun os started H enc _ => FnCompareDeques_lifted os started H enc)
end Go.Proofs.Ytoglgeinnocfjaa
