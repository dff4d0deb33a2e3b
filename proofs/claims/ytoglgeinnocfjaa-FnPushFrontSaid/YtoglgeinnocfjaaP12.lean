/-
  DqS.
-/
import Derived.Deep.RegionLaw
import Derived.Test.YtoglgeinnocfjaaP9
/-
  The model's small functions over numbers: a copy, the last ones, the first ones, turned.
-/
namespace Go.Proofs.Ytoglgeinnocfjaa
open Go.RowKit Go.Deep

def OwnR (w : World) (B : Nat) (v : Value) (xs : List Int) : Prop := w.ownsRow B 3 1 v xs.length (cellsN xs) ∧ okN xs
theorem OwnR.own {w : World} {B : Nat} {v : Value} {xs : List Int} (h : OwnR w B v xs) : OwnN B w.heap.size w v xs := OwnN.of h.1 h.2
theorem OwnR.nums {w : World} {B : Nat} {v : Value} {xs : List Int} (h : OwnR w B v xs) : Nums w v xs := h.own.nums
theorem OwnR.below {w w' : World} {B C : Nat} {v : Value} {xs : List Int} (h : OwnR w B v xs) (hb : Below C w w') (hC : w.heap.size ≤ C) : OwnR w' B v xs := ⟨ownsRow_below h.1 hb hC, h.2⟩
def FreshR (xs : List Int) (w : World) (e : Ending) (w' : World) : Prop := ∃ v, e = .returned v ∧ OwnR w' w.heap.size v xs ∧ Below w.heap.size w w'
theorem undrewB {B : Nat} {w w' : World} (h : Below B w.drew w') : Below B w w' := ⟨h.os, h.tape, h.output, h.size, h.block⟩

/-- Numbers appended. -/
theorem run_append_nums (w : World) (ty : TypeId) (base : Nat) (v : Value) (n : Nat) (xs : List Value) (hown : w.ownsRow base 3 1 v n xs)
    (u : Value) (ys : List Int) (hy : Nums w u ys) (hn : n ≤ 1000000) (hm : ys.length ≤ 1000000) (hbase : base ≤ w.heap.size) :
    ∃ v' w', (Builtin.append_ #[23, 23] ty #[v, u]).run Try.prog w = .ok v' w' ∧ w'.ownsRow base 3 1 v' (n + ys.length) (xs ++ cellsN ys) ∧ w.grownBy w' v.ownBlock := by
  obtain ⟨i0, hi0, hz0, hz1, hz2⟩ := info_parts Try.infoN
  have hy0 := hy
  obtain ⟨ao, cap, rfl, hlc, hcm, hok, hcell⟩ := hy
  cases ao with
  | none =>
    have hx0 : ys = [] := by
      cases ys with
      | nil => rfl
      | cons y r => obtain ⟨b, o, e, _⟩ := hcell 0 (by simp); cases e
    subst hx0
    have hrun := run_append_nothing (P := Try.prog) (w := w) base 23 ty 3 i0 1 Try.underlying23 hi0 v n xs hown cap
    have e : cellsN [] = [] := rfl
    exact ⟨v, w, hrun, by rw [e, List.append_nil]; exact hown, World.grownBy.refl _ _⟩
  | some ad =>
    obtain ⟨b, o', sp⟩ := ad
    obtain ⟨v', w', hrun, r1, r2, _⟩ := run_append_own (P := Try.prog) w base 23 ty 3 i0 (.int .i64 0) 1 8 Try.underlying23 hi0 hz0 hz1 hz2 rfl (by decide) v n xs hown ⟨b, o', sp⟩ ys.length cap (cellsN ys) (by rw [cellsN_length, Nat.mul_one]) hy0.news (cellsN_one ys) (by unfold maxLen; omega) (by omega) hbase
    exact ⟨v', w', hrun, r1, r2⟩
theorem wpl_append_nums (w : World) {ops : Array Oper} {rest : List Oper} {o : Oper} {a : Act} {Q : Exit → Act → World → Prop} (hgd : o.guard = none) (s x : Operand)
    (ho : o.op = .call { callee := .builtin .append, args := #[s, x], argTypes := #[23, 23] })
    (base : Nat) (v : Value) (n : Nat) (xs : List Value) (hs : a.eval s = v) (hown : w.ownsRow base 3 1 v n xs)
    (u : Value) (ys : List Int) (hx : a.eval x = u) (hy : Nums w u ys) (hn : n ≤ 1000000) (hm : ys.length ≤ 1000000) (hbase : base ≤ w.heap.size)
    (h : ∀ v' w', w'.ownsRow base 3 1 v' (n + ys.length) (xs ++ cellsN ys) → w.grownBy w' v.ownBlock → wpList Try.prog ops Q rest (a.put o.dst v') w') : wpList Try.prog ops Q (o :: rest) a w := by
  obtain ⟨v', w', hrun, r1, r2⟩ := run_append_nums w o.type base v n xs hown u ys hy hn hm hbase
  refine wpList_plain hgd fun K hK => ?_
  unfold Oper.wp
  simp [execOp, ho, resolve, invoke, builtin, hs, hx, hrun, Result.andThen]
  exact hK _ _ (h v' w' r1 r2)
theorem step_append_nums (w : World) {ops : Array Oper} {o : Oper} {a : Act} {K : Act → World → Prop} {Q : Exit → Act → World → Prop} {E : Prop} (hgd : o.guard = none) (s x : Operand)
    (ho : o.op = .call { callee := .builtin .append, args := #[s, x], argTypes := #[23, 23] })
    (base : Nat) (v : Value) (n : Nat) (xs : List Value) (hs : a.eval s = v) (hown : w.ownsRow base 3 1 v n xs)
    (u : Value) (ys : List Int) (hx : a.eval x = u) (hy : Nums w u ys) (hn : n ≤ 1000000) (hm : ys.length ≤ 1000000) (hbase : base ≤ w.heap.size)
    (h : ∀ v' w', w'.ownsRow base 3 1 v' (n + ys.length) (xs ++ cellsN ys) → w.grownBy w' v.ownBlock → K (a.put o.dst v') w') :
    if Region.wanted o (yielded ops a.tmps) = true then Oper.wp Try.prog o a w K Q else E := by
  have hw : Region.wanted o (yielded ops a.tmps) = true := by simp [Region.wanted, hgd]
  rw [if_pos hw]
  obtain ⟨v', w', hrun, r1, r2⟩ := run_append_nums w o.type base v n xs hown u ys hy hn hm hbase
  unfold Oper.wp
  simp [execOp, ho, resolve, invoke, builtin, hs, hx, hrun, Result.andThen]
  exact h v' w' r1 r2

set_option maxHeartbeats 400000 in
theorem copyInts_any (v : Value) (xs : List Int) (w : World) (h : Nums w v xs) (hn : xs.length ≤ 1000000) :
    Calls Try.prog 84 #[v] w (FreshR xs w) := by
  have HX := Lib.hid h
  obtain ⟨ao, cap, rfl, hlc, hcm⟩ := h.slice
  clear h
  have hown := World.ownsRow_lit (base := w.heap.size) (e := 3) (size := 1) w #[] 0 (Nat.le_refl _) (by unfold maxLen; omega) rfl
  go_enter Try.func84, Try.ntmps84
  go_wp2_with (at_builtin; refine wpl_append_nums _ rfl _ _ rfl w.heap.size (.slice (some ⟨w.heap.size, 0, none⟩) 0 0) 0 [] rfl hown (.slice ao xs.length cap) xs rfl (HX.out.mono ((Below.refl _ _).alloc (Nat.le_refl _) _) (Nat.le_refl _)) (by omega) hn (by simp) ?_; intro v' w1 hown1 hgrow1)
  go_ret
  exact ⟨_, rfl, ⟨by simpa using hown1, HX.out.ok⟩, ((Below.refl _ _).alloc (Nat.le_refl _) _).grown hgrow1 (by simp) (fun k hk => by simp [Value.ownBlock] at hk; omega)⟩

/-! ### the last ones, the first ones -/
def fitB (xs : List Int) (m : Int) : List Int := if 0 ≤ m ∧ m < xs.length then xs.drop (xs.length - m.toNat) else xs
def fitF (xs : List Int) (m : Int) : List Int := if 0 ≤ m ∧ m < xs.length then xs.take m.toNat else xs
/-- xs[k:], as a walk spells where it begins. -/
theorem Nums.dropA {w : World} {ao A : Option Addr} {n cap k : Nat} {xs : List Int} (h : Nums w (.slice ao n cap) xs) (hk : k ≤ n) (hA : cap ≠ k → A = ao.map (fun x => x.add k)) : Nums w (.slice A (n - k) (cap - k)) (xs.drop k) := by
  obtain ⟨p, c, e, hl, hc⟩ := h.slice
  simp only [Value.slice.injEq] at e
  obtain ⟨rfl, rfl, rfl⟩ := e
  have := h.part (A := A) (i := k) (j := xs.length) (m := xs.length - k) (c' := cap - k) (by omega) (Nat.le_refl _) rfl (by omega) (by omega) (by
    intro hlt b o e
    subst e
    rw [hA (by omega)]
    simp [Addr.add_lit])
  rwa [List.take_length] at this
theorem Nums.takeA {w : World} {ao : Option Addr} {n cap j : Nat} {xs : List Int} (h : Nums w (.slice ao n cap) xs) (hj : j ≤ n) : Nums w (.slice ao j cap) (xs.take j) := by
  obtain ⟨p, c, e, hl, hc⟩ := h.slice
  simp only [Value.slice.injEq] at e
  obtain ⟨rfl, rfl, rfl⟩ := e
  have := h.part (A := ao) (i := 0) (j := j) (m := j) (c' := cap) (by omega) hj rfl (by omega) hc (by
    intro hlt b o e
    subst e
    rfl)
  rwa [List.drop_zero] at this
theorem OwnR.keeps {K : Nat → Prop} {w w' : World} {B : Nat} {v : Value} {xs : List Int} (h : OwnR w B v xs) (hk : Keeps K w w') (hK : ∀ k, B ≤ k → K k) : OwnR w' B v xs := ⟨hk.own h.1 (fun _ hg => hK _ (own_range h.1 hg).1), h.2⟩
theorem OwnR.base {w : World} {B B' : Nat} {v : Value} {xs : List Int} (h : OwnR w B v xs) (hB : B' ≤ B) : OwnR w B' v xs := ⟨ownsRow_base h.1 hB, h.2⟩

theorem res_two {w w1 : World} {a b : Value} (hb : Below (w.heap.size + 1) (w.alloc (.cells #[.slice none 0 0, .int .i64 0] 25)) w1) :
    w1.heap[w.heap.size]? = some (.cells #[.slice none 0 0, .int .i64 0] 25 (0, 0)) ∧ Below w.heap.size w ((w1.setCell ⟨w.heap.size, 0, none⟩ a).setCell ⟨w.heap.size, 1, none⟩ b) :=
  ⟨two_below (heap_new w _) hb (by omega), ((((Below.refl w.heap.size w).alloc (Nat.le_refl _) _).trans (hb.mono (by omega))).setCell (Nat.le_refl w.heap.size) _).setCell (Nat.le_refl w.heap.size) _⟩
set_option maxHeartbeats 800000 in
set_option maxRecDepth 100000 in
theorem fitBack_any (v : Value) (xs : List Int) (m : Int) (w : World) (h : Nums w v xs) (hn : xs.length ≤ 1000000) (h1 : -1 ≤ m) (h2 : m ≤ 10) :
    Calls Try.prog 83 #[v, .int .i64 m] w fun e w' => ∃ v', e = .returned (.agg #[v', .int .i64 m]) ∧ OwnR w' w.heap.size v' (fitB xs m) ∧ Below w.heap.size w w' := by
  have HX : Hid (Nums (w.alloc (.cells #[.slice none 0 0, .int .i64 0] 25)) v xs) := h.mono ((Below.refl _ _).alloc (Nat.le_refl _) _) (Nat.le_refl _)
  obtain ⟨ao, cap, rfl, hlc, hcm⟩ := h.slice
  clear h
  go_enter Try.func83, Try.ntmps83
  by_cases hm : 0 ≤ m ∧ m < xs.length
  · obtain ⟨n, rfl⟩ : ∃ n : Nat, m = n := ⟨m.toNat, by omega⟩
    have HF : Hid (fitB xs n = xs.drop (xs.length - n)) := by show _ = _; unfold fitB; rw [if_pos hm, Int.toNat_natCast]
    by_cases hcap : cap = xs.length - n
    · have HD : Hid (Nums (w.alloc (.cells #[.slice none 0 0, .int .i64 0] 25)) (.slice ao (xs.length - (xs.length - n)) 0) (xs.drop (xs.length - n))) := by
        have h2 := HX.out.dropA (k := xs.length - n) (A := ao) (by omega) (fun h => absurd hcap h)
        rw [show cap - (xs.length - n) = 0 by omega] at h2
        exact h2
      go_wp2_with fail
      refine (copyInts_any _ (xs.drop (xs.length - n)) _ HD.out (by simp; omega)).mono ?_
      rintro e w1 ⟨v', rfl, ho, hb⟩
      obtain ⟨xo, xcap, rfl, _, _⟩ := ho.nums.slice
      rw [← HF.out] at ho
      have e1 : (xs.drop (xs.length - n)).length = (fitB xs n).length := by rw [HF.out]
      rw [e1]
      have HO := Lib.hid ho
      simp at hb
      have HB := Lib.hid hb
      have G1 := (res_two (a := .slice xo (fitB xs n).length xcap) (b := .int .i64 n) hb).1
      have q0 := two_cell0 G1
      have q1 := two_cell1 G1
      have f0 := two_free G1 0
      have f1 := two_free G1 1
      clear e1 ho hb G1
      go_wp2
      exact bodyPost_ret (v := .agg #[.slice xo (fitB xs n).length xcap, .int .i64 n]) (by simp [results, Try.results83, go_sem, q0, q1]) rfl ⟨_, rfl, ((HO.out.keeps (K := fun k => w.heap.size + 1 ≤ k) (((Keeps.refl _ _).setCell (by simp) _).setCell (by simp) _) (by simp)).base (by simp)), (res_two HB.out).2⟩
    · have HD : Hid (Nums (w.alloc (.cells #[.slice none 0 0, .int .i64 0] 25)) (.slice (ao.map fun x => x.add (xs.length - n)) (xs.length - (xs.length - n)) (cap - (xs.length - n))) (xs.drop (xs.length - n))) := HX.out.dropA (by omega) (fun _ => rfl)
      go_wp2_with fail
      refine (copyInts_any _ (xs.drop (xs.length - n)) _ HD.out (by simp; omega)).mono ?_
      rintro e w1 ⟨v', rfl, ho, hb⟩
      obtain ⟨xo, xcap, rfl, _, _⟩ := ho.nums.slice
      rw [← HF.out] at ho
      have e1 : (xs.drop (xs.length - n)).length = (fitB xs n).length := by rw [HF.out]
      rw [e1]
      have HO := Lib.hid ho
      simp at hb
      have HB := Lib.hid hb
      have G1 := (res_two (a := .slice xo (fitB xs n).length xcap) (b := .int .i64 n) hb).1
      have q0 := two_cell0 G1
      have q1 := two_cell1 G1
      have f0 := two_free G1 0
      have f1 := two_free G1 1
      clear e1 ho hb G1
      go_wp2
      exact bodyPost_ret (v := .agg #[.slice xo (fitB xs n).length xcap, .int .i64 n]) (by simp [results, Try.results83, go_sem, q0, q1]) rfl ⟨_, rfl, ((HO.out.keeps (K := fun k => w.heap.size + 1 ≤ k) (((Keeps.refl _ _).setCell (by simp) _).setCell (by simp) _) (by simp)).base (by simp)), (res_two HB.out).2⟩
  · have HF : Hid (fitB xs m = xs) := by show _ = _; unfold fitB; rw [if_neg hm]
    have hmb : m < 0 ∨ (xs.length : Int) ≤ m := by omega
    clear hm
    rcases hmb with hm | hm
    all_goals go_wp2_with fail
    all_goals refine (copyInts_any _ xs _ HX.out hn).mono ?_
    all_goals rintro e w1 ⟨v', rfl, ho, hb⟩
    all_goals obtain ⟨xo, xcap, rfl, _, _⟩ := ho.nums.slice
    all_goals have HO := Lib.hid ho
    all_goals simp at hb
    all_goals have HB := Lib.hid hb
    all_goals have G1 := (res_two (a := .slice xo xs.length xcap) (b := .int .i64 m) hb).1
    all_goals have q0 := two_cell0 G1
    all_goals have q1 := two_cell1 G1
    all_goals have f0 := two_free G1 0
    all_goals have f1 := two_free G1 1
    all_goals clear ho hb G1
    all_goals go_wp2
    all_goals exact bodyPost_ret (v := .agg #[.slice xo xs.length xcap, .int .i64 m]) (by simp [results, Try.results83, go_sem, q0, q1]) rfl ⟨_, rfl, by rw [HF.out]; exact ((HO.out.keeps (K := fun k => w.heap.size + 1 ≤ k) (((Keeps.refl _ _).setCell (by simp) _).setCell (by simp) _) (by simp)).base (by simp)), (res_two HB.out).2⟩
end Go.Proofs.Ytoglgeinnocfjaa
