/-
  SOrd, SOrd2.
-/
import Derived.Deep.RegionHeld3
import Derived.Deep.RegionLaw
import Derived.Test.YtlclhdolcokipaaH0
import Derived.Test.YtlclhdolcokipaaH5
import Derived.Test.YtlclhdolcokipaaH11
/-
  The model's functions over items in order.
-/
namespace Go.Proofs.Ytlclhdolcokipaa
open Go.RowKit

theorem Items.drop {w : World} {b o n cap : Nat} {sp : Option Nat} {xs : List Itm} (h : Items w (.slice (some ⟨b, o, sp⟩) n cap) xs) {k : Nat} (hk : k ≤ n) : Items w (.slice (some ⟨b, o + k * 2, sp⟩) (n - k) (cap - k)) (xs.drop k) := by
  obtain ⟨ao, cap', e, hlc, hcm, hok, hcell⟩ := h
  simp only [Value.slice.injEq] at e
  obtain ⟨rfl, rfl, rfl⟩ := e
  refine ⟨some ⟨b, o + k * 2, sp⟩, cap - k, by simp, by simp; omega, by omega, fun x hx => hok x (List.mem_of_mem_drop hx), fun j hj => ?_⟩
  have hj' : k + j < xs.length := by simp at hj; omega
  obtain ⟨b', o', e, hb, h1, h2⟩ := hcell (k + j) hj'
  simp only [Option.some.injEq, Addr.mk.injEq] at e
  obtain ⟨rfl, rfl, rfl⟩ := e
  refine ⟨b, o + k * 2, rfl, hb, ?_, ?_⟩
  · rw [show o + k * 2 + j * 2 = o + (k + j) * 2 by omega, h1]; simp
  · rw [show o + k * 2 + j * 2 + 1 = o + (k + j) * 2 + 1 by omega, h2]; simp
theorem Items.dropAll {w : World} {ao : Option Addr} {n k : Nat} {xs : List Itm} (h : Items w (.slice ao n k) xs) (hk : k ≤ n) : Items w (.slice ao (n - k) (k - k)) (xs.drop k) := by
  obtain ⟨ao', cap', e, hlc, hcm, hok, hcell⟩ := h
  simp only [Value.slice.injEq] at e
  obtain ⟨rfl, rfl, rfl⟩ := e
  have e : xs.drop k = [] := List.drop_eq_nil_of_le (by omega)
  rw [e]
  exact ⟨ao, k - k, by simp; omega, by simp, by omega, fun x hx => by simp at hx, fun k hk => by simp at hk⟩

theorem Items_one (w : World) (s : ByteArray) (n : Int) (E : TypeId) (hs : s.size ≤ 9223372036854775807) (hn : -9223372036854775808 ≤ n ∧ n ≤ 9223372036854775807) : Items (w.alloc (.cells #[.string s, .int .i64 n] E)) (.slice (some ⟨w.heap.size, 0, none⟩) 1 1) [(s, n)] := by
  refine ⟨_, 1, rfl, Nat.le_refl _, by omega, fun x hx => ?_, fun k hk => ?_⟩
  · rw [List.mem_singleton.1 hx]; exact ⟨hs, hn.1, hn.2⟩
  · obtain rfl : k = 0 := by simpa using hk
    exact ⟨w.heap.size, 0, rfl, by simp, by simp, by simp⟩

theorem plc_place (l : List Itm) (s : ByteArray) : ∀ i, plcI l s i = placeI l s i := by
  induction l with
  | nil => intro i; rfl
  | cons x r ih => intro i; unfold plcI placeI; rw [ih]
theorem placeI_del (l : List Itm) (s : ByteArray) : ∀ i : Nat, hasI l s = true → ∃ k, ∃ h : k < l.length, placeI l s i = (k + i : Nat) ∧ l[k] = (s, cnt l s) ∧ delI l s = l.take k ++ l.drop (k + 1) ∧ (∀ t, renI l s t = l.set k (t, cnt l s)) ∧ ∀ n, putI l s n = l.set k (s, n) := by
  induction l with
  | nil => intro i h; simp [hasI] at h
  | cons x r ih =>
    intro i h
    by_cases hx : x.1 = s
    · exact ⟨0, by simp, by simp [placeI, hx], by simp [cnt, ← hx], by simp [delI, hx], fun t => by simp [renI, cnt, hx], fun n => by simp [putI, hx]⟩
    · simp only [hasI, hx, decide_false, Bool.false_or] at h
      obtain ⟨k, hk, h1, h2, h3, h4, h5⟩ := ih (i + 1) h
      refine ⟨k + 1, by simpa using hk, ?_, by simpa [cnt, hx] using h2, by simp [delI, hx, h3], fun t => by simp [renI, cnt, hx, h4], fun n => by simp [putI, hx, h5]⟩
      simp only [placeI, hx, if_false, h1]
      omega

theorem okI_sub {l m : List Itm} (h : okI l) (hs : ∀ x ∈ m, x ∈ l) : okI m := fun x hx => h x (hs x hx)
theorem okI_app {l m : List Itm} (h : okI l) (h' : okI m) : okI (l ++ m) := fun x hx => (List.mem_append.1 hx).elim (h x) (h' x)
theorem okI_del {l : List Itm} (h : okI l) (k : ByteArray) : okI (delI l k) := by
  induction l with
  | nil => exact h
  | cons x r ih =>
    unfold delI
    split
    · exact fun y hy => h y (by simp [hy])
    · exact fun y hy => (List.mem_cons.1 hy).elim (fun e => h y (by simp [e])) (ih (fun z hz => h z (by simp [hz])) y)
theorem Below.undrew {B : Nat} {w w' : World} (h : Below B w.drew w') : Below B w w' := ⟨h.os, h.tape, h.output, h.size, h.block⟩
theorem chk_chkL (l : List Itm) : chkI l = chkL l := rfl

set_option maxHeartbeats 1600000 in
set_option maxRecDepth 100000 in
theorem swithout_any (v : Value) (xs : List Itm) (k : Nat) (w : World) (h : Items w v xs) (hk : k < xs.length) (hn : xs.length ≤ 1000000) :
    Calls Try.prog 122 #[v, .int .i64 k] w (FreshI (xs.take k ++ xs.drop (k + 1)) w) := by
  have h0 := h
  obtain ⟨ao, cap, rfl, hlc, hcm, hok, hcell⟩ := h
  obtain ⟨b, o, rfl, hb, _, _⟩ := hcell k hk
  clear hcell
  have hT := Lib.hid (h0.take (k := k) (by omega))
  have HL := Lib.hid (show (xs.take k).length = k by simp; omega)
  have HLD := Lib.hid (show (xs.drop (k + 1)).length = xs.length - (k + 1) by simp)
  obtain ⟨A, hA, hDI⟩ : ∃ A, (if cap = k + 1 then some ⟨b, o, none⟩ else some ⟨b, o + (k + 1) * 2, none⟩ : Option Addr) = A ∧ Hid (Items w (.slice A (xs.length - (k + 1)) (cap - (k + 1))) (xs.drop (k + 1))) := by
    refine ⟨_, rfl, ?_⟩
    unfold Hid
    by_cases hc : cap = k + 1
    · rw [if_pos hc]; subst hc; exact h0.dropAll (by omega)
    · rw [if_neg hc]; exact h0.drop (by omega)
  have HOK := Lib.hid (okI_sub (l := xs) (m := xs.take k ++ xs.drop (k + 1)) hok (fun x hx => (List.mem_append.1 hx).elim List.mem_of_mem_take List.mem_of_mem_drop))
  have HLA := Lib.hid (show (xs.take k ++ xs.drop (k + 1)).length = k + (xs.length - (k + 1)) by rw [List.length_append, HL.out, HLD.out])
  have hk1 : IntKind.i64.wrap ((k : Int) + 1) = (k : Int) + 1 := IntWalk.i64_in _ (by omega)
  have hkc : k ≤ cap := by omega
  have hk0 : 0 ≤ (k : Int) + 1 := by omega
  have hkt : ((k : Int) + 1).toNat = k + 1 := by omega
  have hkn : (k : Int) + 1 ≤ (xs.length : Int) := by omega
  have hkn' : k + 1 ≤ xs.length := by omega
  have hkc' : (k : Int) + 1 ≤ (cap : Int) := by omega
  clear hok hb h0
  go_enter Try.func122, Try.ntmps122
  go_wp2_with fail
  go_region_law (first
    | (go_simp; go_at_call 124; refine (copyItems_any _ (xs.take k) _ (Items.drew hT.out) (by rw [HL.out]; omega)).mono ?_; rintro e w1 ⟨v1, rfl, ho1, hb1⟩)
    | (refine step_append_items _ rfl (.tmp 8) (.tmp 12) rfl _ v1 _ _ (by simp [Act.eval]) ho1.1 (.slice A (xs.length - (k + 1)) (cap - (k + 1))) (xs.drop (k + 1)) (by simp [Act.eval]) (Items.mono hDI.out (Below.undrew hb1) (Nat.le_refl _)) (by rw [HL.out]; omega) (by rw [HLD.out]; omega) hb1.size ?_; intro v' w2 hown2 hgrow2))
  go_wp2
  go_ret
  refine ⟨_, rfl, ⟨?_, HOK.out⟩, ?_⟩
  · have e : cellsI (xs.take k ++ xs.drop (k + 1)) = cellsI (xs.take k) ++ cellsI (xs.drop (k + 1)) := by simp [cellsI]
    rw [List.length_append, e]
    exact hown2
  · exact (Below.undrew hb1).grown hgrow2 hb1.size (fun j hj => (ho1.1.lt j hj).1)

theorem okG_of {xs : List Itm} {s : ByteArray} {a b : Bool} (HV : Hid (validI xs = a)) (HH : Hid (hasI xs s = b)) : okG xs s = (a && b) := by unfold okG; rw [HV.out, HH.out]
theorem getN_of {xs : List Itm} {s : ByteArray} {a b : Bool} (HV : Hid (validI xs = a)) (HH : Hid (hasI xs s = b)) : getN xs s = if (a && b) = true then cnt xs s else 0 := by unfold getN; rw [okG_of HV HH]

theorem drp_no {xs : List Itm} {s : ByteArray} {a b : Bool} (HV : Hid (validI xs = a)) (HH : Hid (hasI xs s = b)) (h : (a && b) = false) (E : Nat) (w : World) (B : Nat) : OwnI E w B (.slice none 0 0) (drpL xs s) := by
  unfold drpL
  rw [okG_of HV HH, h]
  exact OwnI_nil _ _ _
theorem drp_yes {xs : List Itm} {s : ByteArray} (HV : Hid (validI xs = true)) (HH : Hid (hasI xs s = true)) : drpL xs s = delI xs s := by
  unfold drpL
  rw [okG_of HV HH]
  rfl

end Go.Proofs.Ytlclhdolcokipaa
/-
  The model's functions over items in order: moved, popped, renamed, turned, laid over.
-/
namespace Go.Proofs.Ytlclhdolcokipaa
open Go.RowKit

theorem Items.at {w : World} {v : Value} {xs : List Itm} (h : Items w v xs) {k : Nat} (hk : k < xs.length) : ∃ b o cap, v = .slice (some ⟨b, o, none⟩) xs.length cap ∧ xs.length ≤ cap ∧ cap ≤ 9223372036854775807 ∧ b < w.heap.size ∧ w.cell? ⟨b, o + k * 2, none⟩ = some (.string xs[k].1) ∧ w.cell? ⟨b, o + k * 2 + 1, none⟩ = some (.int .i64 xs[k].2) := by
  obtain ⟨ao, cap, rfl, hl, hc, _, hcell⟩ := h
  obtain ⟨b, o, rfl, hb, h1, h2⟩ := hcell k hk
  exact ⟨b, o, cap, rfl, hl, hc, hb, h1, h2⟩

/-- The two cells of an item stand. -/
def Two (w0 : World) (b p : Nat) (x : Itm) (w : World) : Prop := (w.cell? ⟨b, p, none⟩ = some (.string x.1) ∧ w.cell? ⟨b, p + 1, none⟩ = some (.int .i64 x.2)) ∧ Below w0.heap.size w0 w
theorem Two.go {w0 w1 w2 : World} {b p : Nat} {x : Itm} (h : Two w0 b p x w1) (hb : b < w0.heap.size) (h2 : Below w1.heap.size w1 w2) : Two w0 b p x w2 := by
  obtain ⟨⟨h1, h3⟩, h4⟩ := h
  have hb1 : b < w1.heap.size := Nat.lt_of_lt_of_le hb h4.size
  exact ⟨⟨(h2.cell (p := ⟨b, p, none⟩) hb1).trans h1, (h2.cell (p := ⟨b, p + 1, none⟩) hb1).trans h3⟩, h4.trans (h2.mono h4.size)⟩

theorem Two.alloc {w0 w1 : World} {b p : Nat} {x : Itm} (h : Two w0 b p x w1) (hb : b < w0.heap.size) (o : Go.Obj) : Two w0 b p x (w1.alloc o) := h.go hb ((Below.refl _ _).alloc (Nat.le_refl _) _)
theorem Two.grown {w0 w1 w2 : World} {b p : Nat} {x : Itm} {row : Option Nat} (h : Two w0 b p x w1) (hb : b < w0.heap.size) (hg : w1.grownBy w2 row) (hr : ∀ j, row = some j → w0.heap.size ≤ j) : Two w0 b p x w2 := by
  obtain ⟨⟨h1, h3⟩, h4⟩ := h
  have h5 : Below w0.heap.size w0 w2 := h4.grown hg h4.size hr
  have e : ∀ o, w2.cell? ⟨b, o, none⟩ = w1.cell? ⟨b, o, none⟩ := fun o => (h5.cell (p := ⟨b, o, none⟩) hb).trans (h4.cell (p := ⟨b, o, none⟩) hb).symm
  exact ⟨⟨(e p).trans h1, (e (p + 1)).trans h3⟩, h5⟩
theorem own_app {w w2 : World} {B E : Nat} {v : Value} {xs ys : List Itm} (h : w2.ownsRow B E 2 v (xs.length + ys.length) (cellsI xs ++ cellsI ys)) (hB : w.heap.size ≤ B) (hok : okI (xs ++ ys)) : OwnI E w2 w.heap.size v (xs ++ ys) := by
  refine ⟨?_, hok⟩
  rw [List.length_append, cellsI_append]
  exact ownsRow_base h hB
theorem own_one (w : World) (y : Itm) (E : TypeId) {B : Nat} (hB : B ≤ w.heap.size) : (w.alloc (.cells #[.string y.1, .int .i64 y.2] E)).ownsRow B E 2 (.slice (some ⟨w.heap.size, 0, none⟩) 1 1) 1 (cellsI [y]) :=
  ownsRow_base (World.ownsRow_lit (base := w.heap.size) (e := E) (size := 2) w #[.string y.1, .int .i64 y.2] 1 (Nat.le_refl _) (by unfold maxLen; omega) rfl) hB
theorem below_of {P : Prop} {B : Nat} {w w' : World} (h : P ∧ Below B w w') : Below B w w' := h.2

set_option maxHeartbeats 1600000 in
set_option maxRecDepth 100000 in
theorem smoved_last (v : Value) (xs : List Itm) (k : Nat) (w : World) (h : Items w v xs) (hk : k < xs.length) (hn : xs.length ≤ 100000) :
    Calls Try.prog 115 #[v, .int .i64 k, .bool true] w (FreshI (xs.take k ++ xs.drop (k + 1) ++ [xs[k]]) w) := by
  have hok := h.ok
  have hx := hok _ (List.getElem_mem hk)
  have HI := Lib.hid h
  have HLA := Lib.hid (show (xs.take k ++ xs.drop (k + 1)).length ≤ 1000000 by simp; omega)
  have HOK := Lib.hid (okI_app (okI_app (okI_sub hok (m := xs.take k) (fun x hx => List.mem_of_mem_take hx)) (okI_sub hok (m := xs.drop (k + 1)) (fun x hx => List.mem_of_mem_drop hx))) (okI_sub hok (m := [xs[k]]) (fun x hx => by rw [List.mem_singleton.1 hx]; exact List.getElem_mem hk)))
  obtain ⟨b, o, cap, rfl, hlc, hcm, hb, c1, c2⟩ := h.at hk
  have HB := Lib.hid hb
  clear hok h hb
  obtain ⟨y, hy⟩ : ∃ y, xs[k] = y := ⟨_, rfl⟩
  rw [hy] at c1 c2 hx HOK ⊢
  have hyb : (-9223372036854775808 ≤ y.2 ∧ y.2 ≤ 9223372036854775807) := hx.2
  have hys := hx.1
  clear hx hy
  go_enter Try.func115, Try.ntmps115
  go_wp2_with fail
  go_region_held3 (fun w' : World => (w'.cell? ⟨b, o + k * 2, none⟩ = some (.string y.1) ∧ w'.cell? ⟨b, o + k * 2 + 1, none⟩ = some (.int .i64 y.2)) ∧ Below w.heap.size w w')
    (first | exact ⟨⟨c1, c2⟩, (Below.refl _ _).drew⟩ | assumption | exact hS2 | exact Two.alloc (by assumption) HB.out _ | exact hS3)
    (first
      | (go_at_call 122; refine (swithout_any _ xs k _ (Items.mono HI.out (below_of (by assumption)) (Nat.le_refl _)) hk (by omega)).mono ?_; rintro e w1 ⟨v1, rfl, ho1, hb1⟩; have hS2 := Two.go (by assumption) HB.out hb1)
      | (refine step_append_items _ rfl (.tmp 10) (.tmp 15) rfl _ v1 _ _ (by simp [Act.eval]) (ho1.1.alloc _) (.slice (some ⟨w1.heap.size, 0, none⟩) 1 1) [y] (by simp [Act.eval]) (Items_one _ _ _ _ hys hyb) HLA.out (by simp) (size_alloc_le hb1.size _) ?_; intro v' w2 hown2 hgrow2; have hS3 := Two.grown (Two.alloc hS2 HB.out _) HB.out hgrow2 (fun j hj => (ho1.1.lt j hj).1))
      | (refine step_append_items _ rfl (.tmp 10) (.tmp 15) rfl _ v1 _ _ (by simp [Act.eval]) ho1.1 (.slice (some ⟨w.heap.size, 0, none⟩) 1 1) [y] (by simp [Act.eval]) (Items.mono (Items_one w.drew _ _ _ hys hyb) hb1 (Nat.le_refl _)) HLA.out (by simp) hb1.size ?_; intro v' w2 hown2 hgrow2; have hS3 := Two.grown hS2 HB.out hgrow2 (fun j hj => Nat.le_trans (size_alloc_le (Nat.le_refl _) _) (ho1.1.lt j hj).1)))
  all_goals go_wp2
  all_goals go_ret
  · exact ⟨_, rfl, own_app hown2 (Nat.le_refl _) HOK.out, hS3.2⟩
  · exact ⟨_, rfl, own_app hown2 (size_alloc_le (Nat.le_refl _) _) HOK.out, hS3.2⟩

set_option maxHeartbeats 1600000 in
set_option maxRecDepth 100000 in
theorem smoved_first (v : Value) (xs : List Itm) (k : Nat) (w : World) (h : Items w v xs) (hk : k < xs.length) (hn : xs.length ≤ 100000) :
    Calls Try.prog 115 #[v, .int .i64 k, .bool false] w (FreshI ([xs[k]] ++ (xs.take k ++ xs.drop (k + 1))) w) := by
  have hok := h.ok
  have hx := hok _ (List.getElem_mem hk)
  have HI := Lib.hid h
  have HLA := Lib.hid (show (xs.take k ++ xs.drop (k + 1)).length ≤ 1000000 by simp; omega)
  have HOK := Lib.hid (okI_app (okI_sub hok (m := [xs[k]]) (fun x hx => by rw [List.mem_singleton.1 hx]; exact List.getElem_mem hk)) (okI_app (okI_sub hok (m := xs.take k) (fun x hx => List.mem_of_mem_take hx)) (okI_sub hok (m := xs.drop (k + 1)) (fun x hx => List.mem_of_mem_drop hx))))
  obtain ⟨b, o, cap, rfl, hlc, hcm, hb, c1, c2⟩ := h.at hk
  have HB := Lib.hid hb
  clear hok h hb
  obtain ⟨y, hy⟩ : ∃ y, xs[k] = y := ⟨_, rfl⟩
  rw [hy] at c1 c2 hx HOK ⊢
  have hyb : (-9223372036854775808 ≤ y.2 ∧ y.2 ≤ 9223372036854775807) := hx.2
  have hys := hx.1
  clear hx hy
  go_enter Try.func115, Try.ntmps115
  go_wp2_with fail
  go_region_held3? (fun w' : World => (w'.cell? ⟨b, o + k * 2, none⟩ = some (.string y.1) ∧ w'.cell? ⟨b, o + k * 2 + 1, none⟩ = some (.int .i64 y.2)) ∧ Below w.heap.size w w')
    (first | exact ⟨⟨c1, c2⟩, (Below.refl _ _).drew⟩ | assumption | exact hS2 | exact Two.alloc (by assumption) HB.out _ | exact hS3)
    (first
      | (go_at_call 122; refine (swithout_any _ xs k _ (Items.mono HI.out (below_of (by assumption)) (Nat.le_refl _)) hk (by omega)).mono ?_; rintro e w1 ⟨v1, rfl, ho1, hb1⟩; have hS2 := Two.go (by assumption) HB.out hb1)
      | (refine step_append_items _ rfl (.tmp 21) (.tmp 24) rfl w.heap.size (.slice (some ⟨w1.heap.size, 0, none⟩) 1 1) 1 (cellsI [y]) (by simp [Act.eval]) (own_one _ y 43 hS2.2.size) v1 _ (by simp [Act.eval]) (Items.mono ho1.items ((Below.refl _ _).alloc (Nat.le_refl _) _) (Nat.le_refl _)) (by omega) HLA.out (size_alloc_le hS2.2.size _) ?_; intro v' w2 hown2 hgrow2; have hS3 := Two.grown (Two.alloc hS2 HB.out _) HB.out hgrow2 (fun j hj => by have := hS2.2.size; simp [Value.ownBlock] at hj; omega))
      | (refine step_append_items _ rfl (.tmp 21) (.tmp 24) rfl w.heap.size (.slice (some ⟨w.heap.size, 0, none⟩) 1 1) 1 (cellsI [y]) (by simp [Act.eval]) (ownsRow_below (own_one w.drew y 43 (Nat.le_refl _)) hb1 (Nat.le_refl _)) v1 _ (by simp [Act.eval]) ho1.items (by omega) HLA.out hS2.2.size ?_; intro v' w2 hown2 hgrow2; have hS3 := Two.grown hS2 HB.out hgrow2 (fun j hj => by simp [Value.ownBlock] at hj; omega)))
  all_goals go_wp2
  all_goals go_ret
  all_goals exact ⟨_, rfl, own_app (xs := [y]) hown2 (Nat.le_refl _) HOK.out, hS3.2⟩

theorem movI_last {xs : List Itm} {s : ByteArray} {k : Nat} {hk : k < xs.length} (h2 : xs[k] = (s, cnt xs s)) (h3 : delI xs s = xs.take k ++ xs.drop (k + 1)) : movI xs s true = xs.take k ++ xs.drop (k + 1) ++ [xs[k]] := by
  unfold movI
  rw [if_pos rfl, h2, h3]
theorem movI_first {xs : List Itm} {s : ByteArray} {k : Nat} {hk : k < xs.length} (h2 : xs[k] = (s, cnt xs s)) (h3 : delI xs s = xs.take k ++ xs.drop (k + 1)) : movI xs s false = [xs[k]] ++ (xs.take k ++ xs.drop (k + 1)) := by
  unfold movI
  rw [h2, h3]
  rfl
theorem smoved_any (v : Value) (xs : List Itm) (s : ByteArray) (k : Nat) (last : Bool) (w : World) (h : Items w v xs) (hk : k < xs.length) (h2 : xs[k] = (s, cnt xs s)) (h3 : delI xs s = xs.take k ++ xs.drop (k + 1)) (hn : xs.length ≤ 100000) :
    Calls Try.prog 115 #[v, .int .i64 k, .bool last] w (FreshI (movI xs s last) w) := by
  cases last
  · rw [movI_first h2 h3]; exact smoved_first v xs k w h hk hn
  · rw [movI_last h2 h3]; exact smoved_last v xs k w h hk hn

theorem mov_no {xs : List Itm} {s : ByteArray} {a b last : Bool} (HV : Hid (validI xs = a)) (HH : Hid (hasI xs s = b)) (h : (a && b) = false) (E : Nat) (w : World) (B : Nat) : OwnI E w B (.slice none 0 0) (movL xs s last) := by
  unfold movL
  rw [okG_of HV HH, h]
  exact OwnI_nil _ _ _
theorem mov_yes {xs : List Itm} {s : ByteArray} {last : Bool} (HV : Hid (validI xs = true)) (HH : Hid (hasI xs s = true)) : movL xs s last = movI xs s last := by
  unfold movL
  rw [okG_of HV HH]
  rfl

end Go.Proofs.Ytlclhdolcokipaa
