/-
  The model's functions over items in order: moved, popped, renamed, turned, laid over.
-/
import Derived.Test.YtigiliakcmpekaaSOrd
import Derived.Deep.RegionHeld3
namespace Go.Proofs.Ytigiliakcmpekaa
open Go.RowKit

theorem Items.at {w : World} {v : Value} {xs : List Itm} (h : Items w v xs) {k : Nat} (hk : k < xs.length) : ∃ b o cap, v = .slice (some ⟨b, o, none⟩) xs.length cap ∧ xs.length ≤ cap ∧ cap ≤ 9223372036854775807 ∧ b < w.heap.size ∧ w.cell? ⟨b, o + k * 2, none⟩ = some (.string xs[k].1) ∧ w.cell? ⟨b, o + k * 2 + 1, none⟩ = some (.int .i64 xs[k].2) := by
  obtain ⟨ao, cap, rfl, hl, hc, _, hcell⟩ := h
  obtain ⟨b, o, rfl, hb, h1, h2⟩ := hcell k hk
  exact ⟨b, o, cap, rfl, hl, hc, hb, h1, h2⟩

/-- The two cells of an item stand. -/
def Two (w0 : World) (b p : Nat) (x : Itm) (w : World) : Prop := (w.cell? ⟨b, p, none⟩ = some (.string x.1) ∧ w.cell? ⟨b, p + 1, none⟩ = some (.int .i64 x.2)) ∧ Below w0.heap.size w0 w
theorem Two.go {w0 w1 w2 : World} {b p : Nat} {x : Itm} (h : Two w0 b p x w1) (hb : b < w0.heap.size) (h2 : Below w1.heap.size w1 w2) : Two w0 b p x w2 := by
  obtain ⟨⟨h1, h3⟩, h4⟩ := h
  have hb1 : b < w1.heap.size := Nat.lt_of_lt_of_le hb h4.size
  exact ⟨⟨(h2.cell (p := ⟨b, p, none⟩) hb1).trans h1, (h2.cell (p := ⟨b, p + 1, none⟩) hb1).trans h3⟩, h4.trans (h2.mono h4.size)⟩

theorem Two.alloc {w0 w1 : World} {b p : Nat} {x : Itm} (h : Two w0 b p x w1) (hb : b < w0.heap.size) (o : Go.Obj) : Two w0 b p x (w1.alloc o) := h.go hb ((Below.refl _ _).alloc (Nat.le_refl _) _)
theorem Two.grown {w0 w1 w2 : World} {b p : Nat} {x : Itm} {row : Option Nat} (h : Two w0 b p x w1) (hb : b < w0.heap.size) (hg : w1.grownBy w2 row) (hr : ∀ j, row = some j → w0.heap.size ≤ j) : Two w0 b p x w2 := by
  obtain ⟨⟨h1, h3⟩, h4⟩ := h
  have h5 : Below w0.heap.size w0 w2 := h4.grown hg h4.size hr
  have e : ∀ o, w2.cell? ⟨b, o, none⟩ = w1.cell? ⟨b, o, none⟩ := fun o => (h5.cell (p := ⟨b, o, none⟩) hb).trans (h4.cell (p := ⟨b, o, none⟩) hb).symm
  exact ⟨⟨(e p).trans h1, (e (p + 1)).trans h3⟩, h5⟩
theorem own_app {w w2 : World} {B E : Nat} {v : Value} {xs ys : List Itm} (h : w2.ownsRow B E 2 v (xs.length + ys.length) (cellsI xs ++ cellsI ys)) (hB : w.heap.size ≤ B) (hok : okI (xs ++ ys)) : OwnI E w2 w.heap.size v (xs ++ ys) := by
  refine ⟨?_, hok⟩
  rw [List.length_append, cellsI_append]
  exact ownsRow_base h hB
theorem own_one (w : World) (y : Itm) (E : TypeId) {B : Nat} (hB : B ≤ w.heap.size) : (w.alloc (.cells #[.string y.1, .int .i64 y.2] E)).ownsRow B E 2 (.slice (some ⟨w.heap.size, 0, none⟩) 1 1) 1 (cellsI [y]) :=
  ownsRow_base (World.ownsRow_lit (base := w.heap.size) (e := E) (size := 2) w #[.string y.1, .int .i64 y.2] 1 (Nat.le_refl _) (by unfold maxLen; omega) rfl) hB
theorem below_of {P : Prop} {B : Nat} {w w' : World} (h : P ∧ Below B w w') : Below B w w' := h.2

set_option maxHeartbeats 1600000 in
set_option maxRecDepth 100000 in
theorem smoved_last (v : Value) (xs : List Itm) (k : Nat) (w : World) (h : Items w v xs) (hk : k < xs.length) (hn : xs.length ≤ 100000) :
    Calls Try.prog 122 #[v, .int .i64 k, .bool true] w (FreshI (xs.take k ++ xs.drop (k + 1) ++ [xs[k]]) w) := by
  have hok := h.ok
  have hx := hok _ (List.getElem_mem hk)
  have HI := Lib.hid h
  have HLA := Lib.hid (show (xs.take k ++ xs.drop (k + 1)).length ≤ 1000000 by simp; omega)
  have HOK := Lib.hid (okI_app (okI_app (okI_sub hok (m := xs.take k) (fun x hx => List.mem_of_mem_take hx)) (okI_sub hok (m := xs.drop (k + 1)) (fun x hx => List.mem_of_mem_drop hx))) (okI_sub hok (m := [xs[k]]) (fun x hx => by rw [List.mem_singleton.1 hx]; exact List.getElem_mem hk)))
  obtain ⟨b, o, cap, rfl, hlc, hcm, hb, c1, c2⟩ := h.at hk
  have HB := Lib.hid hb
  clear hok h hb
  obtain ⟨y, hy⟩ : ∃ y, xs[k] = y := ⟨_, rfl⟩
  rw [hy] at c1 c2 hx HOK ⊢
  have hyb : (-9223372036854775808 ≤ y.2 ∧ y.2 ≤ 9223372036854775807) := hx.2
  have hys := hx.1
  clear hx hy
  go_enter Try.func122, Try.ntmps122
  go_wp2_with fail
  go_region_held3 (fun w' : World => (w'.cell? ⟨b, o + k * 2, none⟩ = some (.string y.1) ∧ w'.cell? ⟨b, o + k * 2 + 1, none⟩ = some (.int .i64 y.2)) ∧ Below w.heap.size w w')
    (first | exact ⟨⟨c1, c2⟩, (Below.refl _ _).drew⟩ | assumption | exact hS2 | exact Two.alloc (by assumption) HB.out _ | exact hS3)
    (first
      | (go_at_call 121; refine (swithout_any _ xs k _ (Items.mono HI.out (below_of (by assumption)) (Nat.le_refl _)) hk (by omega)).mono ?_; rintro e w1 ⟨v1, rfl, ho1, hb1⟩; have hS2 := Two.go (by assumption) HB.out hb1)
      | (refine step_append_items _ rfl (.tmp 10) (.tmp 15) rfl _ v1 _ _ (by simp [Act.eval]) (ho1.1.alloc _) (.slice (some ⟨w1.heap.size, 0, none⟩) 1 1) [y] (by simp [Act.eval]) (Items_one _ _ _ _ hys hyb) HLA.out (by simp) (size_alloc_le hb1.size _) ?_; intro v' w2 hown2 hgrow2; have hS3 := Two.grown (Two.alloc hS2 HB.out _) HB.out hgrow2 (fun j hj => (ho1.1.lt j hj).1))
      | (refine step_append_items _ rfl (.tmp 10) (.tmp 15) rfl _ v1 _ _ (by simp [Act.eval]) ho1.1 (.slice (some ⟨w.heap.size, 0, none⟩) 1 1) [y] (by simp [Act.eval]) (Items.mono (Items_one w.drew _ _ _ hys hyb) hb1 (Nat.le_refl _)) HLA.out (by simp) hb1.size ?_; intro v' w2 hown2 hgrow2; have hS3 := Two.grown hS2 HB.out hgrow2 (fun j hj => Nat.le_trans (size_alloc_le (Nat.le_refl _) _) (ho1.1.lt j hj).1)))
  all_goals go_wp2
  all_goals go_ret
  · exact ⟨_, rfl, own_app hown2 (Nat.le_refl _) HOK.out, hS3.2⟩
  · exact ⟨_, rfl, own_app hown2 (size_alloc_le (Nat.le_refl _) _) HOK.out, hS3.2⟩

set_option maxHeartbeats 1600000 in
set_option maxRecDepth 100000 in
theorem smoved_first (v : Value) (xs : List Itm) (k : Nat) (w : World) (h : Items w v xs) (hk : k < xs.length) (hn : xs.length ≤ 100000) :
    Calls Try.prog 122 #[v, .int .i64 k, .bool false] w (FreshI ([xs[k]] ++ (xs.take k ++ xs.drop (k + 1))) w) := by
  have hok := h.ok
  have hx := hok _ (List.getElem_mem hk)
  have HI := Lib.hid h
  have HLA := Lib.hid (show (xs.take k ++ xs.drop (k + 1)).length ≤ 1000000 by simp; omega)
  have HOK := Lib.hid (okI_app (okI_sub hok (m := [xs[k]]) (fun x hx => by rw [List.mem_singleton.1 hx]; exact List.getElem_mem hk)) (okI_app (okI_sub hok (m := xs.take k) (fun x hx => List.mem_of_mem_take hx)) (okI_sub hok (m := xs.drop (k + 1)) (fun x hx => List.mem_of_mem_drop hx))))
  obtain ⟨b, o, cap, rfl, hlc, hcm, hb, c1, c2⟩ := h.at hk
  have HB := Lib.hid hb
  clear hok h hb
  obtain ⟨y, hy⟩ : ∃ y, xs[k] = y := ⟨_, rfl⟩
  rw [hy] at c1 c2 hx HOK ⊢
  have hyb : (-9223372036854775808 ≤ y.2 ∧ y.2 ≤ 9223372036854775807) := hx.2
  have hys := hx.1
  clear hx hy
  go_enter Try.func122, Try.ntmps122
  go_wp2_with fail
  go_region_held3? (fun w' : World => (w'.cell? ⟨b, o + k * 2, none⟩ = some (.string y.1) ∧ w'.cell? ⟨b, o + k * 2 + 1, none⟩ = some (.int .i64 y.2)) ∧ Below w.heap.size w w')
    (first | exact ⟨⟨c1, c2⟩, (Below.refl _ _).drew⟩ | assumption | exact hS2 | exact Two.alloc (by assumption) HB.out _ | exact hS3)
    (first
      | (go_at_call 121; refine (swithout_any _ xs k _ (Items.mono HI.out (below_of (by assumption)) (Nat.le_refl _)) hk (by omega)).mono ?_; rintro e w1 ⟨v1, rfl, ho1, hb1⟩; have hS2 := Two.go (by assumption) HB.out hb1)
      | (refine step_append_items _ rfl (.tmp 21) (.tmp 24) rfl w.heap.size (.slice (some ⟨w1.heap.size, 0, none⟩) 1 1) 1 (cellsI [y]) (by simp [Act.eval]) (own_one _ y 104 hS2.2.size) v1 _ (by simp [Act.eval]) (Items.mono ho1.items ((Below.refl _ _).alloc (Nat.le_refl _) _) (Nat.le_refl _)) (by omega) HLA.out (size_alloc_le hS2.2.size _) ?_; intro v' w2 hown2 hgrow2; have hS3 := Two.grown (Two.alloc hS2 HB.out _) HB.out hgrow2 (fun j hj => by have := hS2.2.size; simp [Value.ownBlock] at hj; omega))
      | (refine step_append_items _ rfl (.tmp 21) (.tmp 24) rfl w.heap.size (.slice (some ⟨w.heap.size, 0, none⟩) 1 1) 1 (cellsI [y]) (by simp [Act.eval]) (ownsRow_below (own_one w.drew y 104 (Nat.le_refl _)) hb1 (Nat.le_refl _)) v1 _ (by simp [Act.eval]) ho1.items (by omega) HLA.out hS2.2.size ?_; intro v' w2 hown2 hgrow2; have hS3 := Two.grown hS2 HB.out hgrow2 (fun j hj => by simp [Value.ownBlock] at hj; omega)))
  all_goals go_wp2
  all_goals go_ret
  all_goals exact ⟨_, rfl, own_app (xs := [y]) hown2 (Nat.le_refl _) HOK.out, hS3.2⟩

theorem movI_last {xs : List Itm} {s : ByteArray} {k : Nat} {hk : k < xs.length} (h2 : xs[k] = (s, cnt xs s)) (h3 : delI xs s = xs.take k ++ xs.drop (k + 1)) : movI xs s true = xs.take k ++ xs.drop (k + 1) ++ [xs[k]] := by
  unfold movI
  rw [if_pos rfl, h2, h3]
theorem movI_first {xs : List Itm} {s : ByteArray} {k : Nat} {hk : k < xs.length} (h2 : xs[k] = (s, cnt xs s)) (h3 : delI xs s = xs.take k ++ xs.drop (k + 1)) : movI xs s false = [xs[k]] ++ (xs.take k ++ xs.drop (k + 1)) := by
  unfold movI
  rw [h2, h3]
  rfl
theorem smoved_any (v : Value) (xs : List Itm) (s : ByteArray) (k : Nat) (last : Bool) (w : World) (h : Items w v xs) (hk : k < xs.length) (h2 : xs[k] = (s, cnt xs s)) (h3 : delI xs s = xs.take k ++ xs.drop (k + 1)) (hn : xs.length ≤ 100000) :
    Calls Try.prog 122 #[v, .int .i64 k, .bool last] w (FreshI (movI xs s last) w) := by
  cases last
  · rw [movI_first h2 h3]; exact smoved_first v xs k w h hk hn
  · rw [movI_last h2 h3]; exact smoved_last v xs k w h hk hn

theorem mov_no {xs : List Itm} {s : ByteArray} {a b last : Bool} (HV : Hid (validI xs = a)) (HH : Hid (hasI xs s = b)) (h : (a && b) = false) (E : Nat) (w : World) (B : Nat) : OwnI E w B (.slice none 0 0) (movL xs s last) := by
  unfold movL
  rw [okG_of HV HH, h]
  exact OwnI_nil _ _ _
theorem mov_yes {xs : List Itm} {s : ByteArray} {last : Bool} (HV : Hid (validI xs = true)) (HH : Hid (hasI xs s = true)) : movL xs s last = movI xs s last := by
  unfold movL
  rw [okG_of HV HH]
  rfl

end Go.Proofs.Ytigiliakcmpekaa
