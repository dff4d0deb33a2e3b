/-
  Back.
-/
import Derived.LoopIn
import Derived.LoopNIn
import Derived.OwnWalkIn
import Derived.RangeFuncBound
import Derived.RangeFuncCalls
import Derived.RangeFuncFrom
import Derived.RangeFuncLeaves
import Derived.Shelf.Abstract
import Derived.Shelf.RegionOpen
import Derived.TacticsInMore
import Derived.WalkKit
import Derived.Test.YtoglgeinnocfjaaC11
/-
  Maps as a list of blocks, each with the one below it; slices.Backward; the program's parentOf.
-/
namespace Go.Proofs.Ytoglgeinnocfjaa
open Go.RowKit Go.Shelf

/-- A pointer to a block of a list and the pointer to what lies below it. -/
def ParK (K : Nat → Prop) (w : World) : Option Addr → List (List Itm) → Prop
  | p, [] => p = none
  | p, l :: ls => ∃ b q u, p = some ⟨b, 0, none⟩ ∧ K b ∧ b < w.heap.size ∧ w.cell? ⟨b, 0, none⟩ = some (.pointer q) ∧ w.cell? ⟨b, 1, none⟩ = some u ∧ Items w u l ∧ InK K u ∧ ParK K w q ls
theorem ParK.keeps {K : Nat → Prop} {w w' : World} (hk : Keeps K w w') : ∀ {p : Option Addr} {ls : List (List Itm)}, ParK K w p ls → ParK K w' p ls
  | _, [], h => h
  | _, _ :: _, ⟨b, q, u, e, hK, hb, h1, h2, h3, h4, h5⟩ => ⟨b, q, u, e, hK, Nat.lt_of_lt_of_le hb hk.size, (hk.cell (a := ⟨b, 0, none⟩) hK).trans h1, (hk.cell (a := ⟨b, 1, none⟩) hK).trans h2, h3.keeps hk h4, h4, h5.keeps hk⟩
theorem Items.kept {w w' : World} (hs : w.heap.size ≤ w'.heap.size) (hc : ∀ a u, w.cell? a = some u → w'.cell? a = some u) {v : Value} {xs : List Itm} (h : Items w v xs) : Items w' v xs := by
  obtain ⟨ao, cap, e, h1, h2, h3, h4⟩ := h
  refine ⟨ao, cap, e, h1, h2, h3, fun k hk => ?_⟩
  obtain ⟨b, o, ha, hb, c1, c2⟩ := h4 k hk
  exact ⟨b, o, ha, Nat.lt_of_lt_of_le hb hs, hc _ _ c1, hc _ _ c2⟩
theorem ParK.kept {K : Nat → Prop} {w w' : World} (hs : w.heap.size ≤ w'.heap.size) (hc : ∀ a u, w.cell? a = some u → w'.cell? a = some u) : ∀ {p : Option Addr} {ls : List (List Itm)}, ParK K w p ls → ParK K w' p ls
  | _, [], h => h
  | _, _ :: _, ⟨b, q, u, e, hK, hb, h1, h2, h3, h4, h5⟩ => ⟨b, q, u, e, hK, Nat.lt_of_lt_of_le hb hs, hc _ _ h1, hc _ _ h2, h3.kept hs hc, h4, h5.kept hs hc⟩
theorem ParK.mono {K K' : Nat → Prop} (hk : ∀ k, K k → K' k) {w : World} : ∀ {p : Option Addr} {ls : List (List Itm)}, ParK K w p ls → ParK K' w p ls
  | _, [], h => h
  | _, _ :: _, ⟨b, q, u, e, hK, hb, h1, h2, h3, h4, h5⟩ => ⟨b, q, u, e, hk b hK, hb, h1, h2, h3, h4.mono hk, h5.mono hk⟩
def Par (w : World) (p : Option Addr) (ls : List (List Itm)) : Prop := ParK (fun _ => True) w p ls
theorem Par.inside {w : World} : ∀ {p : Option Addr} {ls : List (List Itm)}, Par w p ls → ParK (· < w.heap.size) w p ls
  | _, [], h => h
  | _, _ :: _, ⟨b, q, u, e, _, hb, h1, h2, h3, _, h5⟩ => ⟨b, q, u, e, hb, hb, h1, h2, h3, h3.inK, Par.inside h5⟩
theorem Par.mono {w w' : World} {B : Nat} (hb : Below B w w') (hB : w.heap.size ≤ B) {p : Option Addr} {ls : List (List Itm)} (h : Par w p ls) : Par w' p ls :=
  (h.inside.keeps (Keeps.of_below hb (fun _ hk => Nat.lt_of_lt_of_le hk hB))).mono (fun _ _ => trivial)
theorem Par.nil {w : World} {ls : List (List Itm)} (h : Par w none ls) : ls = [] := by
  cases ls with
  | nil => rfl
  | cons l r => obtain ⟨b, q, u, e, _⟩ := h; cases e

/-- What slices.Backward hands over: an index, a slice, the items that it reads as in w. -/
abbrev Bk (w : World) := { x : Int × Value × List Itm // Items w x.2.1 x.2.2 }
theorem Maps.bks {w : World} {v : Value} {ls : List (List Itm)} (h : Maps w v ls) (h0 : 0 < ls.length) :
    ∃ b o cap, ∃ zs : List (Bk w), v = .slice (some ⟨b, o, none⟩) ls.length cap ∧ ls.length ≤ cap ∧ cap ≤ 9223372036854775807 ∧ b < w.heap.size ∧ zs.length = ls.length ∧ zs.map (fun x => x.1.2.2) = ls ∧
      ∀ (k : Nat) (hk : k < zs.length), zs[k].1.1 = (k : Int) ∧ w.cell? ⟨b, o + k, none⟩ = some zs[k].1.2.1 := by
  have hM := h
  obtain ⟨us, h1, ⟨ao, cap, e, h2, h3, h4⟩, h5⟩ := h
  obtain ⟨b, o, ha, hb, _, _⟩ := h4 0 (us[0]'(by omega)) (List.getElem?_eq_getElem (by omega))
  subst ha
  refine ⟨b, o, cap, List.ofFn (fun k : Fin ls.length => (⟨((k.1 : Int), us[k.1]'(by omega), ls[k.1]), (h5 k.1 _ _ (List.getElem?_eq_getElem (by omega)) (List.getElem?_eq_getElem k.2)).1⟩ : Bk w)), by rw [e, h1], by omega, h3, hb, by simp, ?_, ?_⟩
  · apply List.ext_getElem
    · simp
    · intro i q1 q2
      simp
  · intro k hk
    simp at hk
    obtain ⟨b', o', ha', _, _, hc⟩ := h4 k (us[k]'(by omega)) (List.getElem?_eq_getElem (by omega))
    simp only [Option.some.injEq, Addr.mk.injEq, and_true] at ha'
    obtain ⟨rfl, rfl⟩ := ha'
    simp
    exact hc

section
attribute [local go_sem] Oper.semAt_some

set_option maxHeartbeats 1000000 in
theorem Backward_in (F : Fence) (n : Nat) (hF : F.fn 128) (hro : F.round = none) (a : Option Addr) (len cap : Nat) (w : World) :
    CallsIn F n Try.prog 128 #[.slice a len cap] w fun e w' => e = .returned (.func (.func 142) #[] #[.pointer (some ⟨w.heap.size, 0, none⟩)]) ∧ w' = w.alloc (.cells #[.slice a len cap] 49) := by
  refine callsIn_of_wp Try.func128 rfl hF ?_ hro
  simp only [Try.ntmps128, List.size_toArray, List.length_cons, List.length_nil, Nat.reduceAdd, Nat.reduceSub, Array.replicate_succ, Array.replicate_zero, List.push_toArray, List.append_toArray, List.nil_append, List.cons_append]
  gi_wp2
  go_ret
  exact ⟨rfl, rfl⟩

set_option maxRecDepth 100000 in
set_option maxHeartbeats 2000000 in
theorem Backward1_in (F : Fence) (n : Nat) (hF : F.fn 142) (hro : F.round = none) (hn : 1 ≤ n) (K : Nat → Prop) (w0 : World) (zs : List (Bk w0)) (l Bs b o cap : Nat) (hlen : zs.length ≤ 4) (hKs : K Bs) (hKb : K b)
    (hz : ∀ (k : Nat) (hk : k < zs.length), zs[k].1.1 = (k : Int)) (J Jx : List (Bk w0) → World → Prop)
    (hY : ∀ pre x W, J pre W → pre.length < zs.length → YieldAt F (n - 1) Try.prog l #[.int .i64 x.1.1, x.1.2.1] W fun e W' =>
      (e = .returned (.bool true) ∧ J (pre ++ [x]) W' ∧ Keeps K W W') ∨ (e = .returned (.bool false) ∧ Jx (pre ++ [x]) W'))
    (W : World) (hBs : W.cell? ⟨Bs, 0, none⟩ = some (.slice (some ⟨b, o, none⟩) zs.length cap)) (hc : ∀ (k : Nat) (hk : k < zs.length), W.cell? ⟨b, o + k, none⟩ = some zs[k].1.2.1) (h0 : J [] W) :
    CallsIn F n Try.prog 142 #[.func (.yield l) #[] #[], .pointer (some ⟨Bs, 0, none⟩)] W fun e W' => (∃ v, e = .returned v) ∧
      ((∃ ys, ys = zs.reverse ∧ J ys W') ∨ (∃ pre, True ∧ Jx pre W')) := by
  refine callsIn_of_wp Try.func142 rfl hF ?_ hro
  simp only [Try.ntmps142, List.size_toArray, List.length_cons, List.length_nil, Nat.reduceAdd, Nat.reduceSub, Array.replicate_succ, Array.replicate_zero, List.push_toArray, List.append_toArray, List.nil_append, List.cons_append]
  gi_wp2
  gi_loopw [3] (fun i wr => ∃ k : Nat, k ≤ zs.length ∧ i = .int .i64 ((k : Int) - 1) ∧ J (zs.drop k).reverse wr ∧ Hid (Keeps K W wr))
    (fun i _ => (intOf i + 1).toNat)
  case atStart => exact ⟨zs.length, Nat.le_refl _, by go_num, by simpa using h0, Keeps.refl _ _⟩
  case round =>
    obtain ⟨k, hk, rfl, hJs, HK⟩ := hrel
    cases k with
    | zero =>
      gi_wp2
      go_end0
      exact ⟨⟨_, rfl⟩, .inl ⟨_, rfl, by simpa using hJs⟩⟩
    | succ m =>
      have hm : m < zs.length := by omega
      have c0 := (HK.out.cell (a := ⟨Bs, 0, none⟩) hKs).trans hBs
      have c1 := (HK.out.cell (a := ⟨b, _, none⟩) hKb).trans (hc m hm)
      obtain ⟨fn, tmps, assign, body, hy, hR⟩ := hY _ zs[m] wr hJs (by simp; omega)
      rw [hz m hm] at hy
      gi_wp2
      refine hR.mono ?_
      rintro e W3 (⟨rfl, hJ3, hk3⟩ | ⟨rfl, hJx3⟩)
      · have HK3 := Lib.hid (HK.out.trans hk3)
        gi_wp2
        go_roundw
        case rel =>
          refine ⟨m, by omega, by go_num, ?_, HK3.out⟩
          rw [List.drop_eq_getElem_cons hm, List.reverse_cons]
          exact hJ3
        case measure => simp [intOf]
      · gi_wp2
        refine bodyPost_ret (results_none rfl _ _ _) rfl ?_
        exact ⟨⟨_, rfl⟩, .inr ⟨_, trivial, hJx3⟩⟩

theorem Backward_stops (F : Fence) (n : Nat) (hF : F.fn 142) (hro : F.round = none) (hn : 1 ≤ n) (K : Nat → Prop) (w0 : World) (zs : List (Bk w0)) (Bs b o cap : Nat) (hlen : zs.length ≤ 4) (hKs : K Bs) (hKb : K b)
    (hz : ∀ (k : Nat) (hk : k < zs.length), zs[k].1.1 = (k : Int)) (w : World) (hBs : Bs < w.heap.size) (hb : b < w.heap.size) (hcs : w.cell? ⟨Bs, 0, none⟩ = some (.slice (some ⟨b, o, none⟩) zs.length cap)) (hc : ∀ (k : Nat) (hk : k < zs.length), w.cell? ⟨b, o + k, none⟩ = some zs[k].1.2.1) :
    SeqStopsK F n Try.prog 142 #[.pointer (some ⟨Bs, 0, none⟩)] (fun x : Bk w0 => #[Value.int .i64 x.1.1, x.1.2.1]) (Keeps K) (fun ys => ys = zs.reverse) (fun _ => True) zs.length w :=
  fun l J Jx W hW _ _ hY h0 => Backward1_in F n hF hro hn K w0 zs l Bs b o cap hlen hKs hKb hz J Jx hY W ((hW.cell (p := ⟨Bs, 0, none⟩) hBs).trans hcs) (fun k hk => (hW.cell (p := ⟨b, _, none⟩) hb).trans (hc k hk)) h0

theorem One.kept {w w' : World} {b T : Nat} {u : Value} {row : Option Nat} (h : One w b T u) (hg : w.grownBy w' row) (hr : ∀ r, row = some r → ∃ o : Go.Obj, w.heap[r]? = some o ∧ o.isCells = false) : One w' b T u := by
  unfold One at h ⊢
  rw [grownBy_keeps_cells hg hr h rfl, h]

set_option maxRecDepth 100000 in
set_option maxHeartbeats 2000000 in
theorem parentOf_in (F : Fence) (n : Nat) (hF : ∀ f, F.fn f) (hro : F.round = none) (hn : 3 ≤ n) (v : Value) (ls : List (List Itm)) (w : World) (h : Maps w v ls) (h0 : 0 < ls.length) (h4 : ls.length ≤ 4) :
    CallsIn F n Try.prog 99 #[.agg #[v]] w fun e w' => ∃ q, e = .returned (.agg #[.pointer q]) ∧ Par w' q ls ∧ Below w.heap.size w w' := by
  have h1 : 1 ≤ n := by omega
  obtain ⟨b, o, cap, zs, rfl, hlc, hcm, hb, hzl, hzm, hz⟩ := h.bks h0
  clear h
  refine callsIn_of_wp_marks Try.func99 rfl (hF _) ?_ hro
  simp only [Try.ntmps99, List.size_toArray, List.length_cons, List.length_nil, Nat.reduceAdd, Nat.reduceSub, Array.replicate_succ, Array.replicate_zero, List.push_toArray, List.append_toArray, List.nil_append, List.cons_append]
  gi_wp2_with (gi_at_call 128; refine (Backward_in F (n - 1) (hF _) hro _ _ _ _).mono ?_; rintro e w' ⟨rfl, rfl⟩)
  have HB0 : Hid (Below w.heap.size w ((((w.alloc (.cells #[.slice (some ⟨b, o, none⟩) ls.length cap] 51)).alloc (.cells #[.pointer none] 103)).alloc (.cells #[.pointer none] 103)).alloc (.cells #[.slice (some ⟨b, o, none⟩) ls.length cap] 49))) :=
    ((((Below.refl _ w).alloc (Nat.le_refl _) _).alloc (by simp) _).alloc (by simp <;> omega) _).alloc (by simp <;> omega) _
  have F1 := (One.new (w.alloc (.cells #[.slice (some ⟨b, o, none⟩) ls.length cap] 51)) 103 (.pointer none)).below (B := w.heap.size + 2) (((Below.refl _ _).alloc (by simp) (.cells #[.pointer none] 103)).alloc (by simp) (.cells #[.slice (some ⟨b, o, none⟩) ls.length cap] 49)) (by simp)
  have F2 := (One.new ((w.alloc (.cells #[.slice (some ⟨b, o, none⟩) ls.length cap] 51)).alloc (.cells #[.pointer none] 103)) 103 (.pointer none)).below (B := w.heap.size + 3) ((Below.refl _ _).alloc (by simp) (.cells #[.slice (some ⟨b, o, none⟩) ls.length cap] 49)) (by simp)
  have F3 := One.new (((w.alloc (.cells #[.slice (some ⟨b, o, none⟩) ls.length cap] 51)).alloc (.cells #[.pointer none] 103)).alloc (.cells #[.pointer none] 103)) 49 (.slice (some ⟨b, o, none⟩) ls.length cap)
  simp at F1 F2 F3
  obtain ⟨w4, hw4⟩ : ∃ w4, ((((w.alloc (.cells #[.slice (some ⟨b, o, none⟩) ls.length cap] 51)).alloc (.cells #[.pointer none] 103)).alloc (.cells #[.pointer none] 103)).alloc (.cells #[.slice (some ⟨b, o, none⟩) ls.length cap] 49)) = w4 := ⟨_, rfl⟩
  have hs4 : w4.heap.size = w.heap.size + 4 := by rw [← hw4]; simp
  rw [hw4] at F1 F2 F3 HB0 ⊢
  have hcs : w4.cell? ⟨w.heap.size + 1 + 1 + 1, 0, none⟩ = some (.slice (some ⟨b, o, none⟩) zs.length cap) := by rw [hzl]; exact F3.cell
  refine wpIn_rangeFunc_ownF hro h1 (gf := 142) (lb := #[.pointer (some ⟨w.heap.size + 1 + 1 + 1, 0, none⟩)]) rfl (hF _) (enters_of Try.func142 (by kernel_rfl) rfl)
    (Backward_stops F (n - 1) (hF _) hro (by omega) (fun j => j < w.heap.size + 4 ∧ j ≠ w.heap.size + 2) w zs (w.heap.size + 1 + 1 + 1) b o cap (by omega) ⟨by omega, by omega⟩ ⟨by omega, by omega⟩ (fun k hk => (hz k hk).1) w4 (by omega) (by omega) hcs (fun k hk => (HB0.out.cell (p := ⟨b, _, none⟩) hb).trans (hz k hk).2))
    (fun h k => h.trans k) (fun W l x x' hl _ _ _ => ⟨rfl, rfl, rfl, by simp, fun k hk => World.putObj_heap_other (by have := hk.1; omega)⟩) (Below.refl _ _) (fun _ => rfl)
    (fun pre W => ((∃ q, One W (w.heap.size + 1 + 1) 103 (.pointer q) ∧ ParK (fun j => j ≠ w.heap.size + 1 ∧ j ≠ w.heap.size + 1 + 1) W q (pre.reverse.map (fun x => x.1.2.2))) ∧ One W (w.heap.size + 1) 103 (.pointer none) ∧ w4.heap.size ≤ W.heap.size) ∧ Below w.heap.size w W)
    (fun _ _ _ => False)
    (OwnFrom.and (Own.from (fun s A B row hs hg hr => by
      obtain ⟨⟨q, h1, h2⟩, h3, h4⟩ := hs
      exact ⟨⟨q, h1.kept hg hr, h2.kept hg.size (fun a u hc => cell_kept hc hg hr)⟩, h3.kept hg hr, Nat.le_trans h4 hg.size⟩) _) (ownFrom_below (Nat.le_refl _) (by omega)))
    (fun _ _ _ _ _ hs _ _ => hs)
    ⟨⟨⟨none, F2, rfl⟩, F1, Nat.le_refl _⟩, HB0.out⟩
    (fun x => { tmps := #[Value.agg #[Value.slice (some ⟨b, o, none⟩) ls.length cap], .pointer (some ⟨w.heap.size, 0, none⟩), .pointer (some ⟨w.heap.size + 1, 0, none⟩), .pointer (some ⟨w.heap.size + 1 + 1, 0, none⟩), undef, x.1.2.1, .pointer (some ⟨w.heap.size, 0, none⟩), .slice (some ⟨b, o, none⟩) ls.length cap, .func (.func 142) #[] #[.pointer (some ⟨w.heap.size + 1 + 1 + 1, 0, none⟩)], .int .i64 x.1.1, x.1.2.1, undef, undef, undef, undef, undef, undef], defers := [] }) ?assign ?body ?done ?stop
  case assign =>
    intro l x W K hK
    gi_wp2
    exact hK
  case body =>
    rintro l pre ⟨⟨i, u, xs⟩, hx⟩ W ⟨⟨⟨q, hP, hpar⟩, hR, hsz⟩, hB⟩ _
    obtain ⟨ao, c, hu, -⟩ := id hx
    dsimp only at hu hx
    subst hu
    have c0 := hP.cell
    have f0 := hP.free
    have hA : Below W.heap.size W (W.alloc (.cells #[.pointer q, .slice ao xs.length c] 132)) := (Below.refl _ _).alloc (Nat.le_refl _) _
    have c0' := (hP.below hA hP.lt).cell
    have f0' := (hP.below hA hP.lt).free
    have HP := Lib.hid hP
    have HPAR := Lib.hid hpar
    have HR := Lib.hid hR
    have HB := Lib.hid hB
    have HAA := Lib.hid hA
    clear hA
    have HX := Lib.hid hx
    clear hP hpar hR hB
    gi_wp2
    have hBB := (HB.out.trans (HAA.out.mono HB.out.size)).setCell (p := ⟨w.heap.size + 1 + 1, 0, none⟩) (by simp; omega) (.pointer (some ⟨W.heap.size, 0, none⟩))
    have hblk : ((W.alloc (.cells #[.pointer q, .slice ao xs.length c] 132)).setCell ⟨w.heap.size + 1 + 1, 0, none⟩ (.pointer (some ⟨W.heap.size, 0, none⟩))).heap[W.heap.size]? = some (.cells #[.pointer q, .slice ao xs.length c] 132 (0, 0)) :=
      (Below.heap_setCell _ _ _ _ (by simp; omega)).trans (heap_alloc_new _ _)
    refine ⟨(KeepsOthers.alloc _ _).trans (KeepsOthers.setCell _ _ _), ?_, ⟨⟨some ⟨W.heap.size, 0, none⟩, ?_, ?_⟩, ?_, ?_⟩, hBB⟩
    · show Keeps (fun j => j < w.heap.size + 4 ∧ j ≠ w.heap.size + 2) _ _
      exact ((Keeps.refl _ W).alloc (fun k hk => by have := hk.1; omega) _).setCell (fun h => h.2 rfl) _
    · exact (HP.out.below HAA.out HP.out.lt).set _
    · rw [List.reverse_append]
      refine ⟨W.heap.size, q, .slice ao xs.length c, rfl, ⟨by omega, by omega⟩, by simp, by simp only [World.cell?, hblk]; rfl, by simp only [World.cell?, hblk]; rfl, HX.out.mono hBB (Nat.le_refl _), HX.out.inK.mono (fun k hk => ⟨by omega, by omega⟩), ?_⟩
      exact (HPAR.out.kept (by simp) (fun a u hc => cell_kept hc (World.grownBy_alloc W _ none) (fun r e => by cases e))).keeps ((Keeps.refl _ _).setCell (fun h => h.2 rfl) _)
    · exact (HR.out.below HAA.out HR.out.lt).keeps (K := fun j => j ≠ w.heap.size + 1 + 1) ((Keeps.refl _ _).setCell (by simp) _) (by simp)
    · simp
      omega
  case done =>
    rintro D ys W hD rfl ⟨⟨⟨q, hP, hpar⟩, hR, hsz⟩, hB⟩ hK
    have c0 := hP.cell
    have c1 := hR.cell
    have f0 := hR.free
    have HP := Lib.hid hP
    have HPAR := Lib.hid hpar
    have HR := Lib.hid hR
    have HB := Lib.hid hB
    clear hP hpar hR hB
    gi_wp2
    have hK' := (KeepsOthers.setCell W ⟨w.heap.size + 1, 0, none⟩ (.pointer q)).same D _ hK rfl
    have hc5 : ((W.setCell ⟨w.heap.size + 1, 0, none⟩ (.pointer q)).putObj D (.deferred none)).cell? ⟨w.heap.size + 1, 0, none⟩ = some (.pointer q) := (((HR.out.set (.pointer q)).kept (grownBy_putObj' _ D (.deferred none)) (fun r e => by cases e; exact ⟨_, hK', rfl⟩))).cell
    refine ⟨by simp, .inl ⟨_, _, rfl, run_takeDeferred hK', ?_⟩⟩
    refine ⟨.agg #[.pointer q], by simp [results, Try.results99, go_sem, hc5], q, rfl, ?_, ?_⟩
    · have hp := HPAR.out
      rw [List.reverse_reverse, hzm] at hp
      exact ((hp.keeps ((Keeps.refl _ _).setCell (by simp) _)).kept (grownBy_putObj' _ D (.deferred none)).size (fun a u hc => cell_kept hc (grownBy_putObj' _ D (.deferred none)) (fun r e => by cases e; exact ⟨_, hK', rfl⟩))).mono (fun _ _ => trivial)
    · exact (HB.out.setCell (by simp) _).trans (belowK_b (w := w) (Nat.le_refl _) _ D _ _ (by omega) hK' rfl rfl)
  case stop =>
    rintro D c pre W _ _ h _
    exact h.elim

theorem parentOf_any (v : Value) (ls : List (List Itm)) (w : World) (h : Maps w v ls) (h0 : 0 < ls.length) (h4 : ls.length ≤ 4) :
    Calls Try.prog 99 #[.agg #[v]] w fun e w' => ∃ q, e = .returned (.agg #[.pointer q]) ∧ Par w' q ls ∧ Below w.heap.size w w' :=
  callsIn_wide.1 (parentOf_in Fence.wide 3 (fun _ => trivial) rfl (Nat.le_refl _) v ls w h h0 h4)
end
end Go.Proofs.Ytoglgeinnocfjaa
