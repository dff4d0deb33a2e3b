/-
  Shelf, ImplO.
-/
import Derived.Deep.RegionHeld3
import Derived.Test.YtlclhdolcokipaaH5
import Derived.Test.YtlclhdolcokipaaH11
import Derived.Test.YtlclhdolcokipaaH17
/-
  A cache copied; a cache in use.
-/
namespace Go.Proofs.Ytlclhdolcokipaa
open Go.RowKit

set_option maxHeartbeats 800000 in
set_option maxRecDepth 100000 in
theorem copyC_any (v : Value) (xs : List Itm) (m g s : Int) (w : World) (hI : Items w v xs) (hn : xs.length ≤ 1000000) :
    Calls Try.prog 82 #[.agg #[v, .int .i64 m, .int .i64 g, .int .i64 s]] w (NewL (fun v => .agg #[v, .int .i64 m, .int .i64 g, .int .i64 s]) xs w) := by
  have hI0 := Lib.hid hI
  obtain ⟨ao, cap, rfl, hlc, hcm, _, _⟩ := hI
  go_enter Try.func82, Try.ntmps82
  go_wp2_with fail
  have HB0 : Hid (Below w.heap.size w ((w.alloc (.cells #[.slice ao xs.length cap, .int .i64 m, .int .i64 g, .int .i64 s] 25)).alloc (.cells #[.slice none 0 0, .int .i64 0, .int .i64 0, .int .i64 0] 25))) := ((Below.refl _ _).alloc (Nat.le_refl _) _).alloc (by simp) _
  refine (copyItems_any _ xs _ (hI0.out.mono HB0.out (Nat.le_refl _)) (by omega)).mono ?_
  rintro e w1 ⟨v', rfl, ho, hb⟩
  obtain ⟨xo, xcap, rfl, _, _⟩ := own_slice ho.1
  have hs := hb.size
  simp at ho hb hs
  have F0 := (Four.new w 25 (.slice ao xs.length cap) (.int .i64 m) (.int .i64 g) (.int .i64 s)).below (B := w.heap.size + 1) ((Below.refl _ _).alloc (by simp) (.cells #[.slice none 0 0, .int .i64 0, .int .i64 0, .int .i64 0] 25)) (by omega)
  have F1 := Four.new (w.alloc (.cells #[.slice ao xs.length cap, .int .i64 m, .int .i64 g, .int .i64 s] 25)) 25 (.slice none 0 0) (.int .i64 0) (.int .i64 0) (.int .i64 0)
  simp at F1
  have G0 := F0.below hb (by omega)
  have G1 := F1.below hb (by omega)
  obtain ⟨a0, a1, a2, a3⟩ := G0.cells
  obtain ⟨c0, c1, c2, c3⟩ := G1.cells
  obtain ⟨f0, f1, f2, f3⟩ := G0.free
  obtain ⟨g0, g1, g2, g3⟩ := G1.free
  have HO := Lib.hid ho
  have HBB := Lib.hid hb
  clear F0 F1 G0 G1 hb ho
  go_wp2
  exact bodyPost_ret (v := .agg #[.slice xo xs.length xcap, .int .i64 m, .int .i64 g, .int .i64 s]) (by simp [results, Try.results82, go_sem, c0, c1, c2, c3]) rfl ⟨_, rfl, by
    refine (HO.out.past ?_).base (by omega)
    iterate 5 refine Keeps.past ?_ (by simp <;> omega) _
    exact Keeps.refl _ _, by
    iterate 5 refine Below.setCell ?_ (by simp <;> omega) _
    exact HB0.out.trans (HBB.out.mono (by omega))⟩

/-- A cache in use lies at sb. -/
def ShelfAt (w : World) (sb r : Nat) (m g s : Int) : Prop := w.heap[sb]? = some (.cells #[.pointer (some ⟨r, 0, none⟩), .int .i64 m, .int .i64 g, .int .i64 s, .func (.func 69) #[.pointer (some ⟨r, 0, none⟩)] #[], .func (.func 113) #[.pointer (some ⟨r, 0, none⟩)] #[]] 104 (0, 0))
def ShelfPost (xs : List Itm) (m g s : Int) (w : World) (e : Ending) (w' : World) : Prop :=
  ∃ sb r rt ns, e = .returned (.pointer (some ⟨sb, 0, none⟩)) ∧ its ns = xs ∧ ShelfAt w' sb r m g s ∧ RingAt (fun j => j < w.heap.size ∨ j = sb) w' r rt ns ∧ Below w.heap.size w w' ∧ w.heap.size ≤ sb

theorem RingAt.reKeep {K K' : Nat → Prop} {w : World} {r rt : Nat} {ns : List Nod} (h : RingAt K w r rt ns) (hK : ∀ b ∈ r :: rt :: blk ns, ¬ K' b) : RingAt K' w r rt ns :=
  ⟨h.head, h.chain, h.nodup, ⟨hK r (by simp), fun b hb => hK b (List.mem_cons_of_mem _ hb)⟩, h.ok⟩

set_option maxHeartbeats 800000 in
set_option maxRecDepth 100000 in
theorem shelfOf_any (v : Value) (xs : List Itm) (m g s : Int) (w : World) (h : Items w v xs) (hl : xs.length ≤ 100000) :
    Calls Try.prog 64 #[.agg #[v, .int .i64 m, .int .i64 g, .int .i64 s]] w (ShelfPost xs m g s w) := by
  have h0 := Lib.hid h
  obtain ⟨ao, cap, rfl, hlc, hcm, _, _⟩ := h
  go_enter Try.func64, Try.ntmps64
  have HA : Hid (Below w.heap.size w (w.alloc (.cells #[.slice ao xs.length cap, .int .i64 m, .int .i64 g, .int .i64 s] 25))) := (Below.refl _ _).alloc (Nat.le_refl _) _
  have HF := Lib.hid (Four.new w 25 (.slice ao xs.length cap) (.int .i64 m) (.int .i64 g) (.int .i64 s))
  go_wp2_with fail
  refine (ringOf_any _ xs _ (h0.out.mono HA.out (Nat.le_refl _)) hl).mono ?_
  rintro e w1 ⟨r, rt, ns, rfl, hns, hR, hb1⟩
  obtain ⟨c0, c1, c2, c3⟩ := (HF.out.below hb1 HF.out.lt).cells
  have HB : Hid (Below w.heap.size w w1) := HA.out.trans (hb1.mono (by simp))
  have HR := Lib.hid hR
  have HN := Lib.hid hns
  have hs1 := hb1.size
  simp at hs1
  clear hb1 hR hns
  go_wp2
  go_ret
  have hbn : Below w1.heap.size w1 (w1.alloc (.cells #[.pointer (some ⟨r, 0, none⟩), .int .i64 m, .int .i64 g, .int .i64 s, .func (.func 69) #[.pointer (some ⟨r, 0, none⟩)] #[], .func (.func 113) #[.pointer (some ⟨r, 0, none⟩)] #[]] 104)) := (Below.refl _ _).alloc (Nat.le_refl _) _
  refine ⟨w1.heap.size, r, rt, ns, rfl, HN.out, ?_, (HR.out.below hbn).reKeep (fun b hb => ?_), HB.out.trans (hbn.mono HB.out.size), by omega⟩
  · unfold ShelfAt
    rw [heap_alloc_new]
  · have hlt := HR.out.lt
    have hout := HR.out.out
    simp at hout
    rcases List.mem_cons.1 hb with e | e
    · have := hlt.1
      subst e
      omega
    · have h1 := hlt.2 b e
      have h2 := HR.out.out.2 b e
      simp at h2
      omega
end Go.Proofs.Ytlclhdolcokipaa
/-
  The program's functions over items in order: put, dropped, moved, popped, renamed, laid over.
-/
namespace Go.Proofs.Ytlclhdolcokipaa
open Go.RowKit

theorem drpL_no {xs : List Itm} {s : ByteArray} (h : okG xs s = false) : drpL xs s = [] := by unfold drpL; rw [h]; rfl
theorem drpL_yes {xs : List Itm} {s : ByteArray} (h : okG xs s = true) : drpL xs s = delI xs s := by unfold drpL; rw [h]; rfl
theorem movL_no {xs : List Itm} {s : ByteArray} {l : Bool} (h : okG xs s = false) : movL xs s l = [] := by unfold movL; rw [h]; rfl
theorem movL_yes {xs : List Itm} {s : ByteArray} {l : Bool} (h : okG xs s = true) : movL xs s l = movI xs s l := by unfold movL; rw [h]; rfl
theorem okG_yes {xs : List Itm} {s : ByteArray} (h : okG xs s = true) : validI xs = true ∧ hasI xs s = true := by unfold okG at h; simpa using h
theorem ring_len {p q : List Nod} {a : Nat} {x : Itm} {xs : List Itm} (h : its (p ++ (a, x) :: q) = xs) (hv : validI xs = true) : (p ++ (a, x) :: q).length ≤ 8 := by
  have := valid_len hv
  rw [← h, its_len] at this
  exact this

set_option maxHeartbeats 800000 in
theorem MoveItem_any (v : Value) (xs : List Itm) (s : ByteArray) (last : Bool) (w : World) (h : Items w v xs) :
    Calls Try.prog 21 #[v, .string s, .bool last] w (NewI2 (movL xs s last) (okG xs s) w) := by
  go_enter Try.func21, Try.ntmps21
  cases hg : okG xs s
  · have HG := Lib.hid hg
    clear hg
    go_wp2_with fail
    refine (findItem_no _ _ s _ h HG.out).mono ?_
    rintro e w1 ⟨u, rfl, hb1⟩
    have HD := Lib.hid (movL_no (l := last) HG.out)
    go_wp2
    go_ret2
    exact ⟨_, rfl, by rw [HD.out]; exact OwnI_nil _ _ _, hb1⟩
  · have HG := Lib.hid hg
    have hy := okG_yes hg
    clear hg
    go_wp2_with fail
    refine (findItem_yes _ _ s _ h hy.1 hy.2).mono ?_
    rintro e w1 ⟨r, rt, p, a, x, q, rfl, hxs, hx, hp, hR, hb1⟩
    have hlen := ring_len hxs hy.1
    have hxe : x = (s, cnt xs s) := by
      rw [← hxs, its_app]
      have := cnt_sp (r := its q) hx hp
      exact Prod.ext hx this.symm
    have hdl : delI xs s = its p ++ its q := by
      rw [← hxs, its_app]
      exact delI_sp hx hp
    cases last
    · have HD := Lib.hid (show movL xs s false = its ((a, x) :: (p ++ q)) by
        rw [movL_yes HG.out]
        unfold movI
        rw [hdl, ← hxe]
        simp)
      have hl2 : ((a, x) :: (p ++ q)).length ≤ 8 := by simp at hlen ⊢; omega
      clear hxs hx hp hy h hxe hdl
      go_wp2_with fail
      refine (moveFirst_any hR (by omega)).mono ?_
      rintro e w2 ⟨rfl, hR2, hk2, hs2⟩
      have hB2 : Below w.heap.size w w2 := hb1.trans (hk2.below (fun _ h => h))
      clear hs2
      go_wp2_with fail
      refine (values_any hR2 (by omega)).mono ?_
      rintro e w3 ⟨v3, rfl, ho3, hb3⟩
      go_wp2
      go_ret2
      exact ⟨_, rfl, by rw [HD.out]; exact ho3.base hB2.size, hB2.trans (hb3.mono hB2.size)⟩
    · have HD := Lib.hid (show movL xs s true = its ((p ++ q) ++ [(a, x)]) by
        rw [movL_yes HG.out]
        unfold movI
        rw [if_pos rfl, hdl, ← hxe]
        simp)
      have hl2 : ((p ++ q) ++ [(a, x)]).length ≤ 8 := by simp at hlen ⊢; omega
      clear hxs hx hp hy h hxe hdl
      go_wp2_with fail
      refine (moveLast_any hR (by omega)).mono ?_
      rintro e w2 ⟨rfl, hR2, hk2, hs2⟩
      have hB2 : Below w.heap.size w w2 := hb1.trans (hk2.below (fun _ h => h))
      clear hs2
      go_wp2_with fail
      refine (values_any hR2 (by omega)).mono ?_
      rintro e w3 ⟨v3, rfl, ho3, hb3⟩
      go_wp2
      go_ret2
      exact ⟨_, rfl, by rw [HD.out]; exact ho3.base hB2.size, hB2.trans (hb3.mono hB2.size)⟩

theorem okI_pair {s : ByteArray} {n : Int} (hs : s.size ≤ 9223372036854775807) (hn : -9223372036854775808 ≤ n ∧ n ≤ 9223372036854775807) : okI [(s, n)] := fun x hx => by
  rw [List.mem_singleton.1 hx]
  exact ⟨hs, hn.1, hn.2⟩

end Go.Proofs.Ytlclhdolcokipaa
