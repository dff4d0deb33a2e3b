/-
  A cache in use: a key looked up, and what it is then.
-/
import Derived.Test.YtojepjpmegbdmaaShelf
import Derived.Test.YtojepjpmegbdmaaOrd
import Derived.Test.YtojepjpmegbdmaaSOrd
namespace Go.Proofs.Ytojepjpmegbdmaa
open Go.RowKit

def lkI (xs : List Itm) (k : ByteArray) : List Itm := if hasI xs k = true then movI xs k true else xs
def lkN (xs : List Itm) (k : ByteArray) : Int := if hasI xs k = true then cnt xs k else 0
def upN (n : Int) : Int := min (n + 1) 9999
def lkG (xs : List Itm) (k : ByteArray) (g : Int) : Int := if hasI xs k = true then upN g else g
def lkS (xs : List Itm) (k : ByteArray) (s : Int) : Int := if hasI xs k = true then s else upN s

theorem up_cases (n : Int) : (n + 1 ≤ 9999 ∧ upN n = n + 1) ∨ (¬ (n + 1 ≤ 9999) ∧ upN n = 9999) := by
  unfold upN
  omega
theorem ShelfAt.cells {w : World} {sb r : Nat} {m g s : Int} (h : ShelfAt w sb r m g s) : w.cell? ⟨sb, 0, none⟩ = some (.pointer (some ⟨r, 0, none⟩)) ∧ w.cell? ⟨sb, 1, none⟩ = some (.int .i64 m) ∧ w.cell? ⟨sb, 2, none⟩ = some (.int .i64 g) ∧ w.cell? ⟨sb, 3, none⟩ = some (.int .i64 s) ∧ w.cell? ⟨sb, 4, none⟩ = some (.func (.func 162) #[.pointer (some ⟨r, 0, none⟩)] #[]) ∧ w.cell? ⟨sb, 5, none⟩ = some (.func (.func 163) #[.pointer (some ⟨r, 0, none⟩)] #[]) := by
  unfold ShelfAt at h
  simp [World.cell?, h]
theorem ShelfAt.free {w : World} {sb r : Nat} {m g s : Int} (h : ShelfAt w sb r m g s) (j : Nat) : w.frozen? ⟨sb, j, none⟩ = false := by
  unfold ShelfAt at h
  simp [World.frozen?, h]
theorem ShelfAt.lt {w : World} {sb r : Nat} {m g s : Int} (h : ShelfAt w sb r m g s) : sb < w.heap.size := lt_of_block h
theorem ShelfAt.keeps {K : Nat → Prop} {w w' : World} {sb r : Nat} {m g s : Int} (h : ShelfAt w sb r m g s) (hk : Keeps K w w') (hK : K sb) : ShelfAt w' sb r m g s := by
  unfold ShelfAt at h ⊢
  rw [hk.block sb hK, h]
theorem ShelfAt.below {B : Nat} {w w' : World} {sb r : Nat} {m g s : Int} (h : ShelfAt w sb r m g s) (hk : Below B w w') (hK : sb < B) : ShelfAt w' sb r m g s := by
  unfold ShelfAt at h ⊢
  rw [hk.block sb hK, h]
theorem ShelfAt.set2 {w : World} {sb r : Nat} {m g s : Int} (h : ShelfAt w sb r m g s) (n : Int) : ShelfAt (w.setCell ⟨sb, 2, none⟩ (.int .i64 n)) sb r m n s := by
  unfold ShelfAt at h ⊢; rw [heap_setCell_same w sb 2 _ _ _ h]; rfl
theorem ShelfAt.set3 {w : World} {sb r : Nat} {m g s : Int} (h : ShelfAt w sb r m g s) (n : Int) : ShelfAt (w.setCell ⟨sb, 3, none⟩ (.int .i64 n)) sb r m g n := by
  unfold ShelfAt at h ⊢; rw [heap_setCell_same w sb 3 _ _ _ h]; rfl
theorem RingAt.setOut {K : Nat → Prop} {w : World} {r rt : Nat} {ns : List Nod} (h : RingAt K w r rt ns) {a : Addr} (ha : K a.block) (v : Value) : RingAt K (w.setCell a v) r rt ns :=
  h.keeps (K' := fun j => ¬ K j) ((Keeps.refl _ _).setCell (fun hn => hn ha) v) ⟨h.out.1, h.out.2⟩
def Sh4 (w : World) (sb r : Nat) (m g s : Int) : Prop := w.cell? ⟨sb, 0, none⟩ = some (.pointer (some ⟨r, 0, none⟩)) ∧ w.cell? ⟨sb, 1, none⟩ = some (.int .i64 m) ∧ w.cell? ⟨sb, 2, none⟩ = some (.int .i64 g) ∧ w.cell? ⟨sb, 3, none⟩ = some (.int .i64 s)
theorem Sh4.set {w : World} {sb r : Nat} {m g s : Int} (h : Sh4 w sb r m g s) {a : Addr} (ha : a.block ≠ sb) (v : Value) : Sh4 (w.setCell a v) sb r m g s := by
  have hk : Keeps (fun j => j = sb) w (w.setCell a v) := (Keeps.refl _ _).setCell ha v
  exact ⟨(hk.cell rfl).trans h.1, (hk.cell rfl).trans h.2.1, (hk.cell rfl).trans h.2.2.1, (hk.cell rfl).trans h.2.2.2⟩
theorem ShelfAt.sh4 {w : World} {sb r : Nat} {m g s : Int} (h : ShelfAt w sb r m g s) : Sh4 w sb r m g s := ⟨h.cells.1, h.cells.2.1, h.cells.2.2.1, h.cells.2.2.2.1⟩

set_option maxHeartbeats 1600000 in
set_option maxRecDepth 100000 in
theorem cache_any {K : Nat → Prop} {w : World} {sb r rt : Nat} {m g s : Int} {ns : List Nod} (hS : ShelfAt w sb r m g s) (hR : RingAt K w r rt ns) (hl : ns.length ≤ 100000) :
    Calls Try.prog 131 #[.pointer (some ⟨sb, 0, none⟩)] w (NewL (fun v => .agg #[v, .int .i64 m, .int .i64 g, .int .i64 s]) (its ns) w) := by
  go_enter Try.func131, Try.ntmps131
  have hne : w.heap.size ≠ sb := fun e => by have := hS.lt; omega
  have HA : Hid (Below w.heap.size w (w.alloc (.cells #[.slice none 0 0, .int .i64 0, .int .i64 0, .int .i64 0] 67))) := (Below.refl _ _).alloc (Nat.le_refl _) _
  have HF := Lib.hid (Four.new w 67 (.slice none 0 0) (.int .i64 0) (.int .i64 0) (.int .i64 0))
  have HS := Lib.hid (hS.below HA.out hS.lt)
  have HR := Lib.hid (hR.below HA.out.drew)
  have hlt := hS.lt
  clear hS hR
  go_wp2_with fail
  go_region_held3 (fun w' : World => w'.cell? ⟨sb, 0, none⟩ = some (.pointer (some ⟨r, 0, none⟩)) ∧ w'.cell? ⟨sb, 1, none⟩ = some (.int .i64 m) ∧ w'.cell? ⟨sb, 2, none⟩ = some (.int .i64 g) ∧ w'.cell? ⟨sb, 3, none⟩ = some (.int .i64 s))
    (first | exact HS.out.sh4 | assumption | exact hS2.sh4 | exact (((hS2.sh4.set hne _).set hne _).set hne _).set hne _)
    (first
      | (go_at_call 166; refine (values_any HR.out hl).mono ?_; rintro e w2 ⟨v2, rfl, ho2, hb2⟩; have hb3 := Below.undrew hb2; have hS2 := HS.out.below hb3 HS.out.lt; obtain ⟨c0, c1, c2, c3⟩ := (HF.out.below hb3 HF.out.lt).cells; obtain ⟨f0, f1, f2, f3⟩ := (HF.out.below hb3 HF.out.lt).free; have ho2' := ho2.1; rw [its_len] at ho2'; obtain ⟨xo, xcap, rfl, _, _⟩ := own_slice ho2'))
  all_goals go_wp2
  all_goals exact bodyPost_ret (v := .agg #[.slice xo ns.length xcap, .int .i64 m, .int .i64 g, .int .i64 s]) (by simp [results, Try.results131, go_sem, c0, c1, c2, c3]) rfl ⟨_, rfl, by
    refine (ho2.past ?_).base (by simp)
    iterate 4 refine Keeps.past ?_ (by simp) _
    exact Keeps.refl _ _, by
    iterate 4 refine Below.setCell ?_ (by simp) _
    exact HA.out.trans (hb3.mono (by simp))⟩

/-! ### a key looked up -/
def LookPost (K : Nat → Prop) (sb r rt : Nat) (m g s : Int) (xs : List Itm) (k : ByteArray) (w : World) (e : Ending) (w' : World) : Prop :=
  ∃ ns, e = .returned (.tuple #[.int .i64 (lkN xs k), .bool (hasI xs k)]) ∧ its ns = lkI xs k ∧ ShelfAt w' sb r m (lkG xs k g) (lkS xs k s) ∧ RingAt K w' r rt ns ∧ Keeps (fun j => K j ∧ j ≠ sb) w w'

set_option maxHeartbeats 1600000 in
set_option maxRecDepth 100000 in
theorem lookUp_any {K : Nat → Prop} {w : World} {sb r rt : Nat} {m g s : Int} {ns : List Nod} (hS : ShelfAt w sb r m g s) (hR : RingAt K w r rt ns) (hl : ns.length ≤ 100000) (hK : ∀ j, K j → j < w.heap.size) (hsb : K sb) (k : ByteArray) (hg : 0 ≤ g ∧ g ≤ 9999) (hs : 0 ≤ s ∧ s ≤ 9999) :
    Calls Try.prog 135 #[.pointer (some ⟨sb, 0, none⟩), .string k] w (LookPost K sb r rt m g s (its ns) k w) := by
  have HS := Lib.hid hS
  have HRd := Lib.hid (hR.below (Below.refl _ _).drew)
  have HK := Lib.hid hK
  have HSB := Lib.hid hsb
  have c0 := hS.cells.1
  clear hS hR hK hsb
  cases hh : hasI (its ns) k
  · have HF := Lib.hid (find_no hh)
    have HL := Lib.hid (show lkI (its ns) k = its ns ∧ lkN (its ns) k = 0 ∧ lkG (its ns) k g = g ∧ lkS (its ns) k s = upN s ∧ hasI (its ns) k = false by
      unfold lkI lkN lkG lkS; rw [hh]; simp)
    clear hh
    rcases up_cases s with ⟨hm, hu⟩ | ⟨hm, hu⟩
    all_goals
      go_enter Try.func135, Try.ntmps135
      go_wp2_with fail
      go_region_held3 (fun w' : World => w'.cell? ⟨sb, 0, none⟩ = some (.pointer (some ⟨r, 0, none⟩)))
        (first | exact c0 | assumption | exact hS1 | exact hS2.cells.1)
        (first
          | (go_at_call 169; refine (hasKey_any k _).mono ?_; rintro e w1 ⟨rfl, rfl⟩; have hS1 := (HS.out.below (B := w.heap.size) ((Below.refl w.heap.size w).drew.alloc (Nat.le_refl _) (.cells #[.string k] 9)) HS.out.lt).cells.1)
          | (go_at_call 168; refine (look_any HRd.out HK.out k).mono ?_; rw [HF.out]; rintro e w2 ⟨rfl, hR2, hk2, hb2⟩; have hS2 := HS.out.below (Below.undrew hb2) HS.out.lt))
      all_goals
        have c3 := hS2.cells.2.2.2.1
        have f3 := hS2.free 3
        have HR2 := Lib.hid hR2
        have HK2 := Lib.hid hk2
        have HS2 := Lib.hid hS2
        clear hR2 hk2 hb2 hS2
        go_wp2
        go_ret2
        refine ⟨ns, ret_ib HL.out.2.1.symm HL.out.2.2.2.2.symm, HL.out.1.symm, ?_, HR2.out.setOut HSB.out _, ?_⟩
        · rw [HL.out.2.2.1, HL.out.2.2.2.1]
          rw [hu]
          exact HS2.out.set3 _
        · exact (Keeps.mono (K' := fun j => K j ∧ j ≠ sb) (w := w) ⟨HK2.out.os, HK2.out.tape, HK2.out.output, HK2.out.size, HK2.out.block⟩ (fun j hj => hj.1)).setCell (fun h => h.2 rfl) _
  · obtain ⟨p, a, x, q, rfl, hx, hp, hf⟩ := find_yes hh
    have HF := Lib.hid hf
    have HL := Lib.hid (show lkI (its (p ++ (a, x) :: q)) k = its ((p ++ q) ++ [(a, x)]) ∧ lkN (its (p ++ (a, x) :: q)) k = x.2 ∧ lkG (its (p ++ (a, x) :: q)) k g = upN g ∧ lkS (its (p ++ (a, x) :: q)) k s = s ∧ hasI (its (p ++ (a, x) :: q)) k = true by
      have e1 : cnt (its (p ++ (a, x) :: q)) k = x.2 := by rw [its_app]; exact cnt_sp hx hp
      have e2 : delI (its (p ++ (a, x) :: q)) k = its p ++ its q := by rw [its_app]; exact delI_sp hx hp
      unfold lkI lkN lkG lkS movI
      rw [hh, e1, e2]
      refine ⟨?_, rfl, rfl, rfl, rfl⟩
      rw [if_pos rfl, if_pos rfl, its_app, its_app, ← hx]
      rfl)
    have hln : ((p ++ q) ++ [(a, x)]).length ≤ 100000 := by simp at hl ⊢; omega
    clear hh hx hp hf
    rcases up_cases g with ⟨hm, hu⟩ | ⟨hm, hu⟩
    all_goals
      go_enter Try.func135, Try.ntmps135
      go_wp2_with fail
      go_region_held3 (fun w' : World => w'.cell? ⟨sb, 0, none⟩ = some (.pointer (some ⟨r, 0, none⟩)))
        (first | exact c0 | assumption | exact hS1 | exact hS2.cells.1)
        (first
          | (go_at_call 169; refine (hasKey_any k _).mono ?_; rintro e w1 ⟨rfl, rfl⟩; have hS1 := (HS.out.below (B := w.heap.size) ((Below.refl w.heap.size w).drew.alloc (Nat.le_refl _) (.cells #[.string k] 9)) HS.out.lt).cells.1)
          | (go_at_call 168; refine (look_any HRd.out HK.out k).mono ?_; rw [HF.out]; rintro e w2 ⟨rfl, hR2, hk2, hb2⟩; have hS2 := HS.out.below (Below.undrew hb2) HS.out.lt))
      all_goals
        have c2 := hS2.cells.2.2.1
        have c4 := hS2.cells.2.2.2.2.1
        have f2 := hS2.free 2
        have HR2 := fun n : Int => Lib.hid (hR2.setOut (a := ⟨sb, 2, none⟩) HSB.out (.int .i64 n))
        have HK2 : ∀ n : Int, Hid (Keeps (fun j => K j ∧ j ≠ sb) w (w2.setCell ⟨sb, 2, none⟩ (.int .i64 n))) := fun n => (Keeps.mono (K' := fun j => K j ∧ j ≠ sb) (w := w) ⟨hk2.os, hk2.tape, hk2.output, hk2.size, hk2.block⟩ (fun j hj => hj.1)).setCell (fun h => h.2 rfl) _
        have HS2 := fun n : Int => Lib.hid (hS2.set2 n)
        clear hR2 hk2 hb2 hS2
        go_wp2_with fail
        refine (moveLast_any (HR2 _).out hl).mono ?_
        rintro e w3 ⟨rfl, hR3, hk3, hs3⟩
        have d1 := (nd_cells (chain_at hR3)).2.1
        have HR3 := Lib.hid hR3
        have HS3 := Lib.hid ((HS2 _).out.keeps hk3 HSB.out)
        have HK3 := Lib.hid ((HK2 _).out.trans (hk3.mono (fun j hj => hj.1)))
        clear hR3 hk3 hs3
        go_wp2
        go_ret2
        refine ⟨_, ret_ib HL.out.2.1.symm HL.out.2.2.2.2.symm, HL.out.1.symm, ?_, HR3.out, HK3.out⟩
        rw [HL.out.2.2.1, HL.out.2.2.2.1, hu]
        exact HS3.out
end Go.Proofs.Ytojepjpmegbdmaa
