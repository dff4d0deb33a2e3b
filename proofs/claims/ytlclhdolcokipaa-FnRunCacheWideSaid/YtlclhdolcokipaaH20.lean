/-
  Shelf2, Look, Trim, Store, Resize, Store2, StoreS, RunC, Look2, RunS, RunP, RunW.
-/
import Derived.Deep.RegionLaw
import Derived.Test.YtlclhdolcokipaaH0
import Derived.Test.YtlclhdolcokipaaH5
import Derived.Test.YtlclhdolcokipaaH11
import Derived.Test.YtlclhdolcokipaaH18
import Derived.Test.YtlclhdolcokipaaH19
/-
  A cache in use: a key looked up, and what it is then.
-/
namespace Go.Proofs.Ytlclhdolcokipaa
open Go.RowKit

def lkI (xs : List Itm) (k : ByteArray) : List Itm := if hasI xs k = true then movI xs k true else xs
def lkN (xs : List Itm) (k : ByteArray) : Int := if hasI xs k = true then cnt xs k else 0
def upN (n : Int) : Int := min (n + 1) 9999
def lkG (xs : List Itm) (k : ByteArray) (g : Int) : Int := if hasI xs k = true then upN g else g
def lkS (xs : List Itm) (k : ByteArray) (s : Int) : Int := if hasI xs k = true then s else upN s

theorem up_cases (n : Int) : (n + 1 ≤ 9999 ∧ upN n = n + 1) ∨ (¬ (n + 1 ≤ 9999) ∧ upN n = 9999) := by
  unfold upN
  omega
theorem ShelfAt.cells {w : World} {sb r : Nat} {m g s : Int} (h : ShelfAt w sb r m g s) : w.cell? ⟨sb, 0, none⟩ = some (.pointer (some ⟨r, 0, none⟩)) ∧ w.cell? ⟨sb, 1, none⟩ = some (.int .i64 m) ∧ w.cell? ⟨sb, 2, none⟩ = some (.int .i64 g) ∧ w.cell? ⟨sb, 3, none⟩ = some (.int .i64 s) ∧ w.cell? ⟨sb, 4, none⟩ = some (.func (.func 69) #[.pointer (some ⟨r, 0, none⟩)] #[]) ∧ w.cell? ⟨sb, 5, none⟩ = some (.func (.func 113) #[.pointer (some ⟨r, 0, none⟩)] #[]) := by
  unfold ShelfAt at h
  simp [World.cell?, h]
theorem ShelfAt.free {w : World} {sb r : Nat} {m g s : Int} (h : ShelfAt w sb r m g s) (j : Nat) : w.frozen? ⟨sb, j, none⟩ = false := by
  unfold ShelfAt at h
  simp [World.frozen?, h]
theorem ShelfAt.lt {w : World} {sb r : Nat} {m g s : Int} (h : ShelfAt w sb r m g s) : sb < w.heap.size := lt_of_block h
theorem ShelfAt.keeps {K : Nat → Prop} {w w' : World} {sb r : Nat} {m g s : Int} (h : ShelfAt w sb r m g s) (hk : Keeps K w w') (hK : K sb) : ShelfAt w' sb r m g s := by
  unfold ShelfAt at h ⊢
  rw [hk.block sb hK, h]
theorem ShelfAt.below {B : Nat} {w w' : World} {sb r : Nat} {m g s : Int} (h : ShelfAt w sb r m g s) (hk : Below B w w') (hK : sb < B) : ShelfAt w' sb r m g s := by
  unfold ShelfAt at h ⊢
  rw [hk.block sb hK, h]
theorem ShelfAt.set2 {w : World} {sb r : Nat} {m g s : Int} (h : ShelfAt w sb r m g s) (n : Int) : ShelfAt (w.setCell ⟨sb, 2, none⟩ (.int .i64 n)) sb r m n s := by
  unfold ShelfAt at h ⊢; rw [heap_setCell_same w sb 2 _ _ _ h]; rfl
theorem ShelfAt.set3 {w : World} {sb r : Nat} {m g s : Int} (h : ShelfAt w sb r m g s) (n : Int) : ShelfAt (w.setCell ⟨sb, 3, none⟩ (.int .i64 n)) sb r m g n := by
  unfold ShelfAt at h ⊢; rw [heap_setCell_same w sb 3 _ _ _ h]; rfl
theorem RingAt.setOut {K : Nat → Prop} {w : World} {r rt : Nat} {ns : List Nod} (h : RingAt K w r rt ns) {a : Addr} (ha : K a.block) (v : Value) : RingAt K (w.setCell a v) r rt ns :=
  h.keeps (K' := fun j => ¬ K j) ((Keeps.refl _ _).setCell (fun hn => hn ha) v) ⟨h.out.1, h.out.2⟩
def Sh4 (w : World) (sb r : Nat) (m g s : Int) : Prop := w.cell? ⟨sb, 0, none⟩ = some (.pointer (some ⟨r, 0, none⟩)) ∧ w.cell? ⟨sb, 1, none⟩ = some (.int .i64 m) ∧ w.cell? ⟨sb, 2, none⟩ = some (.int .i64 g) ∧ w.cell? ⟨sb, 3, none⟩ = some (.int .i64 s)
theorem Sh4.set {w : World} {sb r : Nat} {m g s : Int} (h : Sh4 w sb r m g s) {a : Addr} (ha : a.block ≠ sb) (v : Value) : Sh4 (w.setCell a v) sb r m g s := by
  have hk : Keeps (fun j => j = sb) w (w.setCell a v) := (Keeps.refl _ _).setCell ha v
  exact ⟨(hk.cell rfl).trans h.1, (hk.cell rfl).trans h.2.1, (hk.cell rfl).trans h.2.2.1, (hk.cell rfl).trans h.2.2.2⟩
theorem ShelfAt.sh4 {w : World} {sb r : Nat} {m g s : Int} (h : ShelfAt w sb r m g s) : Sh4 w sb r m g s := ⟨h.cells.1, h.cells.2.1, h.cells.2.2.1, h.cells.2.2.2.1⟩

set_option maxHeartbeats 1600000 in
set_option maxRecDepth 100000 in
theorem cache_any {K : Nat → Prop} {w : World} {sb r rt : Nat} {m g s : Int} {ns : List Nod} (hS : ShelfAt w sb r m g s) (hR : RingAt K w r rt ns) (hl : ns.length ≤ 100000) :
    Calls Try.prog 66 #[.pointer (some ⟨sb, 0, none⟩)] w (NewL (fun v => .agg #[v, .int .i64 m, .int .i64 g, .int .i64 s]) (its ns) w) := by
  go_enter Try.func66, Try.ntmps66
  have hne : w.heap.size ≠ sb := fun e => by have := hS.lt; omega
  have HA : Hid (Below w.heap.size w (w.alloc (.cells #[.slice none 0 0, .int .i64 0, .int .i64 0, .int .i64 0] 25))) := (Below.refl _ _).alloc (Nat.le_refl _) _
  have HF := Lib.hid (Four.new w 25 (.slice none 0 0) (.int .i64 0) (.int .i64 0) (.int .i64 0))
  have HS := Lib.hid (hS.below HA.out hS.lt)
  have HR := Lib.hid (hR.below HA.out.drew)
  have hlt := hS.lt
  clear hS hR
  go_wp2_with fail
  go_region_held3 (fun w' : World => w'.cell? ⟨sb, 0, none⟩ = some (.pointer (some ⟨r, 0, none⟩)) ∧ w'.cell? ⟨sb, 1, none⟩ = some (.int .i64 m) ∧ w'.cell? ⟨sb, 2, none⟩ = some (.int .i64 g) ∧ w'.cell? ⟨sb, 3, none⟩ = some (.int .i64 s))
    (first | exact HS.out.sh4 | assumption | exact hS2.sh4 | exact (((hS2.sh4.set hne _).set hne _).set hne _).set hne _)
    (first
      | (go_at_call 71; refine (values_any HR.out hl).mono ?_; rintro e w2 ⟨v2, rfl, ho2, hb2⟩; have hb3 := Below.undrew hb2; have hS2 := HS.out.below hb3 HS.out.lt; obtain ⟨c0, c1, c2, c3⟩ := (HF.out.below hb3 HF.out.lt).cells; obtain ⟨f0, f1, f2, f3⟩ := (HF.out.below hb3 HF.out.lt).free; have ho2' := ho2.1; rw [its_len] at ho2'; obtain ⟨xo, xcap, rfl, _, _⟩ := own_slice ho2'))
  all_goals go_wp2
  all_goals exact bodyPost_ret (v := .agg #[.slice xo ns.length xcap, .int .i64 m, .int .i64 g, .int .i64 s]) (by simp [results, Try.results66, go_sem, c0, c1, c2, c3]) rfl ⟨_, rfl, by
    refine (ho2.past ?_).base (by simp)
    iterate 4 refine Keeps.past ?_ (by simp) _
    exact Keeps.refl _ _, by
    iterate 4 refine Below.setCell ?_ (by simp) _
    exact HA.out.trans (hb3.mono (by simp))⟩

/-! ### a key looked up -/
def LookPost (K : Nat → Prop) (sb r rt : Nat) (m g s : Int) (xs : List Itm) (k : ByteArray) (w : World) (e : Ending) (w' : World) : Prop :=
  ∃ ns, e = .returned (.tuple #[.int .i64 (lkN xs k), .bool (hasI xs k)]) ∧ its ns = lkI xs k ∧ ShelfAt w' sb r m (lkG xs k g) (lkS xs k s) ∧ RingAt K w' r rt ns ∧ Keeps (fun j => K j ∧ j ≠ sb) w w'

set_option maxHeartbeats 1600000 in
set_option maxRecDepth 100000 in
theorem lookUp_any {K : Nat → Prop} {w : World} {sb r rt : Nat} {m g s : Int} {ns : List Nod} (hS : ShelfAt w sb r m g s) (hR : RingAt K w r rt ns) (hl : ns.length ≤ 100000) (hK : ∀ j, K j → j < w.heap.size) (hsb : K sb) (k : ByteArray) (hg : 0 ≤ g ∧ g ≤ 9999) (hs : 0 ≤ s ∧ s ≤ 9999) :
    Calls Try.prog 65 #[.pointer (some ⟨sb, 0, none⟩), .string k] w (LookPost K sb r rt m g s (its ns) k w) := by
  have HS := Lib.hid hS
  have HRd := Lib.hid (hR.below (Below.refl _ _).drew)
  have HK := Lib.hid hK
  have HSB := Lib.hid hsb
  have c0 := hS.cells.1
  clear hS hR hK hsb
  cases hh : hasI (its ns) k
  · have HF := Lib.hid (find_no hh)
    have HL := Lib.hid (show lkI (its ns) k = its ns ∧ lkN (its ns) k = 0 ∧ lkG (its ns) k g = g ∧ lkS (its ns) k s = upN s ∧ hasI (its ns) k = false by
      unfold lkI lkN lkG lkS; rw [hh]; simp)
    clear hh
    rcases up_cases s with ⟨hm, hu⟩ | ⟨hm, hu⟩
    all_goals
      go_enter Try.func65, Try.ntmps65
      go_wp2_with fail
      go_region_held3 (fun w' : World => w'.cell? ⟨sb, 0, none⟩ = some (.pointer (some ⟨r, 0, none⟩)))
        (first | exact c0 | assumption | exact hS1 | exact hS2.cells.1)
        (first
          | (go_at_call 79; refine (hasKey_any k _).mono ?_; rintro e w1 ⟨rfl, rfl⟩; have hS1 := (HS.out.below (B := w.heap.size) ((Below.refl w.heap.size w).drew.alloc (Nat.le_refl _) (.cells #[.string k] 9)) HS.out.lt).cells.1)
          | (go_at_call 114; refine (look_any HRd.out HK.out k).mono ?_; rw [HF.out]; rintro e w2 ⟨rfl, hR2, hk2, hb2⟩; have hS2 := HS.out.below (Below.undrew hb2) HS.out.lt))
      all_goals
        have c3 := hS2.cells.2.2.2.1
        have f3 := hS2.free 3
        have HR2 := Lib.hid hR2
        have HK2 := Lib.hid hk2
        have HS2 := Lib.hid hS2
        clear hR2 hk2 hb2 hS2
        go_wp2
        go_ret2
        refine ⟨ns, ret_ib HL.out.2.1.symm HL.out.2.2.2.2.symm, HL.out.1.symm, ?_, HR2.out.setOut HSB.out _, ?_⟩
        · rw [HL.out.2.2.1, HL.out.2.2.2.1]
          rw [hu]
          exact HS2.out.set3 _
        · exact (Keeps.mono (K' := fun j => K j ∧ j ≠ sb) (w := w) ⟨HK2.out.os, HK2.out.tape, HK2.out.output, HK2.out.size, HK2.out.block⟩ (fun j hj => hj.1)).setCell (fun h => h.2 rfl) _
  · obtain ⟨p, a, x, q, rfl, hx, hp, hf⟩ := find_yes hh
    have HF := Lib.hid hf
    have HL := Lib.hid (show lkI (its (p ++ (a, x) :: q)) k = its ((p ++ q) ++ [(a, x)]) ∧ lkN (its (p ++ (a, x) :: q)) k = x.2 ∧ lkG (its (p ++ (a, x) :: q)) k g = upN g ∧ lkS (its (p ++ (a, x) :: q)) k s = s ∧ hasI (its (p ++ (a, x) :: q)) k = true by
      have e1 : cnt (its (p ++ (a, x) :: q)) k = x.2 := by rw [its_app]; exact cnt_sp hx hp
      have e2 : delI (its (p ++ (a, x) :: q)) k = its p ++ its q := by rw [its_app]; exact delI_sp hx hp
      unfold lkI lkN lkG lkS movI
      rw [hh, e1, e2]
      refine ⟨?_, rfl, rfl, rfl, rfl⟩
      rw [if_pos rfl, if_pos rfl, its_app, its_app, ← hx]
      rfl)
    have hln : ((p ++ q) ++ [(a, x)]).length ≤ 100000 := by simp at hl ⊢; omega
    clear hh hx hp hf
    rcases up_cases g with ⟨hm, hu⟩ | ⟨hm, hu⟩
    all_goals
      go_enter Try.func65, Try.ntmps65
      go_wp2_with fail
      go_region_held3 (fun w' : World => w'.cell? ⟨sb, 0, none⟩ = some (.pointer (some ⟨r, 0, none⟩)))
        (first | exact c0 | assumption | exact hS1 | exact hS2.cells.1)
        (first
          | (go_at_call 79; refine (hasKey_any k _).mono ?_; rintro e w1 ⟨rfl, rfl⟩; have hS1 := (HS.out.below (B := w.heap.size) ((Below.refl w.heap.size w).drew.alloc (Nat.le_refl _) (.cells #[.string k] 9)) HS.out.lt).cells.1)
          | (go_at_call 114; refine (look_any HRd.out HK.out k).mono ?_; rw [HF.out]; rintro e w2 ⟨rfl, hR2, hk2, hb2⟩; have hS2 := HS.out.below (Below.undrew hb2) HS.out.lt))
      all_goals
        have c2 := hS2.cells.2.2.1
        have c4 := hS2.cells.2.2.2.2.1
        have f2 := hS2.free 2
        have HR2 := fun n : Int => Lib.hid (hR2.setOut (a := ⟨sb, 2, none⟩) HSB.out (.int .i64 n))
        have HK2 : ∀ n : Int, Hid (Keeps (fun j => K j ∧ j ≠ sb) w (w2.setCell ⟨sb, 2, none⟩ (.int .i64 n))) := fun n => (Keeps.mono (K' := fun j => K j ∧ j ≠ sb) (w := w) ⟨hk2.os, hk2.tape, hk2.output, hk2.size, hk2.block⟩ (fun j hj => hj.1)).setCell (fun h => h.2 rfl) _
        have HS2 := fun n : Int => Lib.hid (hS2.set2 n)
        clear hR2 hk2 hb2 hS2
        go_wp2_with fail
        refine (moveLast_any (HR2 _).out hl).mono ?_
        rintro e w3 ⟨rfl, hR3, hk3, hs3⟩
        have d1 := (nd_cells (chain_at hR3)).2.1
        have HR3 := Lib.hid hR3
        have HS3 := Lib.hid ((HS2 _).out.keeps hk3 HSB.out)
        have HK3 := Lib.hid ((HK2 _).out.trans (hk3.mono (fun j hj => hj.1)))
        clear hR3 hk3 hs3
        go_wp2
        go_ret2
        refine ⟨_, ret_ib HL.out.2.1.symm HL.out.2.2.2.2.symm, HL.out.1.symm, ?_, HR3.out, HK3.out⟩
        rw [HL.out.2.2.1, HL.out.2.2.2.1, hu]
        exact HS3.out
end Go.Proofs.Ytlclhdolcokipaa
/-
  A key looked up in a cache, by the model and by the program.
-/
namespace Go.Proofs.Ytlclhdolcokipaa
open Go.RowKit

def lookV (v : Value) (m g s n : Int) (b : Bool) : Value := .tuple #[.agg #[v, .int .i64 m, .int .i64 g, .int .i64 s], .int .i64 n, .bool b]
theorem ret_cib {a b : Value} {m m' g g' s s' n n' : Int} {c c' : Bool} (h : a = b) (h1 : m = m') (h2 : g = g') (h3 : s = s') (h4 : n = n') (h5 : c = c') :
    Ending.returned (.tuple #[.agg #[a, .int .i64 m, .int .i64 g, .int .i64 s], .int .i64 n, .bool c]) = .returned (.tuple #[.agg #[b, .int .i64 m', .int .i64 g', .int .i64 s'], .int .i64 n', .bool c']) := by rw [h, h1, h2, h3, h4, h5]
def luL (xs : List Itm) (m g s : Int) (k : ByteArray) : List Itm := if vcB xs m g s = true then lkI xs k else []
def luM (xs : List Itm) (m g s : Int) : Int := if vcB xs m g s = true then m else 0
def luG (xs : List Itm) (m g s : Int) (k : ByteArray) : Int := if vcB xs m g s = true then lkG xs k g else 0
def luS (xs : List Itm) (m g s : Int) (k : ByteArray) : Int := if vcB xs m g s = true then lkS xs k s else 0
def luN (xs : List Itm) (m g s : Int) (k : ByteArray) : Int := if vcB xs m g s = true then lkN xs k else 0
def luB (xs : List Itm) (m g s : Int) (k : ByteArray) : Bool := vcB xs m g s && hasI xs k
theorem lu_no {xs : List Itm} {m g s : Int} {k : ByteArray} (h : vcB xs m g s = false) : luL xs m g s k = [] ∧ luM xs m g s = 0 ∧ luG xs m g s k = 0 ∧ luS xs m g s k = 0 ∧ luN xs m g s k = 0 ∧ luB xs m g s k = false := by
  unfold luL luM luG luS luN luB
  rw [h]
  exact ⟨rfl, rfl, rfl, rfl, rfl, rfl⟩
theorem lu_yes {xs : List Itm} {m g s : Int} {k : ByteArray} (h : vcB xs m g s = true) : luL xs m g s k = lkI xs k ∧ luM xs m g s = m ∧ luG xs m g s k = lkG xs k g ∧ luS xs m g s k = lkS xs k s ∧ luN xs m g s k = lkN xs k ∧ luB xs m g s k = hasI xs k := by
  unfold luL luM luG luS luN luB
  rw [h]
  exact ⟨rfl, rfl, rfl, rfl, rfl, rfl⟩
theorem vc_yes {xs : List Itm} {m g s : Int} (h : vcB xs m g s = true) : validI xs = true ∧ (1 ≤ m ∧ m ≤ 8) ∧ (xs.length : Int) ≤ m ∧ (0 ≤ g ∧ g ≤ 9999) ∧ (0 ≤ s ∧ s ≤ 9999) := by
  unfold vcB rgB at h
  simp only [Bool.and_eq_true, decide_eq_true_eq] at h
  obtain ⟨⟨⟨⟨h1, h2⟩, h3⟩, h4⟩, h5⟩ := h
  exact ⟨h1, h2, h3, h4, h5⟩
theorem lk_len (xs : List Itm) (k : ByteArray) : (lkI xs k).length = xs.length := by
  unfold lkI
  cases h : hasI xs k
  · simp
  · rw [if_pos rfl]
    unfold movI
    have := delI_length (l := xs) k
    rw [h, if_pos rfl] at this
    simp
    omega
theorem lu_le (xs : List Itm) (m g s : Int) (k : ByteArray) : (luL xs m g s k).length ≤ 10000000 := if_len fun h => by
  have := valid_len (vc_yes h).1
  rw [lk_len]
  omega
theorem OwnI.mid {E B : Nat} {w w' : World} {v : Value} {xs : List Itm} (h : OwnI E w B v xs) (hk : Keeps (fun k => B ≤ k ∧ k < w.heap.size) w w') : OwnI E w' B v xs := ⟨hk.own h.1 (fun _ hg => own_range h.1 hg), h.2⟩

set_option maxHeartbeats 1600000 in
set_option maxRecDepth 100000 in
theorem LookUp_any (v : Value) (xs : List Itm) (m g s : Int) (k : ByteArray) (w : World) (h : Items w v xs) :
    Calls Try.prog 18 #[.agg #[v, .int .i64 m, .int .i64 g, .int .i64 s], .string k] w (NewL (fun v => .tuple #[.agg #[v, .int .i64 (luM xs m g s), .int .i64 (luG xs m g s k), .int .i64 (luS xs m g s k)], .int .i64 (luN xs m g s k), .bool (luB xs m g s k)]) (luL xs m g s k) w) := by
  have h0 := Lib.hid h
  obtain ⟨ao, cap, rfl, hlc, hcm, _, _⟩ := h
  go_enter Try.func18, Try.ntmps18
  have HA : Hid (Below w.heap.size w ((w.alloc (.cells #[.slice ao xs.length cap, .int .i64 m, .int .i64 g, .int .i64 s] 25)).alloc (.cells #[.slice none 0 0, .int .i64 0, .int .i64 0, .int .i64 0] 25))) := ((Below.refl _ _).alloc (Nat.le_refl _) _).alloc (by simp) _
  have F0 := (Four.new w 25 (.slice ao xs.length cap) (.int .i64 m) (.int .i64 g) (.int .i64 s)).below (B := w.heap.size + 1) ((Below.refl _ _).alloc (by simp) (.cells #[.slice none 0 0, .int .i64 0, .int .i64 0, .int .i64 0] 25)) (by omega)
  have F1 := Four.new (w.alloc (.cells #[.slice ao xs.length cap, .int .i64 m, .int .i64 g, .int .i64 s] 25)) 25 (.slice none 0 0) (.int .i64 0) (.int .i64 0) (.int .i64 0)
  simp at F1
  have HF0 := Lib.hid F0
  have HF1 := Lib.hid F1
  clear F0 F1
  cases hv : vcB xs m g s
  all_goals
    have HV := Lib.hid hv
    clear hv
    go_wp2_with fail
    refine (VC_v _ (h0.out.mono HA.out (Nat.le_refl _)) HV.out).mono ?_
    rintro e w1 ⟨rfl, hb1⟩
    have hs1 := hb1.size
    simp at hs1 hb1
    have HG0 := Lib.hid (HF0.out.below hb1 (by omega))
    have HG1 := Lib.hid (HF1.out.below hb1 (by omega))
    have HB1 : Hid (Below w.heap.size w w1) := HA.out.trans (hb1.mono (by omega))
    clear hb1
  · have HL := Lib.hid (lu_no (k := k) HV.out)
    obtain ⟨c0, c1, c2, c3⟩ := HG1.out.cells
    obtain ⟨f0, f1, f2, f3⟩ := HG1.out.free
    go_wp2
    exact bodyPost_ret (v := .tuple #[.agg #[.slice none 0 0, .int .i64 0, .int .i64 0, .int .i64 0], .int .i64 0, .bool false]) (by simp [results, Try.results18, go_sem, c0, c1, c2, c3]) rfl ⟨_, ret_cib rfl HL.out.2.1.symm HL.out.2.2.1.symm HL.out.2.2.2.1.symm HL.out.2.2.2.2.1.symm HL.out.2.2.2.2.2.symm, by rw [HL.out.1]; exact OwnI_nil _ _ _, by
      iterate 4 refine Below.setCell ?_ (by simp) _
      exact HB1.out⟩
  · have HL := Lib.hid (lu_yes (k := k) HV.out)
    have HY := Lib.hid (vc_yes HV.out)
    have hl := valid_len HY.out.1
    obtain ⟨a0, a1, a2, a3⟩ := HG0.out.cells
    go_wp2_with fail
    refine (shelfOf_any _ xs m g s _ (h0.out.mono HB1.out (Nat.le_refl _)) (by omega)).mono ?_
    rintro e w2 ⟨sb, r, rt, ns, rfl, hns, hS, hR, hb2, hsb⟩
    have hln : ns.length ≤ 100000 := by rw [← its_len, hns]; omega
    have HS := Lib.hid hS
    have HR := Lib.hid hR
    have HB2 := Lib.hid hb2
    have HNS := Lib.hid hns
    clear hS hR hb2 hns a0 a1 a2 a3
    go_wp2_with fail
    refine (lookUp_any HS.out HR.out hln (fun j hj => by rcases hj with hj | hj; exact Nat.lt_of_lt_of_le hj HB2.out.size; rw [hj]; exact HS.out.lt) (.inr rfl) k HY.out.2.2.2.1 HY.out.2.2.2.2).mono ?_
    rintro e w3 ⟨ns3, rfl, hn3, hS3, hR3, hk3⟩
    rw [HNS.out] at hn3 hS3 ⊢
    have hln3 : ns3.length ≤ 100000 := by rw [← its_len, hn3, lk_len]; omega
    have HN3 := Lib.hid hn3
    have HS3 := Lib.hid hS3
    have HR3 := Lib.hid hR3
    have HK3 := Lib.hid hk3
    clear hn3 hS3 hR3 hk3
    go_wp2_with fail
    refine (cache_any HS3.out HR3.out hln3).mono ?_
    rintro e w4 ⟨v4, rfl, ho4, hb4⟩
    have hlt3 : w.heap.size + 1 < w3.heap.size := by have := HB2.out.size; have := HK3.out.size; omega
    have HG4 := ((HG1.out.below HB2.out (by omega)).keeps HK3.out ⟨.inl (by omega), by omega⟩).below hb4 hlt3
    obtain ⟨c0, c1, c2, c3⟩ := HG4.cells
    obtain ⟨f0, f1, f2, f3⟩ := HG4.free
    have ho4' := ho4.1
    rw [its_len] at ho4'
    obtain ⟨xo, xcap, rfl, _, _⟩ := own_slice ho4'
    have HO4 := Lib.hid ho4
    have HB4 := Lib.hid hb4
    have HB3 : Hid (Below w.heap.size w w3) := HB1.out.trans ((HB2.out.trans (HK3.out.below (fun j hj => ⟨.inl hj, by omega⟩))).mono HB1.out.size)
    clear ho4 ho4' hb4 HG4
    go_wp2
    exact bodyPost_ret (v := .tuple #[.agg #[.slice xo ns3.length xcap, .int .i64 m, .int .i64 (lkG xs k g), .int .i64 (lkS xs k s)], .int .i64 (lkN xs k), .bool (hasI xs k)]) (by simp [results, Try.results18, go_sem, c0, c1, c2, c3]) rfl ⟨_, ret_cib rfl HL.out.2.1.symm HL.out.2.2.1.symm HL.out.2.2.2.1.symm HL.out.2.2.2.2.1.symm HL.out.2.2.2.2.2.symm, by
      rw [HL.out.1, ← HN3.out]
      refine (HO4.out.past ?_).base (by omega)
      iterate 4 refine Keeps.past ?_ (by exact hlt3) _
      exact Keeps.refl _ _, by
      iterate 4 refine Below.setCell ?_ (by simp) _
      exact HB3.out.trans (HB4.out.mono HB3.out.size)⟩
end Go.Proofs.Ytlclhdolcokipaa
/-
  A cache in use cut down to its limit.
-/
namespace Go.Proofs.Ytlclhdolcokipaa
open Go.RowKit

theorem ShelfAt.sh05 {w : World} {sb r : Nat} {m g s : Int} (h : ShelfAt w sb r m g s) : w.cell? ⟨sb, 0, none⟩ = some (.pointer (some ⟨r, 0, none⟩)) ∧ w.cell? ⟨sb, 5, none⟩ = some (.func (.func 113) #[.pointer (some ⟨r, 0, none⟩)] #[]) := ⟨h.cells.1, h.cells.2.2.2.2.2⟩

def TrimPost (K : Nat → Prop) (sb r rt : Nat) (m g s : Int) (ns : List Nod) (w : World) (e : Ending) (w' : World) : Prop :=
  e = .returned (.tuple #[]) ∧ ShelfAt w' sb r m g s ∧ RingAt K w' r rt (ns.drop (ns.length - m.toNat)) ∧ Keeps K w w'

set_option maxHeartbeats 1600000 in
set_option maxRecDepth 100000 in
theorem trim_any {K : Nat → Prop} {w : World} {sb r rt : Nat} {m g s : Int} {ns : List Nod} (hS : ShelfAt w sb r m g s) (hR : RingAt K w r rt ns) (hl : ns.length ≤ 100000) (hsb : K sb) (hm : 0 ≤ m ∧ m ≤ 100000) :
    Calls Try.prog 80 #[.pointer (some ⟨sb, 0, none⟩)] w (TrimPost K sb r rt m g s ns w) := by
  have HS := Lib.hid hS
  have HR := Lib.hid hR
  have HSB := Lib.hid hsb
  clear hS hR hsb
  go_enter Try.func80, Try.ntmps80
  go_wp2_with fail
  go_loopg [] ns.length (fun gk wr => ∃ k : Nat, k ≤ ns.length ∧ ns.length - k ≤ gk ∧ Hid (k = 0 ∨ m.toNat + k ≤ ns.length) ∧ Hid (ShelfAt wr sb r m g s) ∧ Hid (RingAt K wr r rt (ns.drop k)) ∧ Hid (Keeps K w wr))
  case atStart => exact ⟨0, Nat.zero_le _, Nat.le_refl _, .inl rfl, HS.out, HR.out, Keeps.refl _ _⟩
  case round =>
    obtain ⟨k, hk, hgk, HM, HS, HR, HK⟩ := hrel
    have hlen : (ns.drop k).length = ns.length - k := by simp
    have c0 := HS.out.cells.1
    have c1 := HS.out.cells.2.1
    have c5 := HS.out.cells.2.2.2.2.2
    have e1 := two_cell1 HR.out.head
    rw [hlen] at e1
    by_cases hlt : m < ((ns.length - k : Nat) : Int)
    · have hkl : k < ns.length := by omega
      have hdr : ns.drop k = ns[k] :: ns.drop (k + 1) := List.drop_eq_getElem_cons hkl
      obtain ⟨a, x, hax⟩ : ∃ a x, ns[k] = (a, x) := ⟨_, _, rfl⟩
      have HRd : Hid (RingAt K wr.drew.drew r rt ([] ++ (a, x) :: ns.drop (k + 1))) := by
        have := HR.out.below ((Below.refl wr.heap.size wr).drew.drew)
        rw [hdr, hax] at this
        exact this
      have HSd : Hid (ShelfAt wr.drew.drew sb r m g s) := HS.out
      have hql : ([] ++ (a, x) :: ns.drop (k + 1)).length ≤ 1000000 := by simp; omega
      clear hdr hax
      go_wp2_with fail
      go_still_tail 11, (by kernel_rfl)
      change wpList _ _ _ _ _ wr.drew
      go_wp2_with fail
      have d := HSd.out.sh05
      go_region_held3 (fun w' : World => w'.cell? ⟨sb, 0, none⟩ = some (.pointer (some ⟨r, 0, none⟩)) ∧ w'.cell? ⟨sb, 5, none⟩ = some (.func (.func 113) #[.pointer (some ⟨r, 0, none⟩)] #[]))
        (first | exact d | assumption | exact hS3.sh05)
        (first
          | (go_at_call 113; refine (show Calls Try.prog 113 #[.pointer (some ⟨r, 0, none⟩)] wr.drew.drew (fun e w' => e = .returned (.pointer (some ⟨a, 0, none⟩)) ∧ wr.drew.drew = w') from first_any HRd.out).mono ?_; rintro e w2 ⟨rfl, rfl⟩)
          | (go_at_call 116; refine (cut_any HRd.out hql).mono ?_; rintro e w3 ⟨rfl, hR3, _, hk3, hs3⟩; have hS3 := HSd.out.keeps hk3 HSB.out))
      all_goals
        have HR3 : Hid (RingAt K w3 r rt (ns.drop (k + 1))) := hR3
        have HS3 := Lib.hid hS3
        have HK3 : Hid (Keeps K w w3) := HK.out.drew.drew.trans hk3
        clear hR3 hS3 hk3 hs3 d c0 c1 c5 e1
        go_wp2
        go_roundg (ns.length - (k + 1))
        case measure => omega
        case rel => exact ⟨k + 1, by omega, Nat.le_refl _, .inr (by omega), HS3, HR3, HK3⟩
    · have hdr : ns.drop k = ns.drop (ns.length - m.toNat) := by
        rcases HM.out with h | h
        · have : ns.length - m.toNat = 0 := by omega
          rw [h, this]
        · have : ns.length - m.toNat = k := by omega
          rw [this]
      have HR2 : Hid (RingAt K wr.drew r rt (ns.drop (ns.length - m.toNat))) := hdr ▸ HR.out.below ((Below.refl wr.heap.size wr).drew)
      have HS2 : Hid (ShelfAt wr.drew sb r m g s) := HS.out
      have HK2 := Lib.hid HK.out.drew
      go_wp2_with fail
      go_still_tail 11, (by kernel_rfl)
      change wpList _ _ _ _ _ wr.drew
      go_wp2
      go_end0
      exact ⟨rfl, HS2.out, HR2.out, HK2.out⟩
end Go.Proofs.Ytlclhdolcokipaa
/-
  What is stored in a cache: the pure result, and the program's own store.
-/
namespace Go.Proofs.Ytlclhdolcokipaa
open Go.RowKit

theorem delI_put (l : List Itm) (k : ByteArray) (n : Int) : delI (putI l k n) k = delI l k := by
  induction l with
  | nil => simp [putI, delI]
  | cons x r ih =>
    unfold putI
    split
    · rename_i h; simp [delI, h]
    · rename_i h; simp [delI, h, ih]
/-- With n for k behind all others, and no more than m. -/
def stI (xs : List Itm) (m : Int) (k : ByteArray) (n : Int) : List Itm := (delI xs k ++ [(k, n)]).drop ((delI xs k ++ [(k, n)]).length - m.toNat)
theorem uniqI_app_one {l : List Itm} {k : ByteArray} {n : Int} (h : uniqI l = true) (hk : hasI l k = false) : uniqI (l ++ [(k, n)]) = true := by
  induction l with
  | nil => simp [uniqI, hasI]
  | cons x r ih =>
    simp only [uniqI, Bool.and_eq_true, Bool.not_eq_true'] at h
    simp only [hasI, Bool.or_eq_false_iff, decide_eq_false_iff_not] at hk
    simp only [List.cons_append, uniqI, hasI_append, hasI, ih h.2 hk.2, h.1, Bool.or_false, Bool.and_true, Bool.false_or, Bool.not_eq_true', decide_eq_false_iff_not]
    exact fun e => hk.1 e.symm
theorem uniqI_drop {l : List Itm} (h : uniqI l = true) (j : Nat) : uniqI (l.drop j) = true := by
  induction l generalizing j with
  | nil => simpa using h
  | cons x r ih =>
    cases j with
    | zero => exact h
    | succ j =>
      simp only [uniqI, Bool.and_eq_true] at h
      exact ih h.2 j
theorem del_mem {l : List Itm} {k : ByteArray} {x : Itm} (h : x ∈ delI l k) : x ∈ l := by
  induction l with
  | nil => simp [delI] at h
  | cons y r ih =>
    unfold delI at h
    split at h
    · exact List.mem_cons_of_mem _ h
    · rcases List.mem_cons.1 h with rfl | h
      · exact List.mem_cons_self
      · exact List.mem_cons_of_mem _ (ih h)
theorem hasI_del_self {l : List Itm} {k : ByteArray} (h : uniqI l = true) : hasI (delI l k) k = false := by
  rw [hasI_delI k k h]
  simp
theorem stI_len (xs : List Itm) (m : Int) (k : ByteArray) (n : Int) (hm : 1 ≤ m) : (stI xs m k n).length ≤ m.toNat ∧ 1 ≤ (stI xs m k n).length ∧ (stI xs m k n).length ≤ xs.length + 1 := by
  unfold stI
  have h1 := del_le xs k
  simp only [List.length_drop, List.length_append, List.length_cons, List.length_nil]
  omega
theorem stI_last (xs : List Itm) (m : Int) (k : ByteArray) (n : Int) (hm : 1 ≤ m) : ∃ r, stI xs m k n = r ++ [(k, n)] := by
  unfold stI
  refine ⟨(delI xs k).drop ((delI xs k ++ [(k, n)]).length - m.toNat), ?_⟩
  rw [List.drop_append]
  have : (delI xs k ++ [(k, n)]).length - m.toNat - (delI xs k).length = 0 := by
    simp only [List.length_append, List.length_cons, List.length_nil]
    omega
  rw [this]
  rfl
theorem st_valid {xs : List Itm} {m g s : Int} {k : ByteArray} {n : Int} (h : vcB xs m g s = true) : vcB (stI xs m k n) m g s = (keyB k && numB n) := by
  obtain ⟨hv, hm, hl, hg, hs⟩ := vc_yes h
  have hlen := stI_len xs m k n hm.1
  obtain ⟨r, hr⟩ := stI_last xs m k n hm.1
  have hu := valid_uniq hv
  have e1 : vcB (stI xs m k n) m g s = validI (stI xs m k n) := by
    unfold vcB rgB
    rw [show decide ((1 : Int) ≤ m) = true by simp; omega, show decide (m ≤ (8 : Int)) = true by simp; omega, show decide (((stI xs m k n).length : Int) ≤ m) = true by simp; omega,
      show decide ((0 : Int) ≤ g) = true by simp; omega, show decide (g ≤ (9999 : Int)) = true by simp; omega, show decide ((0 : Int) ≤ s) = true by simp; omega, show decide (s ≤ (9999 : Int)) = true by simp; omega]
    simp
  rw [e1, Bool.eq_iff_iff, validI_iff, Bool.and_eq_true]
  constructor
  · rintro ⟨ha, _⟩
    exact ha (k, n) (by rw [hr]; simp)
  · rintro ⟨h1, h2⟩
    refine ⟨fun x hx => ?_, ?_, by omega⟩
    · have hx' : x ∈ delI xs k ++ [(k, n)] := List.mem_of_mem_drop hx
      rcases List.mem_append.1 hx' with hx' | hx'
      · exact ((validI_iff xs).1 hv).1 x (del_mem hx')
      · rw [List.mem_singleton.1 hx']
        exact ⟨h1, h2⟩
    · exact uniqI_drop (uniqI_app_one (uniqI_delI k hu) (hasI_del_self hu)) _
theorem okI_app1 {l : List Itm} {x : Itm} (h : okI l) (hx : okI [x]) : okI (l ++ [x]) := okI_app h hx
theorem okI_drop {l : List Itm} (h : okI l) (j : Nat) : okI (l.drop j) := okI_sub h fun _ hx => List.mem_of_mem_drop hx

/-! ### the program -/
def StorePost (K : Nat → Prop) (sb r rt : Nat) (m g s : Int) (xs : List Itm) (k : ByteArray) (n : Int) (w : World) (e : Ending) (w' : World) : Prop :=
  ∃ ns, e = .returned (.tuple #[]) ∧ its ns = stI xs m k n ∧ ShelfAt w' sb r m g s ∧ RingAt K w' r rt ns ∧ Keeps K w w'
theorem ShelfAt.sh04 {w : World} {sb r : Nat} {m g s : Int} (h : ShelfAt w sb r m g s) : w.cell? ⟨sb, 0, none⟩ = some (.pointer (some ⟨r, 0, none⟩)) ∧ w.cell? ⟨sb, 4, none⟩ = some (.func (.func 69) #[.pointer (some ⟨r, 0, none⟩)] #[]) := ⟨h.cells.1, h.cells.2.2.2.2.1⟩
theorem put_nodes {xs : List Itm} {p q : List Nod} {a : Nat} {k : ByteArray} {n : Int} (h : its (p ++ (a, (k, n)) :: q) = putI xs k n) (hp : hasI (its p) k = false) : its ((p ++ q) ++ [(a, (k, n))]) = delI xs k ++ [(k, n)] := by
  have h1 : delI (its (p ++ (a, (k, n)) :: q)) k = its p ++ its q := by rw [its_app]; exact delI_sp rfl hp
  rw [h, delI_put] at h1
  rw [its_app, its_app, h1]
  rfl

set_option maxHeartbeats 1600000 in
set_option maxRecDepth 100000 in
theorem store_any {K : Nat → Prop} {w : World} {sb r rt : Nat} {m g s : Int} {ns : List Nod} (hS : ShelfAt w sb r m g s) (hR : RingAt K w r rt ns) (hl : ns.length ≤ 10000) (hK : ∀ j, K j → j < w.heap.size) (hsb : K sb) (hm : 0 ≤ m ∧ m ≤ 100000) (k : ByteArray) (n : Int) (hx : okI [(k, n)]) :
    Calls Try.prog 76 #[.pointer (some ⟨sb, 0, none⟩), .string k, .int .i64 n] w (StorePost K sb r rt m g s (its ns) k n w) := by
  have HS : Hid (ShelfAt w.drew sb r m g s) := hS
  have HRd := Lib.hid (hR.below (Below.refl _ _).drew)
  have HK := Lib.hid hK
  have HSB := Lib.hid hsb
  have HM := Lib.hid hm
  have HX := Lib.hid hx
  have c04 := hS.sh04
  obtain ⟨c0, c4⟩ := c04
  clear hS hR hK hsb hm hx
  go_enter Try.func76, Try.ntmps76
  go_wp2_with fail
  go_region_held3 (fun w' : World => w'.cell? ⟨sb, 0, none⟩ = some (.pointer (some ⟨r, 0, none⟩)) ∧ w'.cell? ⟨sb, 4, none⟩ = some (.func (.func 69) #[.pointer (some ⟨r, 0, none⟩)] #[]))
    (first | exact ⟨c0, c4⟩ | assumption | exact hS2.sh04 | exact hS3.sh04)
    (first
      | (go_at_call 121; refine (putIn_any (w := w.drew) HK.out HRd.out k n HX.out (by omega)).mono ?_; rintro e w2 ⟨p, a, q, rfl, hits, hp, hR2, hk2⟩; have hS2 := HS.out.keeps hk2 HSB.out; have hlen : (p ++ (a, (k, n)) :: q).length ≤ 100000 := (by have h1 := congrArg List.length hits; rw [its_len, putI_length, its_len] at h1; split at h1 <;> omega))
      | (go_at_call 69; refine (moveLast_any hR2 hlen).mono ?_; rintro e w3 ⟨rfl, hR3, hk3, hs3⟩; have hS3 := hS2.keeps hk3 HSB.out))
  all_goals
    have HN3 := Lib.hid (put_nodes hits hp)
    have HS3 := Lib.hid hS3
    have HR3 := Lib.hid hR3
    have HK3 : Hid (Keeps K w w3) := (Keeps.trans ⟨hk2.os, hk2.tape, hk2.output, hk2.size, hk2.block⟩ hk3)
    have hl3 : ((p ++ q) ++ [(a, (k, n))]).length ≤ 100000 := by simp at hlen ⊢; omega
    clear hits hp hS3 hR3 hk2 hk3 hs3 hR2 hS2 hlen
    go_wp2_with fail
    refine (trim_any HS3.out HR3.out hl3 HSB.out HM.out).mono ?_
    rintro e w4 ⟨rfl, hS4, hR4, hk4⟩
    have HN4 : Hid (its (((p ++ q) ++ [(a, (k, n))]).drop (((p ++ q) ++ [(a, (k, n))]).length - m.toNat)) = stI (its ns) m k n) := by
      unfold Hid stI
      rw [← HN3.out, its_len]
      show List.map _ (List.drop _ _) = List.drop _ (List.map _ _)
      rw [List.map_drop]
    have HS4 := Lib.hid hS4
    have HR4 := Lib.hid hR4
    have HK4 := Lib.hid (HK3.out.trans hk4)
    clear hS4 hR4 hk4
    go_wp2
    go_end0
    exact ⟨_, rfl, HN4.out, HS4.out, HR4.out, HK4.out⟩
end Go.Proofs.Ytlclhdolcokipaa
/-
  A cache with another limit, by the program.
-/
namespace Go.Proofs.Ytlclhdolcokipaa
open Go.RowKit

theorem ret_cb {a b : Value} {m m' g g' s s' : Int} {c c' : Bool} (h : a = b) (h1 : m = m') (h2 : g = g') (h3 : s = s') (h5 : c = c') :
    Ending.returned (.tuple #[.agg #[a, .int .i64 m, .int .i64 g, .int .i64 s], .bool c]) = .returned (.tuple #[.agg #[b, .int .i64 m', .int .i64 g', .int .i64 s'], .bool c']) := by rw [h, h1, h2, h3, h5]
def rzB (xs : List Itm) (m g s n : Int) : Bool := vcB xs m g s && rgB n 1 8
def rzL (xs : List Itm) (m g s n : Int) : List Itm := if rzB xs m g s n = true then xs.drop (xs.length - n.toNat) else []
def rzM (xs : List Itm) (m g s n : Int) : Int := if rzB xs m g s n = true then n else 0
def rzG (xs : List Itm) (m g s n : Int) : Int := if rzB xs m g s n = true then g else 0
def rzS (xs : List Itm) (m g s n : Int) : Int := if rzB xs m g s n = true then s else 0
theorem rz_no {xs : List Itm} {m g s n : Int} (h : (vcB xs m g s && rgB n 1 8) = false) : rzL xs m g s n = [] ∧ rzM xs m g s n = 0 ∧ rzG xs m g s n = 0 ∧ rzS xs m g s n = 0 ∧ rzB xs m g s n = false := by
  have e : rzB xs m g s n = false := h
  unfold rzL rzM rzG rzS
  rw [e]
  exact ⟨rfl, rfl, rfl, rfl, rfl⟩
theorem rz_yes {xs : List Itm} {m g s n : Int} (h : (vcB xs m g s && rgB n 1 8) = true) : rzL xs m g s n = xs.drop (xs.length - n.toNat) ∧ rzM xs m g s n = n ∧ rzG xs m g s n = g ∧ rzS xs m g s n = s ∧ rzB xs m g s n = true := by
  have e : rzB xs m g s n = true := h
  unfold rzL rzM rzG rzS
  rw [e]
  exact ⟨rfl, rfl, rfl, rfl, rfl⟩
theorem rg_yes {n lo hi : Int} (h : rgB n lo hi = true) : lo ≤ n ∧ n ≤ hi := by
  unfold rgB at h
  simpa using h
theorem rz_le (xs : List Itm) (m g s n : Int) : (rzL xs m g s n).length ≤ 10000000 := if_len fun h => by
  unfold rzB at h
  simp only [Bool.and_eq_true] at h
  have := valid_len (vc_yes h.1).1
  simp
  omega
theorem ShelfAt.set1 {w : World} {sb r : Nat} {m g s : Int} (h : ShelfAt w sb r m g s) (n : Int) : ShelfAt (w.setCell ⟨sb, 1, none⟩ (.int .i64 n)) sb r n g s := by
  unfold ShelfAt at h ⊢; rw [heap_setCell_same w sb 1 _ _ _ h]; rfl

set_option maxHeartbeats 1600000 in
set_option maxRecDepth 100000 in
theorem ResizeCache_any (v : Value) (xs : List Itm) (m g s n : Int) (w : World) (h : Items w v xs) :
    Calls Try.prog 29 #[.agg #[v, .int .i64 m, .int .i64 g, .int .i64 s], .int .i64 n] w (NewL (fun v => .tuple #[.agg #[v, .int .i64 (rzM xs m g s n), .int .i64 (rzG xs m g s n), .int .i64 (rzS xs m g s n)], .bool (rzB xs m g s n)]) (rzL xs m g s n) w) := by
  have h0 := Lib.hid h
  obtain ⟨ao, cap, rfl, hlc, hcm, _, _⟩ := h
  go_enter Try.func29, Try.ntmps29
  have HA : Hid (Below w.heap.size w ((w.alloc (.cells #[.slice ao xs.length cap, .int .i64 m, .int .i64 g, .int .i64 s] 25)).alloc (.cells #[.slice none 0 0, .int .i64 0, .int .i64 0, .int .i64 0] 25))) := ((Below.refl _ _).alloc (Nat.le_refl _) _).alloc (by simp) _
  have F0 := (Four.new w 25 (.slice ao xs.length cap) (.int .i64 m) (.int .i64 g) (.int .i64 s)).below (B := w.heap.size + 1) ((Below.refl _ _).alloc (by simp) (.cells #[.slice none 0 0, .int .i64 0, .int .i64 0, .int .i64 0] 25)) (by omega)
  have F1 := Four.new (w.alloc (.cells #[.slice ao xs.length cap, .int .i64 m, .int .i64 g, .int .i64 s] 25)) 25 (.slice none 0 0) (.int .i64 0) (.int .i64 0) (.int .i64 0)
  simp at F1
  have HF0 := Lib.hid F0
  have HF1 := Lib.hid F1
  clear F0 F1
  cases hv : vcB xs m g s
  all_goals
    have HV := Lib.hid hv
    clear hv
    go_wp2_with fail
    refine (VC_v _ (h0.out.mono HA.out (Nat.le_refl _)) HV.out).mono ?_
    rintro e w1 ⟨rfl, hb1⟩
    have hs1 := hb1.size
    simp at hs1 hb1
    have HG0 := Lib.hid (HF0.out.below hb1 (by omega))
    have HG1 := Lib.hid (HF1.out.below hb1 (by omega))
    have HB1 : Hid (Below w.heap.size w w1) := HA.out.trans (hb1.mono (by omega))
    clear hb1
  · have HL := Lib.hid (rz_no (n := n) (by rw [HV.out]; rfl))
    obtain ⟨c0, c1, c2, c3⟩ := HG1.out.cells
    obtain ⟨f0, f1, f2, f3⟩ := HG1.out.free
    go_wp2
    exact bodyPost_ret (v := .tuple #[.agg #[.slice none 0 0, .int .i64 0, .int .i64 0, .int .i64 0], .bool false]) (by simp [results, Try.results29, go_sem, c0, c1, c2, c3]) rfl ⟨_, ret_cb rfl HL.out.2.1.symm HL.out.2.2.1.symm HL.out.2.2.2.1.symm HL.out.2.2.2.2.symm, by rw [HL.out.1]; exact OwnI_nil _ _ _, by
      iterate 4 refine Below.setCell ?_ (by simp) _
      exact HB1.out⟩
  · have HY := Lib.hid (vc_yes HV.out)
    have hl := valid_len HY.out.1
    cases hr : rgB n 1 8
    all_goals
      have HRG := Lib.hid hr
      clear hr
      go_wp2_with fail
      refine (isMost_v _ HRG.out).mono ?_
      rintro e w2 ⟨rfl, rfl⟩
    · have HL := Lib.hid (rz_no (n := n) (xs := xs) (m := m) (g := g) (s := s) (by rw [HRG.out]; simp))
      obtain ⟨c0, c1, c2, c3⟩ := HG1.out.cells
      obtain ⟨f0, f1, f2, f3⟩ := HG1.out.free
      go_wp2
      exact bodyPost_ret (v := .tuple #[.agg #[.slice none 0 0, .int .i64 0, .int .i64 0, .int .i64 0], .bool false]) (by simp [results, Try.results29, go_sem, c0, c1, c2, c3]) rfl ⟨_, ret_cb rfl HL.out.2.1.symm HL.out.2.2.1.symm HL.out.2.2.2.1.symm HL.out.2.2.2.2.symm, by rw [HL.out.1]; exact OwnI_nil _ _ _, by
        iterate 4 refine Below.setCell ?_ (by simp) _
        exact HB1.out⟩
    · have HL := Lib.hid (rz_yes (n := n) (xs := xs) (m := m) (g := g) (s := s) (by rw [HV.out, HRG.out]; rfl))
      have HN := Lib.hid (rg_yes HRG.out)
      obtain ⟨a0, a1, a2, a3⟩ := HG0.out.cells
      go_wp2_with fail
      refine (shelfOf_any _ xs m g s _ (h0.out.mono HB1.out (Nat.le_refl _)) (by omega)).mono ?_
      rintro e w2 ⟨sb, r, rt, ns, rfl, hns, hS, hR, hb2, hsb⟩
      have hln : ns.length ≤ 100000 := by rw [← its_len, hns]; omega
      have e1 := hS.cells.2.1
      have f1 := hS.free 1
      have HS := Lib.hid (hS.set1 n)
      have HR := Lib.hid (hR.setOut (a := ⟨sb, 1, none⟩) (.inr rfl) (.int .i64 n))
      have HB2 : Hid (Below w1.heap.size w1 (w2.setCell ⟨sb, 1, none⟩ (.int .i64 n))) := hb2.setCell hsb _
      have HNS := Lib.hid hns
      clear hS hR hb2 hns a0 a1 a2 a3
      go_wp2_with fail
      refine (trim_any HS.out HR.out hln (.inr rfl) (by have := HN.out; omega)).mono ?_
      rintro e w3 ⟨rfl, hS3, hR3, hk3⟩
      have hln3 : (ns.drop (ns.length - n.toNat)).length ≤ 100000 := by simp; omega
      have HN3 : Hid (its (ns.drop (ns.length - n.toNat)) = xs.drop (xs.length - n.toNat)) := by
        unfold Hid
        rw [← HNS.out, its_len]
        show (ns.drop (ns.length - n.toNat)).map (·.2) = (ns.map (·.2)).drop (ns.length - n.toNat)
        rw [List.map_drop]
      have HS3 := Lib.hid hS3
      have HR3 := Lib.hid hR3
      have HK3 := Lib.hid hk3
      clear hS3 hR3 hk3 e1 f1
      go_wp2_with fail
      refine (cache_any HS3.out HR3.out hln3).mono ?_
      rintro e w4 ⟨v4, rfl, ho4, hb4⟩
      have hlt3 : w.heap.size + 1 < w3.heap.size := by have := HB2.out.size; have := HK3.out.size; omega
      have HG4 := ((HG1.out.below HB2.out (by omega)).keeps HK3.out (.inl (by omega))).below hb4 hlt3
      obtain ⟨c0, c1, c2, c3⟩ := HG4.cells
      obtain ⟨f0, f1, f2, f3⟩ := HG4.free
      obtain ⟨xo, xcap, rfl, _, _⟩ := own_slice ho4.1
      have HO4 := Lib.hid ho4
      have HB4 := Lib.hid hb4
      have HB3 : Hid (Below w.heap.size w w3) := HB1.out.trans ((HB2.out.trans (HK3.out.below (fun j hj => .inl hj))).mono HB1.out.size)
      generalize (its (ns.drop (ns.length - n.toNat))).length = L at *
      clear ho4 hb4 HG4
      go_wp2
      exact bodyPost_ret (v := .tuple #[.agg #[.slice xo L xcap, .int .i64 n, .int .i64 g, .int .i64 s], .bool true]) (by simp [results, Try.results29, go_sem, c0, c1, c2, c3]) rfl ⟨_, ret_cb rfl HL.out.2.1.symm HL.out.2.2.1.symm HL.out.2.2.2.1.symm HL.out.2.2.2.2.symm, by
        rw [HL.out.1, ← HN3.out]
        refine (HO4.out.past ?_).base (by omega)
        iterate 4 refine Keeps.past ?_ (by exact hlt3) _
        exact Keeps.refl _ _, by
        iterate 4 refine Below.setCell ?_ (by simp) _
        exact HB3.out.trans (HB4.out.mono HB3.out.size)⟩
end Go.Proofs.Ytlclhdolcokipaa
/-
  StoreItem, by the program.
-/
namespace Go.Proofs.Ytlclhdolcokipaa
open Go.RowKit

def soB (xs : List Itm) (m g s : Int) (k : ByteArray) (n : Int) : Bool := vcB xs m g s && (keyB k && numB n)
def soL (xs : List Itm) (m g s : Int) (k : ByteArray) (n : Int) : List Itm := if soB xs m g s k n = true then stI xs m k n else []
def soM (xs : List Itm) (m g s : Int) (k : ByteArray) (n : Int) (z : Int) : Int := if soB xs m g s k n = true then z else 0
theorem so_no {xs : List Itm} {m g s : Int} {k : ByteArray} {n : Int} (h : soB xs m g s k n = false) : soL xs m g s k n = [] ∧ ∀ z, soM xs m g s k n z = 0 := by
  unfold soL soM
  rw [h]
  exact ⟨rfl, fun _ => rfl⟩
theorem so_yes {xs : List Itm} {m g s : Int} {k : ByteArray} {n : Int} (h : soB xs m g s k n = true) : soL xs m g s k n = stI xs m k n ∧ ∀ z, soM xs m g s k n z = z := by
  unfold soL soM
  rw [h]
  exact ⟨rfl, fun _ => rfl⟩
theorem so_le (xs : List Itm) (m g s : Int) (k : ByteArray) (n : Int) : (soL xs m g s k n).length ≤ 10000000 := by
  cases h : soB xs m g s k n
  · rw [(so_no h).1]; simp
  · rw [(so_yes h).1]
    have hv : vcB xs m g s = true := by unfold soB at h; rw [Bool.and_eq_true] at h; exact h.1
    have := stI_len xs m k n (vc_yes hv).2.1.1
    have := valid_len (vc_yes hv).1
    omega

set_option maxHeartbeats 1600000 in
set_option maxRecDepth 100000 in
theorem StoreItem_any (v : Value) (xs : List Itm) (m g s : Int) (k : ByteArray) (n : Int) (w : World) (h : Items w v xs) (hks : k.size ≤ 9223372036854775807) (hni : -9223372036854775808 ≤ n ∧ n ≤ 9223372036854775807) :
    Calls Try.prog 25 #[.agg #[v, .int .i64 m, .int .i64 g, .int .i64 s], .string k, .int .i64 n] w (NewL (fun v => .tuple #[.agg #[v, .int .i64 (soM xs m g s k n m), .int .i64 (soM xs m g s k n g), .int .i64 (soM xs m g s k n s)], .bool (soB xs m g s k n)]) (soL xs m g s k n) w) := by
  have h0 := Lib.hid h
  have HX := Lib.hid (okI_pair hks hni)
  obtain ⟨ao, cap, rfl, hlc, hcm, _, _⟩ := h
  go_enter Try.func25, Try.ntmps25
  have HA : Hid (Below w.heap.size w ((w.alloc (.cells #[.slice ao xs.length cap, .int .i64 m, .int .i64 g, .int .i64 s] 25)).alloc (.cells #[.slice none 0 0, .int .i64 0, .int .i64 0, .int .i64 0] 25))) := ((Below.refl _ _).alloc (Nat.le_refl _) _).alloc (by simp) _
  have F0 := (Four.new w 25 (.slice ao xs.length cap) (.int .i64 m) (.int .i64 g) (.int .i64 s)).below (B := w.heap.size + 1) ((Below.refl _ _).alloc (by simp) (.cells #[.slice none 0 0, .int .i64 0, .int .i64 0, .int .i64 0] 25)) (by omega)
  have F1 := Four.new (w.alloc (.cells #[.slice ao xs.length cap, .int .i64 m, .int .i64 g, .int .i64 s] 25)) 25 (.slice none 0 0) (.int .i64 0) (.int .i64 0) (.int .i64 0)
  simp at F1
  have HF0 := Lib.hid F0
  have HF1 := Lib.hid F1
  clear F0 F1
  cases hv : vcB xs m g s
  all_goals
    have HV := Lib.hid hv
    clear hv
    go_wp2_with fail
    refine (VC_v _ (h0.out.mono HA.out (Nat.le_refl _)) HV.out).mono ?_
    rintro e w1 ⟨rfl, hb1⟩
    have hs1 := hb1.size
    simp at hs1 hb1
    have HG0 := Lib.hid (HF0.out.below hb1 (by omega))
    have HG1 := Lib.hid (HF1.out.below hb1 (by omega))
    have HB1 : Hid (Below w.heap.size w w1) := HA.out.trans (hb1.mono (by omega))
    clear hb1
  · have HC := Lib.hid (show soB xs m g s k n = false by unfold soB; rw [HV.out]; rfl)
    have HL := Lib.hid (so_no HC.out)
    obtain ⟨c0, c1, c2, c3⟩ := HG1.out.cells
    obtain ⟨f0, f1, f2, f3⟩ := HG1.out.free
    go_wp2
    exact bodyPost_ret (v := .tuple #[.agg #[.slice none 0 0, .int .i64 0, .int .i64 0, .int .i64 0], .bool false]) (by simp [results, Try.results25, go_sem, c0, c1, c2, c3]) rfl ⟨_, ret_cb rfl (HL.out.2 _).symm (HL.out.2 _).symm (HL.out.2 _).symm HC.out.symm, by rw [HL.out.1]; exact OwnI_nil _ _ _, by
      iterate 4 refine Below.setCell ?_ (by simp) _
      exact HB1.out⟩
  · have HY := Lib.hid (vc_yes HV.out)
    have hl := valid_len HY.out.1
    cases hk : keyB k
    all_goals
      have HK := Lib.hid hk
      clear hk
      go_wp2_with fail
      refine (isKey_v _ hks HK.out).mono ?_
      rintro e w2 ⟨rfl, rfl⟩
    · have HC := Lib.hid (show soB xs m g s k n = false by unfold soB; rw [HK.out]; simp)
      have HL := Lib.hid (so_no HC.out)
      obtain ⟨c0, c1, c2, c3⟩ := HG1.out.cells
      obtain ⟨f0, f1, f2, f3⟩ := HG1.out.free
      go_wp2
      exact bodyPost_ret (v := .tuple #[.agg #[.slice none 0 0, .int .i64 0, .int .i64 0, .int .i64 0], .bool false]) (by simp [results, Try.results25, go_sem, c0, c1, c2, c3]) rfl ⟨_, ret_cb rfl (HL.out.2 _).symm (HL.out.2 _).symm (HL.out.2 _).symm HC.out.symm, by rw [HL.out.1]; exact OwnI_nil _ _ _, by
        iterate 4 refine Below.setCell ?_ (by simp) _
        exact HB1.out⟩
    · cases hn : numB n
      all_goals
        have HN := Lib.hid hn
        clear hn
        go_wp2_with fail
        refine (isNumber_v _ HN.out).mono ?_
        rintro e w2 ⟨rfl, rfl⟩
      · have HC := Lib.hid (show soB xs m g s k n = false by unfold soB; rw [HN.out]; simp)
        have HL := Lib.hid (so_no HC.out)
        obtain ⟨c0, c1, c2, c3⟩ := HG1.out.cells
        obtain ⟨f0, f1, f2, f3⟩ := HG1.out.free
        go_wp2
        exact bodyPost_ret (v := .tuple #[.agg #[.slice none 0 0, .int .i64 0, .int .i64 0, .int .i64 0], .bool false]) (by simp [results, Try.results25, go_sem, c0, c1, c2, c3]) rfl ⟨_, ret_cb rfl (HL.out.2 _).symm (HL.out.2 _).symm (HL.out.2 _).symm HC.out.symm, by rw [HL.out.1]; exact OwnI_nil _ _ _, by
          iterate 4 refine Below.setCell ?_ (by simp) _
          exact HB1.out⟩
      · have HC := Lib.hid (show soB xs m g s k n = true by unfold soB; rw [HV.out, HK.out, HN.out]; rfl)
        have HL := Lib.hid (so_yes HC.out)
        obtain ⟨a0, a1, a2, a3⟩ := HG0.out.cells
        go_wp2_with fail
        refine (shelfOf_any _ xs m g s _ (h0.out.mono HB1.out (Nat.le_refl _)) (by omega)).mono ?_
        rintro e w2 ⟨sb, r, rt, ns, rfl, hns, hS, hR, hb2, hsb⟩
        have hln : ns.length ≤ 10000 := by rw [← its_len, hns]; omega
        have HS := Lib.hid hS
        have HR := Lib.hid hR
        have HB2 := Lib.hid hb2
        have HNS := Lib.hid hns
        clear hS hR hb2 hns a0 a1 a2 a3
        go_wp2_with fail
        refine (store_any HS.out HR.out hln (fun j hj => by rcases hj with hj | hj; exact Nat.lt_of_lt_of_le hj HB2.out.size; rw [hj]; exact HS.out.lt) (.inr rfl) (by have := HY.out.2.1; omega) k n HX.out).mono ?_
        rintro e w3 ⟨ns3, rfl, hn3, hS3, hR3, hk3⟩
        rw [HNS.out] at hn3
        have hln3 : ns3.length ≤ 100000 := by rw [← its_len, hn3]; have := stI_len xs m k n HY.out.2.1.1; omega
        have HN3 := Lib.hid hn3
        have HS3 := Lib.hid hS3
        have HR3 := Lib.hid hR3
        have HK3 := Lib.hid hk3
        clear hn3 hS3 hR3 hk3
        go_wp2_with fail
        refine (cache_any HS3.out HR3.out hln3).mono ?_
        rintro e w4 ⟨v4, rfl, ho4, hb4⟩
        have hlt3 : w.heap.size + 1 < w3.heap.size := by have := HB2.out.size; have := HK3.out.size; omega
        have HG4 := ((HG1.out.below HB2.out (by omega)).keeps HK3.out (.inl (by omega))).below hb4 hlt3
        obtain ⟨c0, c1, c2, c3⟩ := HG4.cells
        obtain ⟨f0, f1, f2, f3⟩ := HG4.free
        have ho4' := ho4.1
        rw [its_len] at ho4'
        obtain ⟨xo, xcap, rfl, _, _⟩ := own_slice ho4'
        have HO4 := Lib.hid ho4
        have HB4 := Lib.hid hb4
        have HB3 : Hid (Below w.heap.size w w3) := HB1.out.trans ((HB2.out.trans (HK3.out.below (fun j hj => .inl hj))).mono HB1.out.size)
        clear ho4 ho4' hb4 HG4
        go_wp2
        exact bodyPost_ret (v := .tuple #[.agg #[.slice xo ns3.length xcap, .int .i64 m, .int .i64 g, .int .i64 s], .bool true]) (by simp [results, Try.results25, go_sem, c0, c1, c2, c3]) rfl ⟨_, ret_cb rfl (HL.out.2 _).symm (HL.out.2 _).symm (HL.out.2 _).symm HC.out.symm, by
          rw [HL.out.1, ← HN3.out]
          refine (HO4.out.past ?_).base (by omega)
          iterate 4 refine Keeps.past ?_ (by exact hlt3) _
          exact Keeps.refl _ _, by
          iterate 4 refine Below.setCell ?_ (by simp) _
          exact HB3.out.trans (HB4.out.mono HB3.out.size)⟩
end Go.Proofs.Ytlclhdolcokipaa
/-
  What is stored in a cache, by the model.
-/
namespace Go.Proofs.Ytlclhdolcokipaa
open Go.RowKit

theorem Four.grown {w w' : World} {b T : Nat} {u0 u1 u2 u3 : Value} {row : Option Nat} (h : Four w b T u0 u1 u2 u3) (hg : w.grownBy w' row) (hne : row ≠ some b) : Four w' b T u0 u1 u2 u3 := by
  have hlt := h.lt
  unfold Four at h ⊢
  rw [hg.block b hlt (Ne.symm hne), h]
theorem st_has {xs : List Itm} {m : Int} {k : ByteArray} {n : Int} (hh : hasI xs k = true) (hl : (xs.length : Int) ≤ m) : stI xs m k n = delI xs k ++ [(k, n)] ∧ (delI xs k).length + 1 = xs.length := by
  have h1 := delI_length (l := xs) k
  rw [hh, if_pos rfl] at h1
  refine ⟨?_, h1⟩
  unfold stI
  have : (delI xs k ++ [(k, n)]).length - m.toNat = 0 := by simp only [List.length_append, List.length_cons, List.length_nil]; omega
  rw [this]
  rfl
theorem del_none {xs : List Itm} {k : ByteArray} (hh : hasI xs k = false) : delI xs k = xs := by
  induction xs with
  | nil => rfl
  | cons x r ih =>
    simp only [hasI, Bool.or_eq_false_iff, decide_eq_false_iff_not] at hh
    unfold delI
    rw [if_neg hh.1, ih hh.2]
theorem st_none {xs : List Itm} {m : Int} {k : ByteArray} {n : Int} (hh : hasI xs k = false) : stI xs m k n = (xs ++ [(k, n)]).drop (xs.length + 1 - m.toNat) := by
  unfold stI
  rw [del_none hh]
  simp

theorem OwnI.keepK {E B : Nat} {K : Nat → Prop} {w w' : World} {v : Value} {xs : List Itm} (h : OwnI E w B v xs) (hk : Keeps K w w') (hK : ∀ g, v.ownBlock = some g → K g) : OwnI E w' B v xs := ⟨hk.own h.1 hK, h.2⟩

theorem Four.set0 {w : World} {b T : Nat} {u0 u1 u2 u3 : Value} (h : Four w b T u0 u1 u2 u3) (v : Value) : Four (w.setCell ⟨b, 0, none⟩ v) b T v u1 u2 u3 := by
  unfold Four at h ⊢
  rw [heap_setCell_same w b 0 _ _ _ h]
  rfl

set_option maxHeartbeats 3200000 in
set_option maxRecDepth 100000 in
theorem sstore_any (v : Value) (xs : List Itm) (m g s : Int) (k : ByteArray) (n : Int) (w : World) (h : Items w v xs) (hks : k.size ≤ 9223372036854775807) (hni : -9223372036854775808 ≤ n ∧ n ≤ 9223372036854775807) (hm : 1 ≤ m ∧ m ≤ 8) (hl : (xs.length : Int) ≤ m) :
    Calls Try.prog 77 #[.agg #[v, .int .i64 m, .int .i64 g, .int .i64 s], .string k, .int .i64 n] w (NewW (fun v => .agg #[v, .int .i64 m, .int .i64 g, .int .i64 s]) (stI xs m k n) w) := by
  have h0 := Lib.hid h
  obtain ⟨ao, cap, rfl, hlc, hcm, _, _⟩ := h
  go_enter Try.func77, Try.ntmps77
  have HA : Hid (Below w.heap.size w ((w.alloc (.cells #[.slice ao xs.length cap, .int .i64 m, .int .i64 g, .int .i64 s] 25)).alloc (.cells #[.slice none 0 0, .int .i64 0, .int .i64 0, .int .i64 0] 25))) := ((Below.refl _ _).alloc (Nat.le_refl _) _).alloc (by simp) _
  have F1 := Four.new (w.alloc (.cells #[.slice ao xs.length cap, .int .i64 m, .int .i64 g, .int .i64 s] 25)) 25 (.slice none 0 0) (.int .i64 0) (.int .i64 0) (.int .i64 0)
  simp at F1
  have HF1 := Lib.hid F1
  clear F1
  go_wp2_with fail
  refine (copyC_any _ xs m g s _ (h0.out.mono HA.out (Nat.le_refl _)) (by omega)).mono ?_
  rintro e w1 ⟨v1, rfl, ho1, hb1⟩
  have hs1 := hb1.size
  simp at hs1 hb1 ho1
  obtain ⟨xo, xcap, rfl, _, _⟩ := own_slice ho1.1
  have hbA : Below w1.heap.size w1 (w1.alloc (.cells #[.slice xo xs.length xcap, .int .i64 m, .int .i64 g, .int .i64 s] 25)) := (Below.refl _ _).alloc (Nat.le_refl _) _
  have HG1 := Lib.hid ((HF1.out.below hb1 (by omega)).below hbA (by omega))
  have HG2 := Lib.hid (Four.new w1 25 (.slice xo xs.length xcap) (.int .i64 m) (.int .i64 g) (.int .i64 s))
  have HB1 : Hid (Below w.heap.size w w1) := HA.out.trans (hb1.mono (by omega))
  have HB2 : Hid (Below w.heap.size w (w1.alloc (.cells #[.slice xo xs.length xcap, .int .i64 m, .int .i64 g, .int .i64 s] 25))) := HB1.out.trans (hbA.mono HB1.out.size)
  have HO1 := Lib.hid (ho1.below hbA (Nat.le_refl _))
  have HI := Lib.hid HO1.out.items
  have hos : (w1.alloc (.cells #[.slice xo xs.length xcap, .int .i64 m, .int .i64 g, .int .i64 s] 25)).heap.size = w1.heap.size + 1 := by simp
  clear hb1 hbA ho1
  obtain ⟨d0, d1, d2, d3⟩ := HG2.out.cells
  cases hh : hasI xs k
  · have HH := Lib.hid hh
    have HL := Lib.hid (st_none (m := m) (n := n) hh)
    clear hh
    go_wp2_with fail
    refine (place_no _ HI.out HH.out).mono ?_
    rintro e w2 ⟨rfl, hw⟩
    rw [hw] at HG1 HG2 HB2 HO1 hos
    clear d0 d1 d2 d3 HI hw
    obtain ⟨d0, d1, d2, d3⟩ := HG2.out.cells
    have HLIT := Lib.hid (Items_one w2 k n 43 hks hni)
    have hown := HO1.out.1
    have hne := own_ne hown HG2.out (by decide)
    have hne1 := own_ne hown HG1.out (by decide)
    have HOS := Lib.hid hos
    have hbw : w.heap.size + 1 + 1 ≤ w2.heap.size := by omega
    clear hos
    have HOKK := Lib.hid (okI_app HO1.out.2 (okI_pair hks hni))
    have hbw1 : w.heap.size ≤ w2.heap.size := by omega
    by_cases hgt : m < (xs.length : Int) + 1
    · have HRD : ∀ gb vc : Nat, Hid (∀ w, Items w (.slice (some ⟨gb, 0, none⟩) (xs.length + 1) vc) (xs ++ [(k, n)]) → Items w (.slice (some ⟨gb, 2, none⟩) xs.length (vc - 1)) (stI xs m k n)) := fun gb vc w h => by
        have := h.drop (k := 1) (by omega)
        rw [HL.out, show xs.length + 1 - m.toNat = 1 by omega]
        exact this
      go_wp2_with (at_builtin; refine wpl_append_items _ rfl _ _ rfl (w.heap.size + 1 + 1) (.slice xo xs.length xcap) xs.length (cellsI xs) rfl (hown.alloc _) (.slice (some ⟨w2.heap.size, 0, none⟩) 1 1) [(k, n)] rfl HLIT.out (by omega) (by simp) (by simp; omega) ?_; intro v' w3 hown3 hgrow3; obtain ⟨gb, vc, rfl, hvc, hgB⟩ := own_shape hown3 (by simp); have hc1 : ¬ (vc = 1) := (by simp at hvc; omega); have hv1 : 1 ≤ vc := (by simp at hvc; omega); have hv2 : (1 : Int) ≤ (vc : Int) := (by omega); have hG3 := (HG2.out.below ((Below.refl _ _).alloc (Nat.le_refl _) _) HG2.out.lt).grown hgrow3 hne; obtain ⟨d0, d1, d2, d3⟩ := hG3.cells; obtain ⟨g0, g1, g2, g3⟩ := hG3.free; have hG31 := (HG1.out.below ((Below.refl _ _).alloc (Nat.le_refl _) _) HG1.out.lt).grown hgrow3 hne1; obtain ⟨c0, c1, c2, c3⟩ := hG31.cells; obtain ⟨f0, f1, f2, f3⟩ := hG31.free; have HB3 := Lib.hid ((HB2.out.alloc (by omega) (.cells #[.string k, .int .i64 n] 43)).grown hgrow3 (by simp; omega) (fun j hj => by have := (own_range hown hj).1; omega)); have HN3 : Hid (∀ j, (Value.slice (some ⟨gb, 0, none⟩) (xs.length + 1) vc).ownBlock = some j → j ≠ w1.heap.size ∧ j ≠ w.heap.size + 1) := (fun j hj => ⟨fun e => own_ne hown3 hG3 (by decide) (by rw [← e]; exact hj), fun e => own_ne hown3 hG31 (by decide) (by rw [← e]; exact hj)⟩); have HO3 := Lib.hid (own_app hown3 (show w.heap.size ≤ w.heap.size + 1 + 1 by omega) HOKK.out))
      exact bodyPost_ret (v := .agg #[.slice (some ⟨gb, 2, none⟩) xs.length (vc - 1), .int .i64 m, .int .i64 g, .int .i64 s]) (by simp [results, Try.results77, go_sem, c0, c1, c2, c3]) rfl ⟨_, .slice (some ⟨gb, 0, none⟩) (xs.length + 1) vc, xs ++ [(k, n)], rfl, HO3.out.keepK (by
        iterate 6 refine Keeps.setCell ?_ (by simp) _
        exact Keeps.refl _ _) HN3.out, HRD gb vc, by
        iterate 6 refine Below.setCell ?_ (by simp <;> omega) _
        exact HB3.out⟩
    · have HRD : ∀ gb vc : Nat, Hid (∀ w, Items w (.slice (some ⟨gb, 0, none⟩) (xs.length + 1) vc) (xs ++ [(k, n)]) → Items w (.slice (some ⟨gb, 0, none⟩) (xs.length + 1) vc) (stI xs m k n)) := fun gb vc w h => by
        rw [HL.out, show xs.length + 1 - m.toNat = 0 by omega]
        exact h
      go_wp2_with (at_builtin; refine wpl_append_items _ rfl _ _ rfl (w.heap.size + 1 + 1) (.slice xo xs.length xcap) xs.length (cellsI xs) rfl (hown.alloc _) (.slice (some ⟨w2.heap.size, 0, none⟩) 1 1) [(k, n)] rfl HLIT.out (by omega) (by simp) (by simp; omega) ?_; intro v' w3 hown3 hgrow3; obtain ⟨gb, vc, rfl, hvc, hgB⟩ := own_shape hown3 (by simp);  have hG3 := (HG2.out.below ((Below.refl _ _).alloc (Nat.le_refl _) _) HG2.out.lt).grown hgrow3 hne; obtain ⟨d0, d1, d2, d3⟩ := hG3.cells; obtain ⟨g0, g1, g2, g3⟩ := hG3.free; have hG31 := (HG1.out.below ((Below.refl _ _).alloc (Nat.le_refl _) _) HG1.out.lt).grown hgrow3 hne1; obtain ⟨c0, c1, c2, c3⟩ := hG31.cells; obtain ⟨f0, f1, f2, f3⟩ := hG31.free; have HB3 := Lib.hid ((HB2.out.alloc (by omega) (.cells #[.string k, .int .i64 n] 43)).grown hgrow3 (by simp; omega) (fun j hj => by have := (own_range hown hj).1; omega)); have HN3 : Hid (∀ j, (Value.slice (some ⟨gb, 0, none⟩) (xs.length + 1) vc).ownBlock = some j → j ≠ w1.heap.size ∧ j ≠ w.heap.size + 1) := (fun j hj => ⟨fun e => own_ne hown3 hG3 (by decide) (by rw [← e]; exact hj), fun e => own_ne hown3 hG31 (by decide) (by rw [← e]; exact hj)⟩); have HO3 := Lib.hid (own_app hown3 (show w.heap.size ≤ w.heap.size + 1 + 1 by omega) HOKK.out))
      exact bodyPost_ret (v := .agg #[.slice (some ⟨gb, 0, none⟩) (xs.length + 1) vc, .int .i64 m, .int .i64 g, .int .i64 s]) (by simp [results, Try.results77, go_sem, c0, c1, c2, c3]) rfl ⟨_, .slice (some ⟨gb, 0, none⟩) (xs.length + 1) vc, xs ++ [(k, n)], rfl, HO3.out.keepK (by
        iterate 5 refine Keeps.setCell ?_ (by simp) _
        exact Keeps.refl _ _) HN3.out, HRD gb vc, by
        iterate 5 refine Below.setCell ?_ (by simp <;> omega) _
        exact HB3.out⟩
  · obtain ⟨j, hj, p1, p2, p3, _⟩ := placeI_del xs k 0 hh
    have HH := Lib.hid hh
    have P1 := Lib.hid (p1.trans (by simp) : placeI xs k 0 = (j : Int))
    have P3 := Lib.hid p3
    have HL := Lib.hid (st_has (n := n) hh hl)
    have hdl := (st_has (n := n) hh hl).2
    clear hh p1 p2 p3
    go_wp2_with fail
    refine (place_at _ HI.out P1.out).mono ?_
    rintro e w2 ⟨rfl, hw⟩
    rw [hw] at HG1 HG2 HB2 HI hos
    clear d0 d1 d2 d3 hw HO1
    obtain ⟨d0, d1, d2, d3⟩ := HG2.out.cells
    go_wp2_with fail
    refine (swithout_any _ xs j _ HI.out hj (by omega)).mono ?_
    rintro e w3 ⟨v3, rfl, ho3, hb3⟩
    rw [← P3.out] at ho3
    obtain ⟨yo, ycap, rfl, hyc, _⟩ := own_slice ho3.1
    have hs3 := hb3.size
    have HG2a := HG2.out.below hb3 HG2.out.lt
    have HG1a := HG1.out.below hb3 HG1.out.lt
    have hne := own_ne ho3.1 HG2a (by decide)
    have hne1 := own_ne ho3.1 HG1a (by decide)
    have e1 : w.heap.size + 1 ≠ w1.heap.size := by omega
    have HG2b := Lib.hid (HG2a.set0 (.slice yo (delI xs k).length ycap))
    have HG1b := Lib.hid (HG1a.keeps ((Keeps.refl (fun j => j ≠ w1.heap.size) w3).setCell (a := ⟨w1.heap.size, 0, none⟩) (fun h => h rfl) (.slice yo (delI xs k).length ycap)) e1)
    have HB3b : Hid (Below w.heap.size w (w3.setCell ⟨w1.heap.size, 0, none⟩ (.slice yo (delI xs k).length ycap))) := (HB2.out.trans (hb3.mono HB2.out.size)).setCell (by simp; omega) _
    have HO3b := Lib.hid (ho3.keepK ((Keeps.refl (fun j => j ≠ w1.heap.size) w3).setCell (a := ⟨w1.heap.size, 0, none⟩) (fun h => h rfl) (.slice yo (delI xs k).length ycap)) (fun j hj e => hne (by rw [hj, e])))
    have hown := HO3b.out.1
    have hLIT := Items_one (w3.setCell ⟨w1.heap.size, 0, none⟩ (.slice yo (delI xs k).length ycap)) k n 43 hks hni
    simp at hLIT
    have HLIT := Lib.hid hLIT
    have HOKK := Lib.hid (okI_app ho3.2 (okI_pair hks hni))
    have hbw : w.heap.size + 1 + 1 ≤ w3.heap.size := by omega
    have hbw2 : w2.heap.size ≤ w3.heap.size := hs3
    have hgt : ¬ (m < ((delI xs k).length : Int) + 1) := by omega
    have hdl8 : (delI xs k).length ≤ 8 := by omega
    have HRD : ∀ gb vc : Nat, Hid (∀ w, Items w (.slice (some ⟨gb, 0, none⟩) ((delI xs k).length + 1) vc) (delI xs k ++ [(k, n)]) → Items w (.slice (some ⟨gb, 0, none⟩) ((delI xs k).length + 1) vc) (stI xs m k n)) := fun gb vc w h => by
      rw [HL.out.1]
      exact h
    have f3 := HG2a.free
    have p0 := HG2a.cells.1
    have hdl0 := Lib.hid hdl
    have e2 : w.heap.size ≤ w2.heap.size := by omega
    have E2 := Lib.hid e2
    clear HG2a HG1a hLIT ho3 d0 d1 d2 d3 hdl hos
    obtain ⟨d0, d1, d2, d3⟩ := HG2b.out.cells
    obtain ⟨g0, g1, g2, g3⟩ := HG2b.out.free
    obtain ⟨q0, _, _, _⟩ := f3
    go_wp2_with (at_builtin; refine wpl_append_items _ rfl _ _ rfl w2.heap.size (.slice yo (delI xs k).length ycap) (delI xs k).length (cellsI (delI xs k)) rfl (hown.alloc _) (.slice (some ⟨w3.heap.size, 0, none⟩) 1 1) [(k, n)] rfl HLIT.out (by omega) (by simp) (by simp; omega) ?_; intro v' w4 hown3 hgrow3; obtain ⟨gb, vc, rfl, hvc, hgB⟩ := own_shape hown3 (by simp); have hG3 := (HG2b.out.below ((Below.refl _ _).alloc (Nat.le_refl _) _) HG2b.out.lt).grown hgrow3 hne; obtain ⟨d0, d1, d2, d3⟩ := hG3.cells; obtain ⟨g0, g1, g2, g3⟩ := hG3.free; have hG31 := (HG1b.out.below ((Below.refl _ _).alloc (Nat.le_refl _) _) HG1b.out.lt).grown hgrow3 hne1; obtain ⟨c0, c1, c2, c3⟩ := hG31.cells; obtain ⟨f0, f1, f2, f3⟩ := hG31.free; have HB3 := Lib.hid ((HB3b.out.alloc (by simp; omega) (.cells #[.string k, .int .i64 n] 43)).grown hgrow3 (by simp; omega) (fun j hj => by exact Nat.le_trans E2.out (own_range hown hj).1)); have HN3 : Hid (∀ j, (Value.slice (some ⟨gb, 0, none⟩) ((delI xs k).length + 1) vc).ownBlock = some j → j ≠ w1.heap.size ∧ j ≠ w.heap.size + 1) := (fun j hj => ⟨fun e => own_ne hown3 hG3 (by decide) (by rw [← e]; exact hj), fun e => own_ne hown3 hG31 (by decide) (by rw [← e]; exact hj)⟩); have HO3 := Lib.hid (own_app (w := w) hown3 E2.out HOKK.out))
    exact bodyPost_ret (v := .agg #[.slice (some ⟨gb, 0, none⟩) ((delI xs k).length + 1) vc, .int .i64 m, .int .i64 g, .int .i64 s]) (by simp [results, Try.results77, go_sem, c0, c1, c2, c3]) rfl ⟨_, .slice (some ⟨gb, 0, none⟩) ((delI xs k).length + 1) vc, (delI xs k) ++ [(k, n)], rfl, HO3.out.keepK (by
      iterate 5 refine Keeps.setCell ?_ (by simp) _
      exact Keeps.refl _ _) HN3.out, HRD gb vc, by
      iterate 5 refine Below.setCell ?_ (by simp <;> omega) _
      exact HB3.out⟩

set_option maxHeartbeats 3200000 in
set_option maxRecDepth 100000 in
theorem sStoreItem_any (v : Value) (xs : List Itm) (m g s : Int) (k : ByteArray) (n : Int) (w : World) (h : Items w v xs) (hks : k.size ≤ 9223372036854775807) (hni : -9223372036854775808 ≤ n ∧ n ≤ 9223372036854775807) :
    Calls Try.prog 26 #[.agg #[v, .int .i64 m, .int .i64 g, .int .i64 s], .string k, .int .i64 n] w (NewW (fun v => .tuple #[.agg #[v, .int .i64 (soM xs m g s k n m), .int .i64 (soM xs m g s k n g), .int .i64 (soM xs m g s k n s)], .bool (soB xs m g s k n)]) (soL xs m g s k n) w) := by
  have h0 := Lib.hid h
  obtain ⟨ao, cap, rfl, hlc, hcm, _, _⟩ := h
  go_enter Try.func26, Try.ntmps26
  have HA : Hid (Below w.heap.size w ((w.alloc (.cells #[.slice ao xs.length cap, .int .i64 m, .int .i64 g, .int .i64 s] 25)).alloc (.cells #[.slice none 0 0, .int .i64 0, .int .i64 0, .int .i64 0] 25))) := ((Below.refl _ _).alloc (Nat.le_refl _) _).alloc (by simp) _
  have F0 := (Four.new w 25 (.slice ao xs.length cap) (.int .i64 m) (.int .i64 g) (.int .i64 s)).below (B := w.heap.size + 1) ((Below.refl _ _).alloc (by simp) (.cells #[.slice none 0 0, .int .i64 0, .int .i64 0, .int .i64 0] 25)) (by omega)
  have F1 := Four.new (w.alloc (.cells #[.slice ao xs.length cap, .int .i64 m, .int .i64 g, .int .i64 s] 25)) 25 (.slice none 0 0) (.int .i64 0) (.int .i64 0) (.int .i64 0)
  simp at F1
  have HF0 := Lib.hid F0
  have HF1 := Lib.hid F1
  clear F0 F1
  cases hv : vcB xs m g s
  all_goals
    have HV := Lib.hid hv
    clear hv
    go_wp2_with fail
    refine (svc_v _ (h0.out.mono HA.out (Nat.le_refl _)) HV.out).mono ?_
    rintro e w1 ⟨rfl, hb1⟩
    have hs1 := hb1.size
    simp at hs1 hb1
    have HG0 := Lib.hid (HF0.out.below hb1 (by omega))
    have HG1 := Lib.hid (HF1.out.below hb1 (by omega))
    have HB1 : Hid (Below w.heap.size w w1) := HA.out.trans (hb1.mono (by omega))
    clear hb1
  · have HC := Lib.hid (show soB xs m g s k n = false by unfold soB; rw [HV.out]; rfl)
    have HL := Lib.hid (so_no HC.out)
    obtain ⟨c0, c1, c2, c3⟩ := HG1.out.cells
    obtain ⟨f0, f1, f2, f3⟩ := HG1.out.free
    go_wp2
    exact bodyPost_ret (v := .tuple #[.agg #[.slice none 0 0, .int .i64 0, .int .i64 0, .int .i64 0], .bool false]) (by simp [results, Try.results26, go_sem, c0, c1, c2, c3]) rfl ⟨_, .slice none 0 0, [], ret_cb rfl (HL.out.2 _).symm (HL.out.2 _).symm (HL.out.2 _).symm HC.out.symm, OwnI_nil _ _ _, Lib.hid (fun w h => by rw [HL.out.1]; exact h), by
      iterate 4 refine Below.setCell ?_ (by simp) _
      exact HB1.out⟩
  · have HY := Lib.hid (vc_yes HV.out)
    have hm := HY.out.2.1
    have hl := HY.out.2.2.1
    have HSV := Lib.hid (st_valid (k := k) (n := n) HV.out)
    obtain ⟨a0, a1, a2, a3⟩ := HG0.out.cells
    go_wp2_with fail
    refine (sstore_any _ xs m g s k n _ (h0.out.mono HB1.out (Nat.le_refl _)) hks hni hm hl).mono ?_
    rintro e w2 ⟨v2, V, ys, rfl, ho2, hrd, hb2⟩
    have HI2 := Lib.hid (hrd.out _ ho2.items)
    obtain ⟨vo, L, vc, rfl⟩ : ∃ vo L vc, v2 = .slice vo L vc := by
      obtain ⟨ao, cap, e, _⟩ := HI2.out
      exact ⟨ao, _, cap, e⟩
    have hbA : Below w2.heap.size w2 (w2.alloc (.cells #[.slice vo L vc, .int .i64 m, .int .i64 g, .int .i64 s] 25)) := (Below.refl _ _).alloc (Nat.le_refl _) _
    have HG2 := Lib.hid (Four.new w2 25 (.slice vo L vc) (.int .i64 m) (.int .i64 g) (.int .i64 s))
    have HG3 := Lib.hid ((HG1.out.below hb2 HG1.out.lt).below hbA (by have := HG1.out.lt; have := hb2.size; omega))
    have HB2 := Lib.hid ((HB1.out.trans (hb2.mono HB1.out.size)).trans (hbA.mono (by have := HB1.out.size; have := hb2.size; omega)))
    have HO2 := Lib.hid (ho2.below hbA (Nat.le_refl _))
    have HI3 := Lib.hid (HI2.out.mono hbA (Nat.le_refl _))
    clear a0 a1 a2 a3 hb2 hbA ho2
    obtain ⟨d0, d1, d2, d3⟩ := HG2.out.cells
    obtain ⟨b, hb⟩ : ∃ b, Hid ((keyB k && numB n) = b) := ⟨_, Lib.hid rfl⟩
    have HS2 := Lib.hid (HSV.out.trans hb.out)
    go_wp2_with fail
    refine (svc_v _ HI3.out HS2.out).mono ?_
    rintro e w3 ⟨rfl, hb3⟩
    have K3 := HG3.out.below hb3 HG3.out.lt
    obtain ⟨c0, c1, c2, c3⟩ := K3.cells
    obtain ⟨f0, f1, f2, f3⟩ := K3.free
    have K2 := HG2.out.below hb3 HG2.out.lt
    clear d0 d1 d2 d3
    obtain ⟨d0, d1, d2, d3⟩ := K2.cells
    have hne := own_ne (HO2.out.below hb3 (Nat.le_refl _)).1 K3 (by decide)
    have HN3 := Lib.hid hne
    have HO3 := Lib.hid (HO2.out.below hb3 (Nat.le_refl _))
    have HB3 := Lib.hid (HB2.out.trans (hb3.mono HB2.out.size))
    clear K2 K3 hb3 hne
    cases b
    · have HC := Lib.hid (show soB xs m g s k n = false by unfold soB; rw [hb.out]; simp)
      have HL := Lib.hid (so_no HC.out)
      go_wp2
      exact bodyPost_ret (v := .tuple #[.agg #[.slice none 0 0, .int .i64 0, .int .i64 0, .int .i64 0], .bool false]) (by simp [results, Try.results26, go_sem, c0, c1, c2, c3]) rfl ⟨_, .slice none 0 0, [], ret_cb rfl (HL.out.2 _).symm (HL.out.2 _).symm (HL.out.2 _).symm HC.out.symm, OwnI_nil _ _ _, Lib.hid (fun w h => by rw [HL.out.1]; exact h), by
        iterate 4 refine Below.setCell ?_ (by simp) _
        exact HB3.out⟩
    · have HC := Lib.hid (show soB xs m g s k n = true by unfold soB; rw [HV.out, hb.out]; rfl)
      have HL := Lib.hid (so_yes HC.out)
      go_wp2
      exact bodyPost_ret (v := .tuple #[.agg #[.slice vo L vc, .int .i64 m, .int .i64 g, .int .i64 s], .bool true]) (by simp [results, Try.results26, go_sem, c0, c1, c2, c3]) rfl ⟨_, V, ys, ret_cb rfl (HL.out.2 _).symm (HL.out.2 _).symm (HL.out.2 _).symm HC.out.symm, (HO3.out.keepK (K := fun j => j ≠ w.heap.size + 1) (by
        iterate 4 refine Keeps.setCell ?_ (by simp) _
        exact Keeps.refl _ _) (fun j hj e => HN3.out (by rw [hj, e]))).base HB1.out.size, Lib.hid (fun w h => by rw [HL.out.1]; exact hrd.out w h), by
        iterate 4 refine Below.setCell ?_ (by simp) _
        exact HB3.out⟩
end Go.Proofs.Ytlclhdolcokipaa
/-
  RunCache: the pure result, and the program's.
-/
namespace Go.Proofs.Ytlclhdolcokipaa
open Go.RowKit

def rcI (m : Int) (xs : List Itm) (k : ByteArray) : List Itm := if hasI xs k = true then lkI xs k else stI (lkI xs k) m k 1
abbrev Run := List Itm × Int × Int
def rcStep (m : Int) (t : Run) (k : ByteArray) : Run := (rcI m t.1 k, lkG t.1 k t.2.1, lkS t.1 k t.2.2)
def rcR (m : Int) (t : Run) (ks : List ByteArray) : Run := ks.foldl (rcStep m) t
theorem rcR_take {m : Int} {t : Run} {ks : List ByteArray} {k : Nat} (h : k < ks.length) : rcR m t (ks.take (k + 1)) = rcStep m (rcR m t (ks.take k)) ks[k] := by
  unfold rcR
  rw [List.take_succ_eq_append_getElem h, List.foldl_append]
  rfl
theorem vc_mk {xs : List Itm} {m g s : Int} (h1 : validI xs = true) (h2 : 1 ≤ m ∧ m ≤ 8) (h3 : (xs.length : Int) ≤ m) (h4 : 0 ≤ g ∧ g ≤ 9999) (h5 : 0 ≤ s ∧ s ≤ 9999) : vcB xs m g s = true := by
  unfold vcB rgB
  simp only [Bool.and_eq_true, decide_eq_true_eq]
  exact ⟨⟨⟨⟨h1, h2⟩, h3⟩, h4⟩, h5⟩
theorem up_bd {n : Int} (h : 0 ≤ n ∧ n ≤ 9999) : 0 ≤ upN n ∧ upN n ≤ 9999 := by unfold upN; omega
theorem has_valid {xs : List Itm} {k : ByteArray} (hv : validI xs = true) (hh : hasI xs k = true) : keyB k = true ∧ numB (cnt xs k) = true := by
  obtain ⟨a, x, r, rfl, hx, ha⟩ := hasI_split hh
  have h1 := ((validI_iff _).1 hv).1 x (by simp)
  rw [hx] at h1
  rw [cnt_sp hx ha]
  exact h1
theorem mov_st {xs : List Itm} {m : Int} {k : ByteArray} (hh : hasI xs k = true) (hl : (xs.length : Int) ≤ m) : movI xs k true = stI xs m k (cnt xs k) := by
  rw [(st_has hh hl).1]
  rfl
theorem rc_valid {xs : List Itm} {m g s : Int} {k : ByteArray} (h : vcB xs m g s = true) (hk : keyB k = true) : vcB (rcI m xs k) m (lkG xs k g) (lkS xs k s) = true := by
  obtain ⟨hv, hm, hl, hg, hs⟩ := vc_yes h
  cases hh : hasI xs k
  · have e : rcI m xs k = stI xs m k 1 := by unfold rcI lkI; rw [hh]; rfl
    have h1 := st_valid (k := k) (n := 1) h
    rw [hk] at h1
    have h2 := vc_yes (h1.trans rfl)
    rw [e]
    refine vc_mk h2.1 hm h2.2.2.1 ?_ ?_
    · unfold lkG; rw [hh]; simpa using hg
    · unfold lkS; rw [hh]; simpa using up_bd hs
  · have e : rcI m xs k = stI xs m k (cnt xs k) := by unfold rcI lkI; rw [hh, if_pos rfl, if_pos rfl]; exact mov_st hh hl
    have h1 := st_valid (k := k) (n := cnt xs k) h
    rw [hk, (has_valid hv hh).2] at h1
    have h2 := vc_yes (h1.trans rfl)
    rw [e]
    refine vc_mk h2.1 hm h2.2.2.1 ?_ ?_
    · unfold lkG; rw [hh]; simpa using up_bd hg
    · unfold lkS; rw [hh]; simpa using hs
def rkB (xs : List Itm) (m g s : Int) (ks : List ByteArray) : Bool := (vcB xs m g s && decide (ks.length ≤ 40)) && ks.all keyB
def rkL (xs : List Itm) (m g s : Int) (ks : List ByteArray) : List Itm := if rkB xs m g s ks = true then (rcR m (xs, g, s) ks).1 else []
def rkZ (xs : List Itm) (m g s : Int) (ks : List ByteArray) (z : Int) : Int := if rkB xs m g s ks = true then z else 0
theorem rk_no {xs : List Itm} {m g s : Int} {ks : List ByteArray} (h : rkB xs m g s ks = false) : rkL xs m g s ks = [] ∧ ∀ z, rkZ xs m g s ks z = 0 := by
  unfold rkL rkZ
  rw [h]
  exact ⟨rfl, fun _ => rfl⟩
theorem rk_yes {xs : List Itm} {m g s : Int} {ks : List ByteArray} (h : rkB xs m g s ks = true) : rkL xs m g s ks = (rcR m (xs, g, s) ks).1 ∧ ∀ z, rkZ xs m g s ks z = z := by
  unfold rkL rkZ
  rw [h]
  exact ⟨rfl, fun _ => rfl⟩
theorem rk_key {xs : List Itm} {m g s : Int} {ks : List ByteArray} {k : Nat} (h : k < ks.length) (hb : keyB ks[k] = false) : rkB xs m g s ks = false := by
  have : ks.all keyB = false := by
    rw [← Bool.not_eq_true, List.all_eq_true]
    intro ha
    have := ha _ (List.getElem_mem h)
    rw [hb] at this
    cases this
  unfold rkB
  rw [this]
  simp
/-- What holds after each key. -/
def rcV (m : Int) (t : Run) : Prop := vcB t.1 m t.2.1 t.2.2 = true
theorem rc_next {m : Int} {t : Run} {k : ByteArray} (h : rcV m t) (hk : keyB k = true) : rcV m (rcStep m t k) := rc_valid h hk
theorem rc_bd {m : Int} {t : Run} (h : rcV m t) : t.1.length ≤ 8 ∧ (t.1.length : Int) ≤ m ∧ (1 ≤ m ∧ m ≤ 8) ∧ (0 ≤ t.2.1 ∧ t.2.1 ≤ 9999) ∧ (0 ≤ t.2.2 ∧ t.2.2 ≤ 9999) := by
  have h1 := vc_yes h
  exact ⟨valid_len h1.1, h1.2.2.1, h1.2.1, h1.2.2.2.1, h1.2.2.2.2⟩
theorem rk_all {m : Int} (ks : List ByteArray) : ∀ t : Run, rcV m t → ks.all keyB = true → rcV m (rcR m t ks) := by
  induction ks with
  | nil => intro t h _; exact h
  | cons k r ih =>
    intro t h ha
    rw [List.all_cons, Bool.and_eq_true] at ha
    exact ih _ (rc_next h ha.1) ha.2
theorem rk_le (xs : List Itm) (m g s : Int) (ks : List ByteArray) : (rkL xs m g s ks).length ≤ 10000000 := by
  cases h : rkB xs m g s ks
  · rw [(rk_no h).1]; simp
  · rw [(rk_yes h).1]
    unfold rkB at h
    rw [Bool.and_eq_true, Bool.and_eq_true] at h
    have := rc_bd (rk_all ks (xs, g, s) h.1.1 h.2)
    omega
theorem all_keys_step {ks : List ByteArray} {k : Nat} (h : k < ks.length) (H : Hid ((ks.take k).all keyB = true)) (hb : Hid (keyB ks[k] = true)) : Hid ((ks.take (k + 1)).all keyB = true) := by
  unfold Hid
  rw [List.take_succ_eq_append_getElem h, List.all_append, H.out]
  simp [hb.out]
theorem Texts.at {w : World} {v : Value} {ts : List ByteArray} (h : Texts w v ts) {k : Nat} (hk : k < ts.length) : ∃ b o cap, v = .slice (some ⟨b, o, none⟩) ts.length cap ∧ b < w.heap.size ∧ w.cell? ⟨b, o + k, none⟩ = some (.string ts[k]) ∧ ts[k].size ≤ 9223372036854775807 := by
  obtain ⟨ao, cap, rfl, hl, hc, hok, hcell⟩ := h
  obtain ⟨b, o, rfl, hb, hcc⟩ := hcell k hk
  exact ⟨b, o, cap, rfl, hb, hcc, hok _ (List.getElem_mem hk)⟩
theorem okI_one1 {k : ByteArray} (hk : k.size ≤ 9223372036854775807) : okI [(k, (1 : Int))] := okI_pair hk ⟨by omega, by omega⟩
theorem rc_has {m : Int} {t : Run} {k : ByteArray} (h : hasI t.1 k = true) : rcStep m t k = (lkI t.1 k, lkG t.1 k t.2.1, lkS t.1 k t.2.2) := by unfold rcStep rcI; rw [h]; rfl
theorem rc_hasnt {m : Int} {t : Run} {k : ByteArray} (h : hasI t.1 k = false) : rcStep m t k = (stI (lkI t.1 k) m k 1, lkG t.1 k t.2.1, lkS t.1 k t.2.2) := by unfold rcStep rcI; rw [h]; rfl

set_option maxHeartbeats 3200000 in
set_option maxRecDepth 100000 in
theorem RunCache_any (v u : Value) (xs : List Itm) (m g s : Int) (ks : List ByteArray) (w : World) (h : Items w v xs) (hk : Texts w u ks) :
    Calls Try.prog 32 #[.agg #[v, .int .i64 m, .int .i64 g, .int .i64 s], u] w (NewL (fun v => .tuple #[.agg #[v, .int .i64 (rkZ xs m g s ks m), .int .i64 (rkZ xs m g s ks (rcR m (xs, g, s) ks).2.1), .int .i64 (rkZ xs m g s ks (rcR m (xs, g, s) ks).2.2)], .bool (rkB xs m g s ks)]) (rkL xs m g s ks) w) := by
  have h0 := Lib.hid h
  have hT := Lib.hid hk
  obtain ⟨ao, cap, rfl, hlc, hcm, _, _⟩ := h
  obtain ⟨to, tcap, rfl, htc, htm, _, _⟩ := hk
  go_enter Try.func32, Try.ntmps32
  have HA : Hid (Below w.heap.size w ((w.alloc (.cells #[.slice ao xs.length cap, .int .i64 m, .int .i64 g, .int .i64 s] 25)).alloc (.cells #[.slice none 0 0, .int .i64 0, .int .i64 0, .int .i64 0] 25))) := ((Below.refl _ _).alloc (Nat.le_refl _) _).alloc (by simp) _
  have F0 := (Four.new w 25 (.slice ao xs.length cap) (.int .i64 m) (.int .i64 g) (.int .i64 s)).below (B := w.heap.size + 1) ((Below.refl _ _).alloc (by simp) (.cells #[.slice none 0 0, .int .i64 0, .int .i64 0, .int .i64 0] 25)) (by omega)
  have F1 := Four.new (w.alloc (.cells #[.slice ao xs.length cap, .int .i64 m, .int .i64 g, .int .i64 s] 25)) 25 (.slice none 0 0) (.int .i64 0) (.int .i64 0) (.int .i64 0)
  simp at F1
  have HF0 := Lib.hid F0
  have HF1 := Lib.hid F1
  clear F0 F1
  cases hv : vcB xs m g s
  all_goals
    have HV := Lib.hid hv
    clear hv
    go_wp2_with fail
    refine (VC_v _ (h0.out.mono HA.out (Nat.le_refl _)) HV.out).mono ?_
    rintro e w1 ⟨rfl, hb1⟩
    have hs1 := hb1.size
    simp at hs1 hb1
    have HG0 := Lib.hid (HF0.out.below hb1 (by omega))
    have HG1 := Lib.hid (HF1.out.below hb1 (by omega))
    have HB1 : Hid (Below w.heap.size w w1) := HA.out.trans (hb1.mono (by omega))
    clear hb1
  · have HC := Lib.hid (show rkB xs m g s ks = false by unfold rkB; rw [HV.out]; rfl)
    have HL := Lib.hid (rk_no HC.out)
    obtain ⟨c0, c1, c2, c3⟩ := HG1.out.cells
    obtain ⟨f0, f1, f2, f3⟩ := HG1.out.free
    go_wp2
    exact bodyPost_ret (v := .tuple #[.agg #[.slice none 0 0, .int .i64 0, .int .i64 0, .int .i64 0], .bool false]) (by simp [results, Try.results32, go_sem, c0, c1, c2, c3]) rfl ⟨_, ret_cb rfl (HL.out.2 _).symm (HL.out.2 _).symm (HL.out.2 _).symm HC.out.symm, by rw [HL.out.1]; exact OwnI_nil _ _ _, by
      iterate 4 refine Below.setCell ?_ (by simp) _
      exact HB1.out⟩
  · by_cases h40 : ks.length ≤ 40
    · have hz40 : ¬ ((40 : Int) < (ks.length : Int)) := by omega
      have HY := Lib.hid (vc_yes HV.out)
      have hl := valid_len HY.out.1
      obtain ⟨a0, a1, a2, a3⟩ := HG0.out.cells
      go_wp2_with fail
      refine (shelfOf_any _ xs m g s _ (h0.out.mono HB1.out (Nat.le_refl _)) (by omega)).mono ?_
      rintro e w2 ⟨sb, r, rt, ns0, rfl, hns, hS, hR, hb2, hsb⟩
      have HS := Lib.hid hS
      have HR := Lib.hid hR
      have HB2 := Lib.hid hb2
      have HNS := Lib.hid hns
      have HRV : Hid (rcV m (xs, g, s)) := HV.out
      clear hS hR hb2 hns a0 a1 a2 a3
      go_wp2_with fail
      go_loopw [24] (fun i wr => ∃ (k : Nat) (ns : List Nod) (t : Run), k ≤ ks.length ∧ i = .int .i64 k ∧ Hid (t = rcR m (xs, g, s) (ks.take k)) ∧ Hid (rcV m t) ∧ Hid ((ks.take k).all keyB = true) ∧ Hid (its ns = t.1) ∧ Hid (ShelfAt wr sb r m t.2.1 t.2.2) ∧ Hid (RingAt (fun j => j < w1.heap.size ∨ j = sb) wr r rt ns) ∧ Hid (Keeps (fun j => j < w1.heap.size) w2 wr)) (fun i _ => ks.length - (intOf i).toNat)
      case atStart => exact ⟨0, ns0, (xs, g, s), Nat.zero_le _, rfl, rfl, HRV, rfl, HNS, HS, HR, Keeps.refl _ _⟩
      case round =>
        obtain ⟨k, ns, t, hk, rfl, HT, HV2, HA2, HN, HS2, HR2, HK2⟩ := hrel
        have HW : Hid (Below w1.heap.size w1 wr) := HB2.out.trans (HK2.out.below (fun j hj => hj))
        by_cases hlt : k < ks.length
        · obtain ⟨b, o, cap', e, hb, hc, hks⟩ := hT.out.at hlt
          simp only [Value.slice.injEq] at e
          obtain ⟨rfl, _, rfl⟩ := e
          have c1 := ((HB1.out.trans (HW.out.mono HB1.out.size)).cell (p := ⟨b, _, none⟩) hb).trans hc
          clear hc
          cases hkb : keyB ks[k]
          all_goals
            have HKB := Lib.hid hkb
            clear hkb
            go_wp2_with fail
            refine (isKey_v _ hks HKB.out).mono ?_
            rintro e w3 ⟨rfl, rfl⟩
          · have HC := Lib.hid (rk_key (xs := xs) (m := m) (g := g) (s := s) hlt HKB.out)
            have HL := Lib.hid (rk_no HC.out)
            have HGr := HG1.out.below HW.out (by omega)
            obtain ⟨c0, c1', c2, c3⟩ := HGr.cells
            obtain ⟨f0, f1, f2, f3⟩ := HGr.free
            have HBr := Lib.hid (HB1.out.trans (HW.out.mono HB1.out.size))
            clear HGr
            go_wp2
            exact bodyPost_ret (v := .tuple #[.agg #[.slice none 0 0, .int .i64 0, .int .i64 0, .int .i64 0], .bool false]) (by simp [results, Try.results32, go_sem, c0, c1', c2, c3]) rfl ⟨_, ret_cb rfl (HL.out.2 _).symm (HL.out.2 _).symm (HL.out.2 _).symm HC.out.symm, by rw [HL.out.1]; exact OwnI_nil _ _ _, by
              iterate 4 refine Below.setCell ?_ (by simp) _
              exact HBr.out⟩
          · have hbd := rc_bd HV2.out
            have hln : ns.length ≤ 10000 := by rw [← its_len, HN.out]; omega
            have HNX := rc_next HV2.out HKB.out
            have HTX : Hid (rcStep m t ks[k] = rcR m (xs, g, s) (ks.take (k + 1))) := by unfold Hid; rw [rcR_take hlt, ← HT.out]
            have HVX := Lib.hid HNX
            have HAX := all_keys_step hlt HA2 HKB
            clear HNX
            go_wp2_with fail
            refine (lookUp_any HS2.out HR2.out (by omega) (fun j hj => by rcases hj with hj | hj; exact Nat.lt_of_lt_of_le hj HW.out.size; rw [hj]; exact HS2.out.lt) (.inr rfl) ks[k] hbd.2.2.2.1 hbd.2.2.2.2).mono ?_
            rintro e w4 ⟨ns4, rfl, hn4, hS4, hR4, hk4⟩
            rw [HN.out] at hn4 hS4 ⊢
            have HN4 := Lib.hid hn4
            have HS4 := Lib.hid hS4
            have HR4 := Lib.hid hR4
            have hk4' : Keeps (fun j => j < w1.heap.size) wr w4 := hk4.mono (fun j hj => ⟨.inl hj, by omega⟩)
            have HK4 := Lib.hid (HK2.out.trans hk4')
            have hln4 : ns4.length ≤ 10000 := by rw [← its_len, hn4, lk_len]; omega
            have hsz4 : Hid (w1.heap.size ≤ w4.heap.size) := Nat.le_trans HW.out.size hk4'.size
            clear hn4 hS4 hR4 hk4 hk4' c1
            cases hh : hasI t.1 ks[k]
            · have HHX := Lib.hid (rc_hasnt (m := m) hh)
              clear hh
              go_wp2_with fail
              refine (store_any HS4.out HR4.out hln4 (fun j hj => by rcases hj with hj | hj; exact Nat.lt_of_lt_of_le hj hsz4.out; rw [hj]; exact HS4.out.lt) (.inr rfl) (by omega) ks[k] 1 (okI_one1 hks)).mono ?_
              rintro e w5 ⟨ns5, rfl, hn5, hS5, hR5, hk5⟩
              rw [HN4.out] at hn5
              have HN5 : Hid (its ns5 = (rcStep m t ks[k]).1) := by unfold Hid; rw [HHX.out]; exact hn5
              have HS5 : Hid (ShelfAt w5 sb r m (rcStep m t ks[k]).2.1 (rcStep m t ks[k]).2.2) := by unfold Hid; rw [HHX.out]; exact hS5
              have HR5 := Lib.hid hR5
              have HK5 := Lib.hid (HK4.out.trans (hk5.mono (fun j hj => .inl hj)))
              clear hn5 hS5 hR5 hk5
              go_wp2
              go_roundw
              case rel => exact ⟨k + 1, ns5, rcStep m t ks[k], by omega, by go_num, HTX, HVX, HAX, HN5, HS5, HR5, HK5⟩
              case measure => simp [intOf]; omega
            · have HHX := Lib.hid (rc_has (m := m) hh)
              clear hh
              have HN5 : Hid (its ns4 = (rcStep m t ks[k]).1) := by unfold Hid; rw [HHX.out]; exact HN4.out
              have HS5 : Hid (ShelfAt w4 sb r m (rcStep m t ks[k]).2.1 (rcStep m t ks[k]).2.2) := by unfold Hid; rw [HHX.out]; exact HS4.out
              go_wp2
              go_roundw
              case rel => exact ⟨k + 1, ns4, rcStep m t ks[k], by omega, by go_num, HTX, HVX, HAX, HN5, HS5, HR4, HK4⟩
              case measure => simp [intOf]; omega
        · obtain rfl : k = ks.length := by omega
          have hbd := rc_bd HV2.out
          have hln : ns.length ≤ 100000 := by rw [← its_len, HN.out]; omega
          have hAA := HA2.out
          rw [List.take_length] at hAA
          have hTT := HT.out
          rw [List.take_length] at hTT
          have HC := Lib.hid (show rkB xs m g s ks = true by unfold rkB; rw [HV.out, hAA]; simp; exact h40)
          have HL := Lib.hid (rk_yes HC.out)
          have HTT := Lib.hid hTT
          clear hAA hTT
          go_wp2_with fail
          refine (cache_any HS2.out HR2.out hln).mono ?_
          rintro e w4 ⟨v4, rfl, ho4, hb4⟩
          have hlt3 : w.heap.size + 1 < wr.heap.size := by have := HW.out.size; omega
          have HG4 := (HG1.out.below HW.out (by omega)).below hb4 hlt3
          obtain ⟨c0, c1, c2, c3⟩ := HG4.cells
          obtain ⟨f0, f1, f2, f3⟩ := HG4.free
          have ho4' := ho4.1
          rw [its_len] at ho4'
          obtain ⟨xo, xcap, rfl, _, _⟩ := own_slice ho4'
          have HO4 := Lib.hid ho4
          have HB4 := Lib.hid hb4
          have HB3 : Hid (Below w.heap.size w wr) := HB1.out.trans (HW.out.mono HB1.out.size)
          clear ho4 ho4' hb4 HG4
          go_wp2
          exact bodyPost_ret (v := .tuple #[.agg #[.slice xo ns.length xcap, .int .i64 m, .int .i64 t.2.1, .int .i64 t.2.2], .bool true]) (by simp [results, Try.results32, go_sem, c0, c1, c2, c3]) rfl ⟨_, ret_cb rfl (HL.out.2 _).symm (by rw [HL.out.2, HTT.out]) (by rw [HL.out.2, HTT.out]) HC.out.symm, by
            rw [HL.out.1, ← HTT.out, ← HN.out]
            refine (HO4.out.past ?_).base (by omega)
            iterate 4 refine Keeps.past ?_ (by exact hlt3) _
            exact Keeps.refl _ _, by
            iterate 4 refine Below.setCell ?_ (by simp) _
            exact HB3.out.trans (HB4.out.mono HB3.out.size)⟩
    · have hz40 : (40 : Int) < (ks.length : Int) := by omega
      have HC := Lib.hid (show rkB xs m g s ks = false by unfold rkB; rw [decide_eq_false h40]; simp)
      have HL := Lib.hid (rk_no HC.out)
      obtain ⟨c0, c1, c2, c3⟩ := HG1.out.cells
      obtain ⟨f0, f1, f2, f3⟩ := HG1.out.free
      go_wp2
      exact bodyPost_ret (v := .tuple #[.agg #[.slice none 0 0, .int .i64 0, .int .i64 0, .int .i64 0], .bool false]) (by simp [results, Try.results32, go_sem, c0, c1, c2, c3]) rfl ⟨_, ret_cb rfl (HL.out.2 _).symm (HL.out.2 _).symm (HL.out.2 _).symm HC.out.symm, by rw [HL.out.1]; exact OwnI_nil _ _ _, by
        iterate 4 refine Below.setCell ?_ (by simp) _
        exact HB1.out⟩
end Go.Proofs.Ytlclhdolcokipaa
/-
  A key looked up in a cache, by the model.
-/
namespace Go.Proofs.Ytlclhdolcokipaa
open Go.RowKit

set_option maxHeartbeats 1600000 in
set_option maxRecDepth 100000 in
theorem slook_any (v : Value) (xs : List Itm) (m g s : Int) (k : ByteArray) (w : World) (h : Items w v xs) (hn : xs.length ≤ 100000) (hg : 0 ≤ g ∧ g ≤ 9999) (hs : 0 ≤ s ∧ s ≤ 9999) :
    Calls Try.prog 67 #[.agg #[v, .int .i64 m, .int .i64 g, .int .i64 s], .string k] w (NewL (fun v => .tuple #[.agg #[v, .int .i64 m, .int .i64 (lkG xs k g), .int .i64 (lkS xs k s)], .int .i64 (lkN xs k), .bool (hasI xs k)]) (lkI xs k) w) := by
  have h0 := Lib.hid h
  obtain ⟨ao, cap, rfl, hlc, hcm, _, _⟩ := h
  go_enter Try.func67, Try.ntmps67
  have HA : Hid (Below w.heap.size w ((w.alloc (.cells #[.slice ao xs.length cap, .int .i64 m, .int .i64 g, .int .i64 s] 25)).alloc (.cells #[.slice none 0 0, .int .i64 0, .int .i64 0, .int .i64 0] 25))) := ((Below.refl _ _).alloc (Nat.le_refl _) _).alloc (by simp) _
  have F0 := (Four.new w 25 (.slice ao xs.length cap) (.int .i64 m) (.int .i64 g) (.int .i64 s)).below (B := w.heap.size + 1) ((Below.refl _ _).alloc (by simp) (.cells #[.slice none 0 0, .int .i64 0, .int .i64 0, .int .i64 0] 25)) (by omega)
  have F1 := Four.new (w.alloc (.cells #[.slice ao xs.length cap, .int .i64 m, .int .i64 g, .int .i64 s] 25)) 25 (.slice none 0 0) (.int .i64 0) (.int .i64 0) (.int .i64 0)
  simp at F1
  have HF0 := Lib.hid F0
  have HF1 := Lib.hid F1
  clear F0 F1
  go_wp2_with fail
  refine (copyC_any _ xs m g s _ (h0.out.mono HA.out (Nat.le_refl _)) (by omega)).mono ?_
  rintro e w1 ⟨v1, rfl, ho1, hb1⟩
  have hs1 := hb1.size
  simp at hs1 hb1 ho1
  obtain ⟨xo, xcap, rfl, _, _⟩ := own_slice ho1.1
  have hbA : Below w1.heap.size w1 (w1.alloc (.cells #[.slice xo xs.length xcap, .int .i64 m, .int .i64 g, .int .i64 s] 25)) := (Below.refl _ _).alloc (Nat.le_refl _) _
  have HG0 := Lib.hid ((HF0.out.below hb1 (by omega)).below hbA (by omega))
  have HG1 := Lib.hid ((HF1.out.below hb1 (by omega)).below hbA (by omega))
  have HG2 := Lib.hid (Four.new w1 25 (.slice xo xs.length xcap) (.int .i64 m) (.int .i64 g) (.int .i64 s))
  have HB1 : Hid (Below w.heap.size w w1) := HA.out.trans (hb1.mono (by omega))
  have HB2 : Hid (Below w.heap.size w (w1.alloc (.cells #[.slice xo xs.length xcap, .int .i64 m, .int .i64 g, .int .i64 s] 25))) := HB1.out.trans (hbA.mono HB1.out.size)
  have HI := Lib.hid (h0.out.mono HB2.out (Nat.le_refl _))
  have HO1 := Lib.hid ho1
  have HKA : Hid (Keeps (fun j => w.heap.size + 1 + 1 ≤ j ∧ j < w1.heap.size) w1 (w1.alloc (.cells #[.slice xo xs.length xcap, .int .i64 m, .int .i64 g, .int .i64 s] 25))) := (Keeps.refl _ _).alloc (fun j hj => hj.2) _
  have hos : (w1.alloc (.cells #[.slice xo xs.length xcap, .int .i64 m, .int .i64 g, .int .i64 s] 25)).heap.size = w1.heap.size + 1 := by simp
  clear hb1 hbA ho1
  obtain ⟨a0, a1, a2, a3⟩ := HG0.out.cells
  cases hh : hasI xs k
  · have HH := Lib.hid hh
    have HL := Lib.hid (show lkI xs k = xs ∧ lkN xs k = 0 ∧ lkG xs k g = g ∧ lkS xs k s = upN s by unfold lkI lkN lkG lkS; rw [hh]; simp)
    clear hh
    have hne : ¬ (w1.heap.size = w.heap.size + 1) := by omega
    rcases up_cases s with ⟨hm, hu⟩ | ⟨hm, hu⟩
    all_goals
      go_wp2_with fail
      refine (place_no _ HI.out HH.out).mono ?_
      rintro e w2 ⟨rfl, hw⟩
      rw [hw] at HG1 HG2 HB2 HKA
      clear a0 a1 a2 a3 HI HG0 hos
      obtain ⟨c0, c1, c2, c3⟩ := HG1.out.cells
      obtain ⟨f0, f1, f2, f3⟩ := HG1.out.free
      obtain ⟨d0, d1, d2, d3⟩ := HG2.out.cells
      obtain ⟨g0, g1, g2, g3⟩ := HG2.out.free
      clear hw HG1 HG2
      go_wp2
    · exact bodyPost_ret (v := .tuple #[.agg #[.slice xo xs.length xcap, .int .i64 m, .int .i64 g, .int .i64 (s + 1)], .int .i64 0, .bool false]) (by simp [results, Try.results67, go_sem, c0, c1, c2, c3]) rfl ⟨_, ret_cib rfl rfl HL.out.2.2.1.symm (hu.symm.trans HL.out.2.2.2.symm) HL.out.2.1.symm HH.out.symm, by
        rw [HL.out.1]
        refine (HO1.out.mid ?_).base (by omega)
        iterate 5 refine Keeps.setCell ?_ (by simp <;> omega) _
        exact HKA.out, by
        iterate 5 refine Below.setCell ?_ (by simp <;> omega) _
        exact HB2.out⟩
    · exact bodyPost_ret (v := .tuple #[.agg #[.slice xo xs.length xcap, .int .i64 m, .int .i64 g, .int .i64 9999], .int .i64 0, .bool false]) (by simp [results, Try.results67, go_sem, c0, c1, c2, c3]) rfl ⟨_, ret_cib rfl rfl HL.out.2.2.1.symm (hu.symm.trans HL.out.2.2.2.symm) HL.out.2.1.symm HH.out.symm, by
        rw [HL.out.1]
        refine (HO1.out.mid ?_).base (by omega)
        iterate 5 refine Keeps.setCell ?_ (by simp <;> omega) _
        exact HKA.out, by
        iterate 5 refine Below.setCell ?_ (by simp <;> omega) _
        exact HB2.out⟩
  · obtain ⟨j, hj, p1, p2, p3, _⟩ := placeI_del xs k 0 hh
    have HH := Lib.hid hh
    have P1 := Lib.hid (p1.trans (by simp) : placeI xs k 0 = (j : Int))
    have P2 := Lib.hid p2
    have P3 := Lib.hid p3
    have HL := Lib.hid (show lkI xs k = movI xs k true ∧ lkN xs k = cnt xs k ∧ lkG xs k g = upN g ∧ lkS xs k s = s by unfold lkI lkN lkG lkS; rw [hh]; simp)
    have hl := h0.out
    obtain ⟨b, o, cap', e, _, _, hb, q0, q1⟩ := h0.out.at hj
    simp only [Value.slice.injEq] at e
    obtain ⟨rfl, _, rfl⟩ := e
    have hmv : (movI xs k true).length = xs.length := by have := lk_len xs k; rw [HL.out.1] at this; exact this
    clear hh p1 p2 p3 hl
    go_wp2_with fail
    refine (place_at _ HI.out P1.out).mono ?_
    rintro e w2 ⟨rfl, hw⟩
    rw [hw] at HG0 HG1 HG2 HB2 HI hos
    clear a0 a1 a2 a3 hw HKA
    obtain ⟨a0, a1, a2, a3⟩ := HG0.out.cells
    go_wp2_with fail
    refine (smoved_any _ xs k j true _ HI.out hj P2.out P3.out hn).mono ?_
    rintro e w3 ⟨v3, rfl, ho3, hb3⟩
    obtain ⟨yo, ycap, rfl, _, _⟩ := own_slice ho3.1
    have hs3 := hb3.size
    have HB3 := Lib.hid (HB2.out.trans (hb3.mono HB2.out.size))
    have HG0' := HG0.out.below hb3 (by omega)
    have HG1' := HG1.out.below hb3 (by omega)
    have HG2' := HG2.out.below hb3 (by omega)
    clear a0 a1 a2 a3
    obtain ⟨a0, a1, a2, a3⟩ := HG0'.cells
    obtain ⟨c0, c1, c2, c3⟩ := HG1'.cells
    obtain ⟨f0, f1, f2, f3⟩ := HG1'.free
    obtain ⟨d0, d1, d2, d3⟩ := HG2'.cells
    obtain ⟨g0, g1, g2, g3⟩ := HG2'.free
    have q1' := (HB3.out.cell (p := ⟨b, _, none⟩) hb).trans q1
    rw [P2.out] at q1'
    have hne : ¬ (w1.heap.size = w.heap.size + 1) := by omega
    have hne2 : ¬ (w1.heap.size = w.heap.size) := by omega
    have hne3 : ¬ (b = w1.heap.size) := by omega
    have hne3' : ¬ (w1.heap.size = b) := by omega
    have hne4 : ¬ (b = w.heap.size + 1) := by omega
    have HO3 := Lib.hid ho3
    clear ho3 hb3 q0 q1 HG0' HG1' HG2'
    clear hmv
    rcases up_cases g with ⟨hm, hu⟩ | ⟨hm, hu⟩
    all_goals
      go_wp2_with fail
      go_region
    all_goals go_wp2
    · exact bodyPost_ret (v := .tuple #[.agg #[.slice yo (movI xs k true).length ycap, .int .i64 m, .int .i64 (g + 1), .int .i64 s], .int .i64 (cnt xs k), .bool true]) (by simp [results, Try.results67, go_sem, c0, c1, c2, c3]) rfl ⟨_, ret_cib rfl rfl (hu.symm.trans HL.out.2.2.1.symm) HL.out.2.2.2.symm HL.out.2.1.symm HH.out.symm, by
        rw [HL.out.1]
        refine (HO3.out.past ?_).base (by omega)
        refine Keeps.drew ?_
        iterate 6 refine Keeps.past ?_ (by simp <;> omega) _
        exact Keeps.refl _ _, by
        refine Below.drew ?_
        iterate 6 refine Below.setCell ?_ (by simp <;> omega) _
        exact HB3.out⟩
    · exact bodyPost_ret (v := .tuple #[.agg #[.slice yo (movI xs k true).length ycap, .int .i64 m, .int .i64 9999, .int .i64 s], .int .i64 (cnt xs k), .bool true]) (by simp [results, Try.results67, go_sem, c0, c1, c2, c3]) rfl ⟨_, ret_cib rfl rfl (hu.symm.trans HL.out.2.2.1.symm) HL.out.2.2.2.symm HL.out.2.1.symm HH.out.symm, by
        rw [HL.out.1]
        refine (HO3.out.past ?_).base (by omega)
        refine Keeps.drew ?_
        iterate 6 refine Keeps.past ?_ (by simp <;> omega) _
        exact Keeps.refl _ _, by
        refine Below.drew ?_
        iterate 6 refine Below.setCell ?_ (by simp <;> omega) _
        exact HB3.out⟩

set_option maxHeartbeats 1600000 in
set_option maxRecDepth 100000 in
theorem sLookUp_any (v : Value) (xs : List Itm) (m g s : Int) (k : ByteArray) (w : World) (h : Items w v xs) :
    Calls Try.prog 19 #[.agg #[v, .int .i64 m, .int .i64 g, .int .i64 s], .string k] w (NewL (fun v => .tuple #[.agg #[v, .int .i64 (luM xs m g s), .int .i64 (luG xs m g s k), .int .i64 (luS xs m g s k)], .int .i64 (luN xs m g s k), .bool (luB xs m g s k)]) (luL xs m g s k) w) := by
  have h0 := Lib.hid h
  obtain ⟨ao, cap, rfl, hlc, hcm, _, _⟩ := h
  go_enter Try.func19, Try.ntmps19
  have HA : Hid (Below w.heap.size w ((w.alloc (.cells #[.slice ao xs.length cap, .int .i64 m, .int .i64 g, .int .i64 s] 25)).alloc (.cells #[.slice none 0 0, .int .i64 0, .int .i64 0, .int .i64 0] 25))) := ((Below.refl _ _).alloc (Nat.le_refl _) _).alloc (by simp) _
  have F0 := (Four.new w 25 (.slice ao xs.length cap) (.int .i64 m) (.int .i64 g) (.int .i64 s)).below (B := w.heap.size + 1) ((Below.refl _ _).alloc (by simp) (.cells #[.slice none 0 0, .int .i64 0, .int .i64 0, .int .i64 0] 25)) (by omega)
  have F1 := Four.new (w.alloc (.cells #[.slice ao xs.length cap, .int .i64 m, .int .i64 g, .int .i64 s] 25)) 25 (.slice none 0 0) (.int .i64 0) (.int .i64 0) (.int .i64 0)
  simp at F1
  have HF0 := Lib.hid F0
  have HF1 := Lib.hid F1
  clear F0 F1
  cases hv : vcB xs m g s
  all_goals
    have HV := Lib.hid hv
    clear hv
    go_wp2_with fail
    refine (svc_v _ (h0.out.mono HA.out (Nat.le_refl _)) HV.out).mono ?_
    rintro e w1 ⟨rfl, hb1⟩
    have hs1 := hb1.size
    simp at hs1 hb1
    have HG0 := Lib.hid (HF0.out.below hb1 (by omega))
    have HG1 := Lib.hid (HF1.out.below hb1 (by omega))
    have HB1 : Hid (Below w.heap.size w w1) := HA.out.trans (hb1.mono (by omega))
    clear hb1
  · have HL := Lib.hid (lu_no (k := k) HV.out)
    obtain ⟨c0, c1, c2, c3⟩ := HG1.out.cells
    obtain ⟨f0, f1, f2, f3⟩ := HG1.out.free
    go_wp2
    exact bodyPost_ret (v := .tuple #[.agg #[.slice none 0 0, .int .i64 0, .int .i64 0, .int .i64 0], .int .i64 0, .bool false]) (by simp [results, Try.results19, go_sem, c0, c1, c2, c3]) rfl ⟨_, ret_cib rfl HL.out.2.1.symm HL.out.2.2.1.symm HL.out.2.2.2.1.symm HL.out.2.2.2.2.1.symm HL.out.2.2.2.2.2.symm, by rw [HL.out.1]; exact OwnI_nil _ _ _, by
      iterate 4 refine Below.setCell ?_ (by simp) _
      exact HB1.out⟩
  · have HL := Lib.hid (lu_yes (k := k) HV.out)
    have HY := Lib.hid (vc_yes HV.out)
    have hl := valid_len HY.out.1
    obtain ⟨a0, a1, a2, a3⟩ := HG0.out.cells
    go_wp2_with fail
    refine (slook_any _ xs m g s k _ (h0.out.mono HB1.out (Nat.le_refl _)) (by omega) HY.out.2.2.2.1 HY.out.2.2.2.2).mono ?_
    rintro e w4 ⟨v4, rfl, ho4, hb4⟩
    have HG4 := HG1.out.below hb4 (by omega)
    obtain ⟨c0, c1, c2, c3⟩ := HG4.cells
    obtain ⟨f0, f1, f2, f3⟩ := HG4.free
    have HLL := Lib.hid (lk_len xs k)
    obtain ⟨xo, xcap, rfl, _, _⟩ := own_slice ho4.1
    have HO4 := Lib.hid ho4
    have HB4 := Lib.hid hb4
    clear ho4 hb4 HG4 a0 a1 a2 a3
    go_wp2
    exact bodyPost_ret (v := .tuple #[.agg #[.slice xo (lkI xs k).length xcap, .int .i64 m, .int .i64 (lkG xs k g), .int .i64 (lkS xs k s)], .int .i64 (lkN xs k), .bool (hasI xs k)]) (by simp [results, Try.results19, go_sem, c0, c1, c2, c3]) rfl ⟨_, ret_cib rfl HL.out.2.1.symm HL.out.2.2.1.symm HL.out.2.2.2.1.symm HL.out.2.2.2.2.1.symm HL.out.2.2.2.2.2.symm, by
      rw [HL.out.1]
      refine (HO4.out.past ?_).base (by omega)
      iterate 4 refine Keeps.past ?_ (by show w.heap.size + 1 < _; omega) _
      exact Keeps.refl _ _, by
      iterate 4 refine Below.setCell ?_ (by simp) _
      exact HB1.out.trans (HB4.out.mono HB1.out.size)⟩
end Go.Proofs.Ytlclhdolcokipaa
/-
  RunCache by the model.
-/
namespace Go.Proofs.Ytlclhdolcokipaa
open Go.RowKit

def set4 (w : World) (b : Nat) (a0 a1 a2 a3 : Value) : World := (((w.setCell ⟨b, 0, none⟩ a0).setCell ⟨b, 1, none⟩ a1).setCell ⟨b, 2, none⟩ a2).setCell ⟨b, 3, none⟩ a3
theorem Four.all {w : World} {b T : Nat} {u0 u1 u2 u3 : Value} (h : Four w b T u0 u1 u2 u3) (a0 a1 a2 a3 : Value) : Four (set4 w b a0 a1 a2 a3) b T a0 a1 a2 a3 := by
  unfold Four set4 at *
  have h1 := heap_setCell_same w b 0 _ _ a0 h
  have h2 := heap_setCell_same _ b 1 _ _ a1 h1
  have h3 := heap_setCell_same _ b 2 _ _ a2 h2
  have h4 := heap_setCell_same _ b 3 _ _ a3 h3
  rw [h4]
  rfl
theorem set4_keeps (w : World) (b : Nat) (a0 a1 a2 a3 : Value) : Keeps (fun j => j ≠ b) w (set4 w b a0 a1 a2 a3) := by
  unfold set4
  exact (((((Keeps.refl _ _).setCell (fun h => h rfl) _).setCell (fun h => h rfl) _).setCell (fun h => h rfl) _).setCell (fun h => h rfl) _)
theorem set4_below {B : Nat} {w w' : World} {b : Nat} (h : Below B w w') (hb : B ≤ b) (a0 a1 a2 a3 : Value) : Below B w (set4 w' b a0 a1 a2 a3) := by
  unfold set4
  exact ((((h.setCell hb _).setCell hb _).setCell hb _).setCell hb _)
theorem set4_size (w : World) (b : Nat) (a0 a1 a2 a3 : Value) : (set4 w b a0 a1 a2 a3).heap.size = w.heap.size := by
  unfold set4
  simp
theorem Items.shapeR {w : World} {v : Value} {xs : List Itm} (h : Items w v xs) : ∃ ao cap, v = .slice ao xs.length cap := by
  obtain ⟨ao, cap, e, _⟩ := h
  exact ⟨ao, cap, e⟩

set_option maxHeartbeats 3200000 in
set_option maxRecDepth 100000 in
theorem sRunCache_any (v u : Value) (xs : List Itm) (m g s : Int) (ks : List ByteArray) (w : World) (h : Items w v xs) (hk : Texts w u ks) :
    Calls Try.prog 33 #[.agg #[v, .int .i64 m, .int .i64 g, .int .i64 s], u] w (NewL (fun v => .tuple #[.agg #[v, .int .i64 (rkZ xs m g s ks m), .int .i64 (rkZ xs m g s ks (rcR m (xs, g, s) ks).2.1), .int .i64 (rkZ xs m g s ks (rcR m (xs, g, s) ks).2.2)], .bool (rkB xs m g s ks)]) (rkL xs m g s ks) w) := by
  have h0 := Lib.hid h
  have hT := Lib.hid hk
  obtain ⟨ao, cap, rfl, hlc, hcm, _, _⟩ := h
  obtain ⟨to, tcap, rfl, htc, htm, _, _⟩ := hk
  go_enter Try.func33, Try.ntmps33
  have HA : Hid (Below w.heap.size w ((w.alloc (.cells #[.slice ao xs.length cap, .int .i64 m, .int .i64 g, .int .i64 s] 25)).alloc (.cells #[.slice none 0 0, .int .i64 0, .int .i64 0, .int .i64 0] 25))) := ((Below.refl _ _).alloc (Nat.le_refl _) _).alloc (by simp) _
  have F0 := (Four.new w 25 (.slice ao xs.length cap) (.int .i64 m) (.int .i64 g) (.int .i64 s)).below (B := w.heap.size + 1) ((Below.refl _ _).alloc (by simp) (.cells #[.slice none 0 0, .int .i64 0, .int .i64 0, .int .i64 0] 25)) (by omega)
  have F1 := Four.new (w.alloc (.cells #[.slice ao xs.length cap, .int .i64 m, .int .i64 g, .int .i64 s] 25)) 25 (.slice none 0 0) (.int .i64 0) (.int .i64 0) (.int .i64 0)
  simp at F1
  have HF0 := Lib.hid F0
  have HF1 := Lib.hid F1
  clear F0 F1
  cases hv : vcB xs m g s
  all_goals
    have HV := Lib.hid hv
    clear hv
    go_wp2_with fail
    refine (svc_v _ (h0.out.mono HA.out (Nat.le_refl _)) HV.out).mono ?_
    rintro e w1 ⟨rfl, hb1⟩
    have hs1 := hb1.size
    simp at hs1 hb1
    have HG0 := Lib.hid (HF0.out.below hb1 (by omega))
    have HG1 := Lib.hid (HF1.out.below hb1 (by omega))
    have HB1 : Hid (Below w.heap.size w w1) := HA.out.trans (hb1.mono (by omega))
    clear hb1
  · have HC := Lib.hid (show rkB xs m g s ks = false by unfold rkB; rw [HV.out]; rfl)
    have HL := Lib.hid (rk_no HC.out)
    obtain ⟨c0, c1, c2, c3⟩ := HG1.out.cells
    obtain ⟨f0, f1, f2, f3⟩ := HG1.out.free
    go_wp2
    exact bodyPost_ret (v := .tuple #[.agg #[.slice none 0 0, .int .i64 0, .int .i64 0, .int .i64 0], .bool false]) (by simp [results, Try.results33, go_sem, c0, c1, c2, c3]) rfl ⟨_, ret_cb rfl (HL.out.2 _).symm (HL.out.2 _).symm (HL.out.2 _).symm HC.out.symm, by rw [HL.out.1]; exact OwnI_nil _ _ _, by
      iterate 4 refine Below.setCell ?_ (by simp) _
      exact HB1.out⟩
  · by_cases h40 : ks.length ≤ 40
    · have hz40 : ¬ ((40 : Int) < (ks.length : Int)) := by omega
      have HY := Lib.hid (vc_yes HV.out)
      have hl := valid_len HY.out.1
      obtain ⟨a0, a1, a2, a3⟩ := HG0.out.cells
      have hbA : Below w1.heap.size w1 (w1.alloc (.cells #[.slice ao xs.length cap, .int .i64 m, .int .i64 g, .int .i64 s] 25)) := (Below.refl _ _).alloc (Nat.le_refl _) _
      have HO0 := Lib.hid (Four.new w1 25 (.slice ao xs.length cap) (.int .i64 m) (.int .i64 g) (.int .i64 s))
      have HR0 := Lib.hid (HG1.out.below hbA HG1.out.lt)
      have HB0 := Lib.hid (HB1.out.trans (hbA.mono HB1.out.size))
      have HI0 := Lib.hid (h0.out.mono HB0.out (Nat.le_refl _))
      have HRV : Hid (rcV m (xs, g, s)) := HV.out
      have hob : w.heap.size + 1 < w1.heap.size := by omega
      go_wp2_with fail
      clear a0 a1 a2 a3 hbA
      go_loopw [7] (fun i wr => ∃ (k : Nat) (t : Run) (v : Value), k ≤ ks.length ∧ i = .int .i64 k ∧ Hid (t = rcR m (xs, g, s) (ks.take k)) ∧ Hid (rcV m t) ∧ Hid ((ks.take k).all keyB = true) ∧ Hid (Items wr v t.1) ∧ Hid (Four wr w1.heap.size 25 v (.int .i64 m) (.int .i64 t.2.1) (.int .i64 t.2.2)) ∧ Hid (Four wr (w.heap.size + 1) 25 (.slice none 0 0) (.int .i64 0) (.int .i64 0) (.int .i64 0)) ∧ Hid (Below w.heap.size w wr)) (fun i _ => ks.length - (intOf i).toNat)
      case atStart => exact ⟨0, (xs, g, s), _, Nat.zero_le _, rfl, rfl, HRV, rfl, HI0, HO0, HR0, HB0⟩
      case round =>
        obtain ⟨k, t, vr, hk, rfl, HT, HV2, HA2, HI, HO, HR, HB⟩ := hrel
        obtain ⟨vo, vc, rfl⟩ := HI.out.shapeR
        by_cases hlt : k < ks.length
        · obtain ⟨b, o, cap', e, hb, hc, hks⟩ := hT.out.at hlt
          simp only [Value.slice.injEq] at e
          obtain ⟨rfl, _, rfl⟩ := e
          have c1 := (HB.out.cell (p := ⟨b, _, none⟩) hb).trans hc
          have HCK := Lib.hid hc
          clear hc
          cases hkb : keyB ks[k]
          all_goals
            have HKB := Lib.hid hkb
            clear hkb
            go_wp2_with fail
            refine (validKey_v _ hks HKB.out).mono ?_
            rintro e w3 ⟨rfl, hw3⟩
            rw [hw3]
            clear hw3
          · have HC := Lib.hid (rk_key (xs := xs) (m := m) (g := g) (s := s) hlt HKB.out)
            have HL := Lib.hid (rk_no HC.out)
            obtain ⟨c0, c1', c2, c3⟩ := HR.out.cells
            obtain ⟨f0, f1, f2, f3⟩ := HR.out.free
            go_wp2
            exact bodyPost_ret (v := .tuple #[.agg #[.slice none 0 0, .int .i64 0, .int .i64 0, .int .i64 0], .bool false]) (by simp [results, Try.results33, go_sem, c0, c1', c2, c3]) rfl ⟨_, ret_cb rfl (HL.out.2 _).symm (HL.out.2 _).symm (HL.out.2 _).symm HC.out.symm, by rw [HL.out.1]; exact OwnI_nil _ _ _, by
              iterate 4 refine Below.setCell ?_ (by simp) _
              exact HB.out⟩
          · have hbd := rc_bd HV2.out
            have HNX := rc_next HV2.out HKB.out
            have HTX : Hid (rcStep m t ks[k] = rcR m (xs, g, s) (ks.take (k + 1))) := by unfold Hid; rw [rcR_take hlt, ← HT.out]
            have HVX := Lib.hid HNX
            have HAX := all_keys_step hlt HA2 HKB
            clear HNX
            obtain ⟨d0, d1, d2, d3⟩ := HO.out.cells
            have hbz : Below wr.heap.size wr (wr.alloc (.cells #[.slice none 0 0, .int .i64 0, .int .i64 0, .int .i64 0] 25)) := (Below.refl _ _).alloc (Nat.le_refl _) _
            have c1a := (hbz.cell (p := ⟨b, o + k, none⟩) (Nat.lt_of_lt_of_le hb (by have := HB.out.size; omega))).trans c1
            obtain ⟨da0, da1, da2, da3⟩ := (HO.out.below hbz HO.out.lt).cells
            go_wp2_with fail
            go_region_law (first
              | (go_simp; go_at_call 67; refine (slook_any _ t.1 m t.2.1 t.2.2 ks[k] _ (by first | exact Items.drew HI.out | exact Items.drew (HI.out.mono ((Below.refl _ _).alloc (Nat.le_refl _) _) (Nat.le_refl _))) (by omega) hbd.2.2.2.1 hbd.2.2.2.2).mono ?_; rintro e w4 ⟨v4, rfl, ho4, hb4⟩; obtain ⟨xo, xcap, rfl, _, _⟩ := own_slice ho4.1; have hbw : Below wr.heap.size wr w4 := (by first | exact Below.undrew hb4 | exact ((Below.refl wr.heap.size wr).alloc (Nat.le_refl _) _).trans ((Below.undrew hb4).mono (by simp))); (try (have hz4 := (Four.new wr 25 (.slice none 0 0) (.int .i64 0) (.int .i64 0) (.int .i64 0)).below (Below.undrew hb4) (by simp); obtain ⟨z0, z1, z2, z3⟩ := hz4.cells; obtain ⟨y0, y1, y2, y3⟩ := hz4.free))))
            all_goals
              first
                | (
                  have hne4 := own_ne ho4.1 hz4 (by decide)
                  have HNX := Lib.hid (hz4.all (.slice xo (lkI t.1 ks[k]).length xcap) (.int .i64 m) (.int .i64 (lkG t.1 ks[k] t.2.1)) (.int .i64 (lkS t.1 ks[k] t.2.2)))
                  have hkX := set4_keeps w4 wr.heap.size (.slice xo (lkI t.1 ks[k]).length xcap) (.int .i64 m) (.int .i64 (lkG t.1 ks[k] t.2.1)) (.int .i64 (lkS t.1 ks[k] t.2.2))
                  have HOX := Lib.hid (((HO.out.below hbw HO.out.lt)).keeps hkX (by have := HO.out.lt; omega))
                  have HRX := Lib.hid (((HR.out.below hbw HR.out.lt)).keeps hkX (by have := HR.out.lt; omega))
                  have HIX := Lib.hid ((ho4.keepK hkX (fun j hj e => hne4 (by rw [hj, e]))).base (show wr.heap.size ≤ _ by simp))
                  have HBX := Lib.hid (set4_below (HB.out.trans (hbw.mono HB.out.size)) HB.out.size (.slice xo (lkI t.1 ks[k]).length xcap) (.int .i64 m) (.int .i64 (lkG t.1 ks[k] t.2.1)) (.int .i64 (lkS t.1 ks[k] t.2.2)))
                  have hnb : w1.heap.size < wr.heap.size := HO.out.lt
                  clear z0 z1 z2 z3 y0 y1 y2 y3 hz4 hne4 hkX
                  unfold set4 at *
                  generalize (((w4.setCell ⟨wr.heap.size, 0, none⟩ (.slice xo (lkI t.1 ks[k]).length xcap)).setCell ⟨wr.heap.size, 1, none⟩ (.int .i64 m)).setCell ⟨wr.heap.size, 2, none⟩ (.int .i64 (lkG t.1 ks[k] t.2.1))).setCell ⟨wr.heap.size, 3, none⟩ (.int .i64 (lkS t.1 ks[k] t.2.2)) = X at *
                  clear hb4 ho4 d0 d1 d2 d3 da0 da1 da2 da3 c1a hbz c1 hbw
                  have c1 := (HBX.out.cell (p := ⟨b, o + k, none⟩) hb).trans HCK.out
                  cases hh : hasI t.1 ks[k]
                  · have HHX := Lib.hid (rc_hasnt (m := m) hh)
                    clear hh
                    obtain ⟨n0, n1, n2, n3⟩ := HNX.out.cells
                    go_wp2_with fail
                    go_region_law (first
                      | (go_simp; go_at_call 77; refine (sstore_any _ (lkI t.1 ks[k]) m _ _ ks[k] 1 _ (Items.drew HIX.out.items) hks ⟨by omega, by omega⟩ hbd.2.2.1 (by rw [lk_len]; exact hbd.2.1)).mono ?_; rintro e w5 ⟨v5, V, ys, rfl, ho5, hrd, hb5⟩; obtain ⟨yo, yL, yc, rfl⟩ : ∃ yo yL yc, v5 = .slice yo yL yc := (by obtain ⟨a1, a2, e⟩ := (hrd.out _ ho5.items).shapeR; exact ⟨a1, _, a2, e⟩); have hN5 := HNX.out.below (Below.undrew hb5) HNX.out.lt; obtain ⟨r0, r1, r2, r3⟩ := hN5.cells; obtain ⟨s0, s1, s2, s3⟩ := hN5.free))
                    all_goals
                      have hbu := Below.undrew hb5
                      have hneV := own_ne ho5.1 hN5 (by decide)
                      have hkY := set4_keeps w5 wr.heap.size (.slice yo yL yc) (.int .i64 m) (.int .i64 (lkG t.1 ks[k] t.2.1)) (.int .i64 (lkS t.1 ks[k] t.2.2))
                      have HNY := Lib.hid (hN5.all (.slice yo yL yc) (.int .i64 m) (.int .i64 (lkG t.1 ks[k] t.2.1)) (.int .i64 (lkS t.1 ks[k] t.2.2)))
                      have HOY := Lib.hid ((HOX.out.below hbu HOX.out.lt).keeps hkY (by omega))
                      have HRY := Lib.hid ((HRX.out.below hbu HRX.out.lt).keeps hkY (by omega))
                      have HVY := Lib.hid (ho5.keepK hkY (fun j hj e => hneV (by rw [hj, e])))
                      have HBY := Lib.hid (set4_below (HBX.out.trans (hbu.mono HBX.out.size)) (show w.heap.size ≤ wr.heap.size by omega) (.slice yo yL yc) (.int .i64 m) (.int .i64 (lkG t.1 ks[k] t.2.1)) (.int .i64 (lkS t.1 ks[k] t.2.2)))
                      clear hkY hneV hN5 r0 r1 r2 r3 s0 s1 s2 s3 hbu hb5 ho5 n0 n1 n2 n3 c1
                      unfold set4 at *
                      generalize (((w5.setCell ⟨wr.heap.size, 0, none⟩ (.slice yo yL yc)).setCell ⟨wr.heap.size, 1, none⟩ (.int .i64 m)).setCell ⟨wr.heap.size, 2, none⟩ (.int .i64 (lkG t.1 ks[k] t.2.1))).setCell ⟨wr.heap.size, 3, none⟩ (.int .i64 (lkS t.1 ks[k] t.2.2)) = Y at *
                      obtain ⟨n0, n1, n2, n3⟩ := HNY.out.cells
                      obtain ⟨p0, p1, p2, p3⟩ := HOY.out.cells
                      obtain ⟨q0, q1, q2, q3⟩ := HOY.out.free
                      have hneV := own_ne HVY.out.1 HOY.out (by decide)
                      have hkZ := set4_keeps Y w1.heap.size (.slice yo yL yc) (.int .i64 m) (.int .i64 (lkG t.1 ks[k] t.2.1)) (.int .i64 (lkS t.1 ks[k] t.2.2))
                      have HOZ := HOY.out.all (.slice yo yL yc) (.int .i64 m) (.int .i64 (lkG t.1 ks[k] t.2.1)) (.int .i64 (lkS t.1 ks[k] t.2.2))
                      have HRZ := Lib.hid (HRY.out.keeps hkZ (by omega))
                      have HIZ := hrd.out _ (HVY.out.keepK hkZ (fun j hj e => hneV (by rw [hj, e]))).items
                      have HBZ := Lib.hid (set4_below HBY.out (show w.heap.size ≤ w1.heap.size by omega) (.slice yo yL yc) (.int .i64 m) (.int .i64 (lkG t.1 ks[k] t.2.1)) (.int .i64 (lkS t.1 ks[k] t.2.2)))
                      have HOZ' : Hid (Four (set4 Y w1.heap.size (.slice yo yL yc) (.int .i64 m) (.int .i64 (lkG t.1 ks[k] t.2.1)) (.int .i64 (lkS t.1 ks[k] t.2.2))) w1.heap.size 25 (.slice yo yL yc) (.int .i64 m) (.int .i64 (rcStep m t ks[k]).2.1) (.int .i64 (rcStep m t ks[k]).2.2)) := by unfold Hid; rw [HHX.out]; exact HOZ
                      have HIZ' : Hid (Items (set4 Y w1.heap.size (.slice yo yL yc) (.int .i64 m) (.int .i64 (lkG t.1 ks[k] t.2.1)) (.int .i64 (lkS t.1 ks[k] t.2.2))) (.slice yo yL yc) (rcStep m t ks[k]).1) := by unfold Hid; rw [HHX.out]; exact HIZ
                      clear hneV hkZ HOZ HIZ
                      unfold set4 at *
                      go_wp2
                      go_roundw
                      case rel => exact ⟨k + 1, rcStep m t ks[k], _, by omega, by go_num, HTX, HVX, HAX, HIZ', HOZ', HRZ, HBZ⟩
                      case measure => simp [intOf]; omega
                  · have HHX := Lib.hid (rc_has (m := m) hh)
                    clear hh
                    obtain ⟨n0, n1, n2, n3⟩ := HNX.out.cells
                    obtain ⟨p0, p1, p2, p3⟩ := HOX.out.cells
                    obtain ⟨q0, q1, q2, q3⟩ := HOX.out.free
                    have hneV := own_ne HIX.out.1 HOX.out (by decide)
                    have hkZ := set4_keeps X w1.heap.size (.slice xo (lkI t.1 ks[k]).length xcap) (.int .i64 m) (.int .i64 (lkG t.1 ks[k] t.2.1)) (.int .i64 (lkS t.1 ks[k] t.2.2))
                    have HOZ := HOX.out.all (.slice xo (lkI t.1 ks[k]).length xcap) (.int .i64 m) (.int .i64 (lkG t.1 ks[k] t.2.1)) (.int .i64 (lkS t.1 ks[k] t.2.2))
                    have HRZ := Lib.hid (HRX.out.keeps hkZ (by omega))
                    have HIZ := (HIX.out.keepK hkZ (fun j hj e => hneV (by rw [hj, e]))).items
                    have HBZ := Lib.hid (set4_below HBX.out (show w.heap.size ≤ w1.heap.size by omega) (.slice xo (lkI t.1 ks[k]).length xcap) (.int .i64 m) (.int .i64 (lkG t.1 ks[k] t.2.1)) (.int .i64 (lkS t.1 ks[k] t.2.2)))
                    have HOZ' : Hid (Four (set4 X w1.heap.size (.slice xo (lkI t.1 ks[k]).length xcap) (.int .i64 m) (.int .i64 (lkG t.1 ks[k] t.2.1)) (.int .i64 (lkS t.1 ks[k] t.2.2))) w1.heap.size 25 (.slice xo (lkI t.1 ks[k]).length xcap) (.int .i64 m) (.int .i64 (rcStep m t ks[k]).2.1) (.int .i64 (rcStep m t ks[k]).2.2)) := by unfold Hid; rw [HHX.out]; exact HOZ
                    have HIZ' : Hid (Items (set4 X w1.heap.size (.slice xo (lkI t.1 ks[k]).length xcap) (.int .i64 m) (.int .i64 (lkG t.1 ks[k] t.2.1)) (.int .i64 (lkS t.1 ks[k] t.2.2))) (.slice xo (lkI t.1 ks[k]).length xcap) (rcStep m t ks[k]).1) := by unfold Hid; rw [HHX.out]; exact HIZ
                    clear hneV hkZ HOZ HIZ
                    unfold set4 at *
                    go_wp2
                    go_roundw
                    case rel => exact ⟨k + 1, rcStep m t ks[k], _, by omega, by go_num, HTX, HVX, HAX, HIZ', HOZ', HRZ, HBZ⟩
                    case measure => simp [intOf]; omega)
                | (
                  have hbA4 : Below w4.heap.size w4 (w4.alloc (.cells #[.slice xo (lkI t.1 ks[k]).length xcap, .int .i64 m, .int .i64 (lkG t.1 ks[k] t.2.1), .int .i64 (lkS t.1 ks[k] t.2.2)] 25)) := (Below.refl _ _).alloc (Nat.le_refl _) _
                  have HNX := Lib.hid (Four.new w4 25 (.slice xo (lkI t.1 ks[k]).length xcap) (.int .i64 m) (.int .i64 (lkG t.1 ks[k] t.2.1)) (.int .i64 (lkS t.1 ks[k] t.2.2)))
                  have hbX : Below wr.heap.size wr (w4.alloc (.cells #[.slice xo (lkI t.1 ks[k]).length xcap, .int .i64 m, .int .i64 (lkG t.1 ks[k] t.2.1), .int .i64 (lkS t.1 ks[k] t.2.2)] 25)) := hbw.trans (hbA4.mono hbw.size)
                  have HOX := Lib.hid (HO.out.below hbX HO.out.lt)
                  have HRX := Lib.hid (HR.out.below hbX HR.out.lt)
                  have HIX := Lib.hid ((ho4.below hbA4 (Nat.le_refl _)))
                  have HBX := Lib.hid (HB.out.trans (hbX.mono HB.out.size))
                  have hnb : w1.heap.size < w4.heap.size := Nat.lt_of_lt_of_le HO.out.lt hbw.size
                  clear hbA4 hbX
                  generalize w4.alloc (.cells #[.slice xo (lkI t.1 ks[k]).length xcap, .int .i64 m, .int .i64 (lkG t.1 ks[k] t.2.1), .int .i64 (lkS t.1 ks[k] t.2.2)] 25) = X at *
                  clear hb4 ho4 d0 d1 d2 d3 da0 da1 da2 da3 c1a hbz c1 hbw
                  have c1 := (HBX.out.cell (p := ⟨b, o + k, none⟩) hb).trans HCK.out
                  cases hh : hasI t.1 ks[k]
                  · have HHX := Lib.hid (rc_hasnt (m := m) hh)
                    clear hh
                    obtain ⟨n0, n1, n2, n3⟩ := HNX.out.cells
                    go_wp2_with fail
                    go_region_law (first
                      | (go_simp; go_at_call 77; refine (sstore_any _ (lkI t.1 ks[k]) m _ _ ks[k] 1 _ (Items.drew HIX.out.items) hks ⟨by omega, by omega⟩ hbd.2.2.1 (by rw [lk_len]; exact hbd.2.1)).mono ?_; rintro e w5 ⟨v5, V, ys, rfl, ho5, hrd, hb5⟩; obtain ⟨yo, yL, yc, rfl⟩ : ∃ yo yL yc, v5 = .slice yo yL yc := (by obtain ⟨a1, a2, e⟩ := (hrd.out _ ho5.items).shapeR; exact ⟨a1, _, a2, e⟩); have hN5 := HNX.out.below (Below.undrew hb5) HNX.out.lt; obtain ⟨r0, r1, r2, r3⟩ := hN5.cells; obtain ⟨s0, s1, s2, s3⟩ := hN5.free))
                    all_goals
                      have hbu := Below.undrew hb5
                      have hneV := own_ne ho5.1 hN5 (by decide)
                      have hkY := set4_keeps w5 w4.heap.size (.slice yo yL yc) (.int .i64 m) (.int .i64 (lkG t.1 ks[k] t.2.1)) (.int .i64 (lkS t.1 ks[k] t.2.2))
                      have HNY := Lib.hid (hN5.all (.slice yo yL yc) (.int .i64 m) (.int .i64 (lkG t.1 ks[k] t.2.1)) (.int .i64 (lkS t.1 ks[k] t.2.2)))
                      have HOY := Lib.hid ((HOX.out.below hbu HOX.out.lt).keeps hkY (by omega))
                      have HRY := Lib.hid ((HRX.out.below hbu HRX.out.lt).keeps hkY (by omega))
                      have HVY := Lib.hid (ho5.keepK hkY (fun j hj e => hneV (by rw [hj, e])))
                      have HBY := Lib.hid (set4_below (HBX.out.trans (hbu.mono HBX.out.size)) (show w.heap.size ≤ w4.heap.size by omega) (.slice yo yL yc) (.int .i64 m) (.int .i64 (lkG t.1 ks[k] t.2.1)) (.int .i64 (lkS t.1 ks[k] t.2.2)))
                      clear hkY hneV hN5 r0 r1 r2 r3 s0 s1 s2 s3 hbu hb5 ho5 n0 n1 n2 n3 c1
                      unfold set4 at *
                      generalize (((w5.setCell ⟨w4.heap.size, 0, none⟩ (.slice yo yL yc)).setCell ⟨w4.heap.size, 1, none⟩ (.int .i64 m)).setCell ⟨w4.heap.size, 2, none⟩ (.int .i64 (lkG t.1 ks[k] t.2.1))).setCell ⟨w4.heap.size, 3, none⟩ (.int .i64 (lkS t.1 ks[k] t.2.2)) = Y at *
                      obtain ⟨n0, n1, n2, n3⟩ := HNY.out.cells
                      obtain ⟨p0, p1, p2, p3⟩ := HOY.out.cells
                      obtain ⟨q0, q1, q2, q3⟩ := HOY.out.free
                      have hneV := own_ne HVY.out.1 HOY.out (by decide)
                      have hkZ := set4_keeps Y w1.heap.size (.slice yo yL yc) (.int .i64 m) (.int .i64 (lkG t.1 ks[k] t.2.1)) (.int .i64 (lkS t.1 ks[k] t.2.2))
                      have HOZ := HOY.out.all (.slice yo yL yc) (.int .i64 m) (.int .i64 (lkG t.1 ks[k] t.2.1)) (.int .i64 (lkS t.1 ks[k] t.2.2))
                      have HRZ := Lib.hid (HRY.out.keeps hkZ (by omega))
                      have HIZ := hrd.out _ (HVY.out.keepK hkZ (fun j hj e => hneV (by rw [hj, e]))).items
                      have HBZ := Lib.hid (set4_below HBY.out (show w.heap.size ≤ w1.heap.size by omega) (.slice yo yL yc) (.int .i64 m) (.int .i64 (lkG t.1 ks[k] t.2.1)) (.int .i64 (lkS t.1 ks[k] t.2.2)))
                      have HOZ' : Hid (Four (set4 Y w1.heap.size (.slice yo yL yc) (.int .i64 m) (.int .i64 (lkG t.1 ks[k] t.2.1)) (.int .i64 (lkS t.1 ks[k] t.2.2))) w1.heap.size 25 (.slice yo yL yc) (.int .i64 m) (.int .i64 (rcStep m t ks[k]).2.1) (.int .i64 (rcStep m t ks[k]).2.2)) := by unfold Hid; rw [HHX.out]; exact HOZ
                      have HIZ' : Hid (Items (set4 Y w1.heap.size (.slice yo yL yc) (.int .i64 m) (.int .i64 (lkG t.1 ks[k] t.2.1)) (.int .i64 (lkS t.1 ks[k] t.2.2))) (.slice yo yL yc) (rcStep m t ks[k]).1) := by unfold Hid; rw [HHX.out]; exact HIZ
                      clear hneV hkZ HOZ HIZ
                      unfold set4 at *
                      go_wp2
                      go_roundw
                      case rel => exact ⟨k + 1, rcStep m t ks[k], _, by omega, by go_num, HTX, HVX, HAX, HIZ', HOZ', HRZ, HBZ⟩
                      case measure => simp [intOf]; omega
                  · have HHX := Lib.hid (rc_has (m := m) hh)
                    clear hh
                    obtain ⟨n0, n1, n2, n3⟩ := HNX.out.cells
                    obtain ⟨p0, p1, p2, p3⟩ := HOX.out.cells
                    obtain ⟨q0, q1, q2, q3⟩ := HOX.out.free
                    have hneV := own_ne HIX.out.1 HOX.out (by decide)
                    have hkZ := set4_keeps X w1.heap.size (.slice xo (lkI t.1 ks[k]).length xcap) (.int .i64 m) (.int .i64 (lkG t.1 ks[k] t.2.1)) (.int .i64 (lkS t.1 ks[k] t.2.2))
                    have HOZ := HOX.out.all (.slice xo (lkI t.1 ks[k]).length xcap) (.int .i64 m) (.int .i64 (lkG t.1 ks[k] t.2.1)) (.int .i64 (lkS t.1 ks[k] t.2.2))
                    have HRZ := Lib.hid (HRX.out.keeps hkZ (by omega))
                    have HIZ := (HIX.out.keepK hkZ (fun j hj e => hneV (by rw [hj, e]))).items
                    have HBZ := Lib.hid (set4_below HBX.out (show w.heap.size ≤ w1.heap.size by omega) (.slice xo (lkI t.1 ks[k]).length xcap) (.int .i64 m) (.int .i64 (lkG t.1 ks[k] t.2.1)) (.int .i64 (lkS t.1 ks[k] t.2.2)))
                    have HOZ' : Hid (Four (set4 X w1.heap.size (.slice xo (lkI t.1 ks[k]).length xcap) (.int .i64 m) (.int .i64 (lkG t.1 ks[k] t.2.1)) (.int .i64 (lkS t.1 ks[k] t.2.2))) w1.heap.size 25 (.slice xo (lkI t.1 ks[k]).length xcap) (.int .i64 m) (.int .i64 (rcStep m t ks[k]).2.1) (.int .i64 (rcStep m t ks[k]).2.2)) := by unfold Hid; rw [HHX.out]; exact HOZ
                    have HIZ' : Hid (Items (set4 X w1.heap.size (.slice xo (lkI t.1 ks[k]).length xcap) (.int .i64 m) (.int .i64 (lkG t.1 ks[k] t.2.1)) (.int .i64 (lkS t.1 ks[k] t.2.2))) (.slice xo (lkI t.1 ks[k]).length xcap) (rcStep m t ks[k]).1) := by unfold Hid; rw [HHX.out]; exact HIZ
                    clear hneV hkZ HOZ HIZ
                    unfold set4 at *
                    go_wp2
                    go_roundw
                    case rel => exact ⟨k + 1, rcStep m t ks[k], _, by omega, by go_num, HTX, HVX, HAX, HIZ', HOZ', HRZ, HBZ⟩
                    case measure => simp [intOf]; omega)
        · obtain rfl : k = ks.length := by omega
          have hbd := rc_bd HV2.out
          have hAA := HA2.out
          rw [List.take_length] at hAA
          have hTT := HT.out
          rw [List.take_length] at hTT
          have HC := Lib.hid (show rkB xs m g s ks = true by unfold rkB; rw [HV.out, hAA]; simp; exact h40)
          have HL := Lib.hid (rk_yes HC.out)
          have HTT := Lib.hid hTT
          clear hAA hTT
          obtain ⟨d0, d1, d2, d3⟩ := HO.out.cells
          go_wp2_with fail
          refine (copyC_any _ t.1 m t.2.1 t.2.2 _ HI.out (by omega)).mono ?_
          rintro e w4 ⟨v4, rfl, ho4, hb4⟩
          have hne4 := own_ne ho4.1 (HR.out.below hb4 HR.out.lt) (by decide)
          have HR4 := HR.out.below hb4 HR.out.lt
          obtain ⟨c0, c1, c2, c3⟩ := HR4.cells
          obtain ⟨f0, f1, f2, f3⟩ := HR4.free
          obtain ⟨xo, xcap, rfl, _, _⟩ := own_slice ho4.1
          have HN4 := Lib.hid hne4
          have HO4 := Lib.hid ho4
          have HB4 := Lib.hid (HB.out.trans (hb4.mono HB.out.size))
          clear ho4 hb4 HR4 d0 d1 d2 d3 hne4
          go_wp2
          exact bodyPost_ret (v := .tuple #[.agg #[.slice xo t.1.length xcap, .int .i64 m, .int .i64 t.2.1, .int .i64 t.2.2], .bool true]) (by simp [results, Try.results33, go_sem, c0, c1, c2, c3]) rfl ⟨_, ret_cb rfl (HL.out.2 _).symm (by rw [HL.out.2, HTT.out]) (by rw [HL.out.2, HTT.out]) HC.out.symm, by
            rw [HL.out.1, ← HTT.out]
            refine (HO4.out.keepK (K := fun j => j ≠ w.heap.size + 1) ?_ (fun j hj e => HN4.out (by rw [hj, e]))).base HB.out.size
            iterate 4 refine Keeps.setCell ?_ (by simp) _
            exact Keeps.refl _ _, by
            iterate 4 refine Below.setCell ?_ (by simp) _
            exact HB4.out⟩
    · have hz40 : (40 : Int) < (ks.length : Int) := by omega
      have HC := Lib.hid (show rkB xs m g s ks = false by unfold rkB; rw [decide_eq_false h40]; simp)
      have HL := Lib.hid (rk_no HC.out)
      obtain ⟨c0, c1, c2, c3⟩ := HG1.out.cells
      obtain ⟨f0, f1, f2, f3⟩ := HG1.out.free
      go_wp2
      exact bodyPost_ret (v := .tuple #[.agg #[.slice none 0 0, .int .i64 0, .int .i64 0, .int .i64 0], .bool false]) (by simp [results, Try.results33, go_sem, c0, c1, c2, c3]) rfl ⟨_, ret_cb rfl (HL.out.2 _).symm (HL.out.2 _).symm (HL.out.2 _).symm HC.out.symm, by rw [HL.out.1]; exact OwnI_nil _ _ _, by
        iterate 4 refine Below.setCell ?_ (by simp) _
        exact HB1.out⟩
end Go.Proofs.Ytlclhdolcokipaa
/-
  Runs of caches, reckoned.
-/
namespace Go.Proofs.Ytlclhdolcokipaa
open Go.RowKit

theorem up_le (n : Int) : upN n ≤ 9999 := by unfold upN; omega
theorem up_ge {n : Int} (h : n ≤ 9999) : n ≤ upN n := by unfold upN; omega
theorem up_one {n : Int} : upN n = n + 1 ∨ upN n = 9999 := by unfold upN; omega
theorem rc_sum (m : Int) : ∀ (ks : List ByteArray) (t : Run), t.2.1 ≤ 9999 → t.2.2 ≤ 9999 → (t.2.1 ≤ (rcR m t ks).2.1 ∧ (rcR m t ks).2.1 ≤ 9999) ∧ (t.2.2 ≤ (rcR m t ks).2.2 ∧ (rcR m t ks).2.2 ≤ 9999) ∧ ((rcR m t ks).2.1 + (rcR m t ks).2.2 = t.2.1 + t.2.2 + (ks.length : Int) ∨ (rcR m t ks).2.1 = 9999 ∨ (rcR m t ks).2.2 = 9999)
  | [], t, h1, h2 => ⟨⟨Int.le_refl _, h1⟩, ⟨Int.le_refl _, h2⟩, .inl (by show t.2.1 + t.2.2 = _; simp)⟩
  | k :: ks, t, h1, h2 => by
    have e : rcR m t (k :: ks) = rcR m (rcStep m t k) ks := rfl
    have g1 : (rcStep m t k).2.1 ≤ 9999 ∧ t.2.1 ≤ (rcStep m t k).2.1 ∧ (rcStep m t k).2.2 ≤ 9999 ∧ t.2.2 ≤ (rcStep m t k).2.2 ∧ ((rcStep m t k).2.1 + (rcStep m t k).2.2 = t.2.1 + t.2.2 + 1 ∨ (rcStep m t k).2.1 = 9999 ∨ (rcStep m t k).2.2 = 9999) := by
      have u1 := up_le t.2.1
      have u2 := up_le t.2.2
      have u3 := up_ge h1
      have u4 := up_ge h2
      have u5 := up_one (n := t.2.1)
      have u6 := up_one (n := t.2.2)
      cases hh : hasI t.1 k
      · have e1 : (rcStep m t k).2.1 = t.2.1 := by show lkG t.1 k t.2.1 = _; unfold lkG; rw [hh]; rfl
        have e2 : (rcStep m t k).2.2 = upN t.2.2 := by show lkS t.1 k t.2.2 = _; unfold lkS; rw [hh]; rfl
        rw [e1, e2]
        omega
      · have e1 : (rcStep m t k).2.1 = upN t.2.1 := by show lkG t.1 k t.2.1 = _; unfold lkG; rw [hh]; rfl
        have e2 : (rcStep m t k).2.2 = t.2.2 := by show lkS t.1 k t.2.2 = _; unfold lkS; rw [hh]; rfl
        rw [e1, e2]
        omega
    have ih := rc_sum m ks (rcStep m t k) g1.1 g1.2.2.1
    rw [e]
    simp only [List.length_cons, Int.natCast_add, Int.cast_ofNat_Int]
    omega
theorem rci_last (m : Int) (ys : List Itm) (k : ByteArray) (hm : 1 ≤ m) : ∃ r n, rcI m ys k = r ++ [(k, n)] := by
  unfold rcI
  split
  · rename_i hh
    refine ⟨delI ys k, cnt ys k, ?_⟩
    unfold lkI
    rw [if_pos hh]
    rfl
  · obtain ⟨r, e⟩ := stI_last (lkI ys k) m k 1 hm
    exact ⟨r, 1, e⟩
theorem rc_last {m : Int} (hm : 1 ≤ m) (t : Run) {ks : List ByteArray} {j : Nat} (hj : ks.length = j + 1) : ∃ p, ∃ hp : p < (rcR m t ks).1.length, (rcR m t ks).1.length = p + 1 ∧ (rcR m t ks).1[p].1 = ks[j]'(by omega) := by
  have e : rcR m t ks = rcStep m (rcR m t (ks.take j)) (ks[j]'(by omega)) := by
    have h1 := rcR_take (m := m) (t := t) (ks := ks) (k := j) (by omega)
    rw [List.take_of_length_le (by omega)] at h1
    exact h1
  obtain ⟨r, n, e2⟩ := rci_last m (rcR m t (ks.take j)).1 (ks[j]'(by omega)) hm
  have e3 : (rcR m t ks).1 = r ++ [(ks[j]'(by omega), n)] := by rw [e]; exact e2
  simp only [e3]
  exact ⟨r.length, by simp, by simp, by simp⟩
theorem rk_parts {xs : List Itm} {m g s : Int} {ks : List ByteArray} (h : rkB xs m g s ks = true) : vcB xs m g s = true ∧ ks.length ≤ 40 ∧ ks.all keyB = true := by
  unfold rkB at h
  simp only [Bool.and_eq_true, decide_eq_true_eq] at h
  exact ⟨h.1.1, h.1.2, h.2⟩

end Go.Proofs.Ytlclhdolcokipaa
/-
  A wider cache has what a narrower one has: reckoned.
-/
namespace Go.Proofs.Ytlclhdolcokipaa
open Go.RowKit

/-- A key left out. -/
def era : List ByteArray → ByteArray → List ByteArray
  | [], _ => []
  | x :: r, k => if x = k then r else x :: era r k
theorem era_left {k : ByteArray} (L : List ByteArray) : ∀ A : List ByteArray, k ∈ A → era (A ++ L) k = era A k ++ L
  | [], h => by cases h
  | x :: r, h => by
    show (if x = k then r ++ L else x :: era (r ++ L) k) = (if x = k then r else x :: era r k) ++ L
    by_cases hx : x = k
    · rw [if_pos hx, if_pos hx]
    · rw [if_neg hx, if_neg hx, era_left L r (by
        rcases List.mem_cons.1 h with h | h
        · exact absurd h.symm hx
        · exact h)]
      rfl
theorem era_right {k : ByteArray} (L : List ByteArray) : ∀ A : List ByteArray, k ∉ A → era (A ++ L) k = A ++ era L k
  | [], _ => rfl
  | x :: r, h => by
    show (if x = k then r ++ L else x :: era (r ++ L) k) = x :: (r ++ era L k)
    rw [if_neg (fun e => h (by rw [e]; exact List.mem_cons_self)), era_right L r (fun e => h (List.mem_cons_of_mem _ e))]
theorem era_len {k : ByteArray} : ∀ L : List ByteArray, k ∈ L → (era L k).length + 1 = L.length
  | [], h => by cases h
  | x :: r, h => by
    show (if x = k then r else x :: era r k).length + 1 = r.length + 1
    by_cases hx : x = k
    · rw [if_pos hx]
    · rw [if_neg hx, List.length_cons, era_len r (by
        rcases List.mem_cons.1 h with h | h
        · exact absurd h.symm hx
        · exact h)]
theorem keys_del (k : ByteArray) : ∀ l : List Itm, keysL (delI l k) = era (keysL l) k
  | [] => rfl
  | x :: r => by
    show keysL (if x.1 = k then r else x :: delI r k) = (if x.1 = k then keysL r else x.1 :: era (keysL r) k)
    by_cases h : x.1 = k
    · rw [if_pos h, if_pos h]
    · rw [if_neg h, if_neg h, ← keys_del k r]
      rfl
theorem keys_app (a b : List Itm) : keysL (a ++ b) = keysL a ++ keysL b := by unfold keysL; simp
theorem keys_drop (a : List Itm) (n : Nat) : keysL (a.drop n) = (keysL a).drop n := by unfold keysL; simp
theorem keys_len (a : List Itm) : (keysL a).length = a.length := by unfold keysL; simp
theorem rc_has_keys {m : Int} {ys : List Itm} {k : ByteArray} (h : hasI ys k = true) : keysL (rcI m ys k) = era (keysL ys) k ++ [k] := by
  unfold rcI lkI
  rw [if_pos h, if_pos h]
  show keysL (delI ys k ++ [(k, cnt ys k)]) = _
  rw [keys_app, keys_del]
  rfl
theorem rc_miss_keys {m : Int} {ys : List Itm} {k : ByteArray} (h : hasI ys k = false) : keysL (rcI m ys k) = (keysL ys ++ [k]).drop (ys.length + 1 - m.toNat) := by
  have h2 : lkI ys k = ys := by unfold lkI; rw [h]; rfl
  unfold rcI
  rw [h2, if_neg (by rw [h]; simp), st_none h, keys_drop, keys_app]
  rfl
/-- What a narrow run's items are beside a wide one's: their last keys; all of them if the narrow one is not full. -/
def Wide (m : Int) (t u : Run) : Prop := (∃ A, keysL u.1 = A ++ keysL t.1 ∧ (A = [] ∨ (t.1.length : Int) = m)) ∧ t.2.1 ≤ u.2.1 ∧ t.2.1 ≤ 9999 ∧ u.2.1 ≤ 9999
theorem suffix_drop {α : Type} (A L : List α) (a b : Nat) (h : a ≤ L.length) (hb : b ≤ A.length + a) : ∃ B, (A ++ L).drop b = B ++ L.drop a ∧ B.length = A.length + a - b := by
  refine ⟨((A ++ L).take (A.length + a)).drop b, ?_, by rw [List.length_drop, List.length_take, List.length_append]; omega⟩
  have e : A ++ L = (A ++ L).take (A.length + a) ++ L.drop a := by
    have h1 := (List.take_append_drop (A.length + a) (A ++ L)).symm
    have h2 : (A ++ L).drop (A.length + a) = L.drop a := by rw [List.drop_append]; simp [List.drop_eq_nil_of_le]
    rw [h2] at h1
    exact h1
  conv => lhs; rw [e]
  rw [List.drop_append_of_le_length (by rw [List.length_take, List.length_append]; omega)]
theorem wide_step {m : Int} {t u : Run} {k : ByteArray} (hm : 1 ≤ m ∧ m ≤ 8) (ht : rcV m t) (hu : rcV 8 u) (h : Wide m t u) : Wide m (rcStep m t k) (rcStep 8 u k) := by
  obtain ⟨⟨A, hA, hfull⟩, hg, hg1, hg2⟩ := h
  have ht' : vcB t.1 m t.2.1 t.2.2 = true := ht
  have hu' : vcB u.1 8 u.2.1 u.2.2 = true := hu
  have htl := (vc_yes ht').2.2.1
  have hul := (vc_yes hu').2.2.1
  have hnd := uniq_nodup.1 ((validI_iff _).1 (vc_yes hu').1).2.1
  have hlen : u.1.length = A.length + t.1.length := by rw [← keys_len, hA, List.length_append, keys_len]
  have hmem : ∀ l : List Itm, hasI l k = true ↔ k ∈ keysL l := fun l => mem_keys.symm
  have G : ∀ (a b : Int), a ≤ b → b ≤ 9999 → upN a ≤ upN b ∧ upN a ≤ 9999 ∧ upN b ≤ 9999 ∧ a ≤ upN b ∧ a ≤ upN a := fun a b h1 h2 => by unfold upN; omega
  have g1 := G _ _ hg hg2
  cases hht : hasI t.1 k
  · cases hhu : hasI u.1 k
    · -- neither has it
      have e1 : (rcStep m t k).2.1 = t.2.1 := by show lkG t.1 k t.2.1 = _; unfold lkG; rw [hht]; rfl
      have e2 : (rcStep 8 u k).2.1 = u.2.1 := by show lkG u.1 k u.2.1 = _; unfold lkG; rw [hhu]; rfl
      refine ⟨?_, by rw [e1, e2]; exact hg, by rw [e1]; exact hg1, by rw [e2]; exact hg2⟩
      have k1 : keysL (rcStep m t k).1 = (keysL t.1 ++ [k]).drop (t.1.length + 1 - m.toNat) := rc_miss_keys hht
      have k2 : keysL (rcStep 8 u k).1 = (keysL u.1 ++ [k]).drop (u.1.length + 1 - (8 : Int).toNat) := rc_miss_keys hhu
      have ll : (rcStep m t k).1.length = min m.toNat (t.1.length + 1) := by rw [← keys_len, k1, List.length_drop, List.length_append, keys_len]; simp; omega
      rw [hA, List.append_assoc] at k2
      obtain ⟨B, hB, hBl⟩ := suffix_drop A (keysL t.1 ++ [k]) (t.1.length + 1 - m.toNat) (u.1.length + 1 - (8 : Int).toNat) (by rw [List.length_append, keys_len]; simp) (by
        have h8 : (8 : Int).toNat = 8 := rfl
        rcases hfull with rfl | hf
        · simp at hlen; rw [h8]; omega
        · rw [h8]; omega)
      refine ⟨B, by rw [k1, k2, hB], ?_⟩
      have h8 : (8 : Int).toNat = 8 := rfl
      rw [h8] at hBl
      rcases hfull with rfl | hf
      · by_cases hf : (t.1.length : Int) = m
        · right; rw [ll]; omega
        · left
          simp at hlen hBl
          exact List.eq_nil_of_length_eq_zero (by omega)
      · right; rw [ll]; omega
    · -- the wide one alone has it
      have e1 : (rcStep m t k).2.1 = t.2.1 := by show lkG t.1 k t.2.1 = _; unfold lkG; rw [hht]; rfl
      have e2 : (rcStep 8 u k).2.1 = upN u.2.1 := by show lkG u.1 k u.2.1 = _; unfold lkG; rw [hhu]; rfl
      refine ⟨?_, by rw [e1, e2]; exact g1.2.2.2.1, by rw [e1]; exact hg1, by rw [e2]; exact g1.2.2.1⟩
      have k1 : keysL (rcStep m t k).1 = (keysL t.1 ++ [k]).drop (t.1.length + 1 - m.toNat) := rc_miss_keys hht
      have k2 : keysL (rcStep 8 u k).1 = era (keysL u.1) k ++ [k] := rc_has_keys hhu
      have ll : (rcStep m t k).1.length = min m.toNat (t.1.length + 1) := by rw [← keys_len, k1, List.length_drop, List.length_append, keys_len]; simp; omega
      have hkA : k ∈ A := by
        have h1 := (hmem u.1).1 hhu
        rw [hA, List.mem_append] at h1
        rcases h1 with h1 | h1
        · exact h1
        · have := (hmem t.1).2 h1
          rw [hht] at this
          cases this
      have hf : (t.1.length : Int) = m := by
        rcases hfull with rfl | hf
        · cases hkA
        · exact hf
      rw [hA, era_left _ A hkA, List.append_assoc] at k2
      refine ⟨era A k ++ (keysL t.1 ++ [k]).take (t.1.length + 1 - m.toNat), ?_, .inr (by rw [ll]; omega)⟩
      rw [k1, k2, List.append_assoc, List.take_append_drop]
  · -- both have it
    have hin : k ∈ keysL t.1 := (hmem t.1).1 hht
    have hhu : hasI u.1 k = true := (hmem u.1).2 (by rw [hA]; exact List.mem_append_right _ hin)
    have e1 : (rcStep m t k).2.1 = upN t.2.1 := by show lkG t.1 k t.2.1 = _; unfold lkG; rw [hht]; rfl
    have e2 : (rcStep 8 u k).2.1 = upN u.2.1 := by show lkG u.1 k u.2.1 = _; unfold lkG; rw [hhu]; rfl
    refine ⟨?_, by rw [e1, e2]; exact g1.1, by rw [e1]; exact g1.2.1, by rw [e2]; exact g1.2.2.1⟩
    have k1 : keysL (rcStep m t k).1 = era (keysL t.1) k ++ [k] := rc_has_keys hht
    have k2 : keysL (rcStep 8 u k).1 = era (keysL u.1) k ++ [k] := rc_has_keys hhu
    have hnA : k ∉ A := by
      rw [hA, List.nodup_append] at hnd
      exact fun h => hnd.2.2 k h k hin rfl
    have ll : (rcStep m t k).1.length = t.1.length := by
      have hp := era_len _ hin
      rw [keys_len] at hp
      rw [← keys_len, k1, List.length_append]
      simp
      omega
    rw [hA, era_right _ A hnA, List.append_assoc] at k2
    exact ⟨A, by rw [k1, k2], hfull.imp id (fun h => by rw [ll]; exact h)⟩
theorem wide_all {m : Int} (hm : 1 ≤ m ∧ m ≤ 8) : ∀ (ks : List ByteArray) (t u : Run), rcV m t → rcV 8 u → ks.all keyB = true → Wide m t u → Wide m (rcR m t ks) (rcR 8 u ks)
  | [], _, _, _, _, _, h => h
  | k :: ks, t, u, ht, hu, hk, h => by
    rw [List.all_cons, Bool.and_eq_true] at hk
    exact wide_all hm ks _ _ (rc_next ht hk.1) (rc_next hu hk.1) hk.2 (wide_step hm ht hu h)
end Go.Proofs.Ytlclhdolcokipaa
