/-
  Ring4, Ring5, Ring6.
-/
import Derived.LaidEqlPtr
import Derived.Lib.Builder
import Derived.Test.YtlclhdolcokipaaH12
/-
  The program's ring: pushed, moved, looked for, listed, made of a list.
-/
namespace Go.Proofs.Ytlclhdolcokipaa
open Go.RowKit

section
variable {K : Nat → Prop} {w w' : World} {r rt : Nat} {ns : List Nod}

def PushPost (K : Nat → Prop) (r rt : Nat) (ns : List Nod) (x : Itm) (w : World) (e : Ending) (w' : World) : Prop :=
  ∃ a, e = .returned (.pointer (some ⟨a, 0, none⟩)) ∧ RingAt K w' r rt (ns ++ [(a, x)]) ∧ Keeps K w w'

set_option maxHeartbeats 800000 in
theorem push_any (hK : ∀ k, K k → k < w.heap.size) (h : RingAt K w r rt ns) (x : Itm) (hx : okI [x]) (hl : ns.length ≤ 100000) :
    Calls Try.prog 137 #[.pointer (some ⟨r, 0, none⟩), .agg #[.string x.1, .int .i64 x.2]] w (PushPost K r rt ns x w) := by
  have HR := Lib.hid h
  have HKK := Lib.hid hK
  clear h hK
  go_enter Try.func137, Try.ntmps137
  have hb2 : Below w.heap.size w ((w.alloc (.cells #[.string x.1, .int .i64 x.2] 43)).alloc (.cells #[.string x.1, .int .i64 x.2, .pointer none, .pointer none] 139)) := ((Below.refl _ _).alloc (Nat.le_refl _) _).alloc (by simp) _
  have HR2 := Lib.hid (HR.out.below hb2)
  have HB := Lib.hid hb2
  clear hb2
  go_wp2_with fail
  refine (last_any HR2.out).mono ?_
  rintro e w1 ⟨rfl, rfl⟩
  go_wp2_with fail
  have hfree : Free K ((w.alloc (.cells #[.string x.1, .int .i64 x.2] 43)).alloc (.cells #[.string x.1, .int .i64 x.2, .pointer none, .pointer none] 139)) r rt ns (w.heap.size + 1) x := by
    have hlt := HR.out.lt
    refine ⟨⟨.pointer none, .pointer none, ?_⟩, fun hm => by have := hlt.2 _ hm; omega, fun hk => by have := HKK.out _ hk; omega, by have := hlt.1; omega⟩
    unfold NdX
    have := heap_alloc_new (w.alloc (.cells #[.string x.1, .int .i64 x.2] 43)) (.cells #[.string x.1, .int .i64 x.2, .pointer none, .pointer none] 139)
    simpa using this
  have HF := Lib.hid hfree
  clear hfree
  refine (hang_any (l := ns) (r2 := []) (by rw [List.append_nil]; exact HR2.out) (by rw [List.append_nil]; omega) (by rw [List.append_nil]; exact HF.out) hx rfl).mono ?_
  rintro e w2 ⟨rfl, hR, hk2, hs2⟩
  have hk3 : Keeps K w w2 := (Keeps.of_below HB.out HKK.out).trans hk2
  go_wp2
  go_ret
  exact ⟨_, rfl, hR, hk3⟩

def MovedPost (K : Nat → Prop) (r rt : Nat) (ns : List Nod) (w : World) (e : Ending) (w' : World) : Prop :=
  e = .returned (.tuple #[]) ∧ RingAt K w' r rt ns ∧ Keeps K w w' ∧ w.heap.size = w'.heap.size

theorem okI_mid {l r2 : List Nod} {a : Nat} {x : Itm} (h : RingAt K w r rt (l ++ (a, x) :: r2)) : okI [x] := fun y hy => by
  rw [List.mem_singleton.1 hy]
  exact h.ok x (by simp)

theorem moveLast_any {l r2 : List Nod} {a : Nat} {x : Itm} (h : RingAt K w r rt (l ++ (a, x) :: r2)) (hl : (l ++ (a, x) :: r2).length ≤ 100000) :
    Calls Try.prog 69 #[.pointer (some ⟨r, 0, none⟩), .pointer (some ⟨a, 0, none⟩)] w (MovedPost K r rt ((l ++ r2) ++ [(a, x)]) w) := by
  have hx := okI_mid h
  have hl2 : (l ++ r2).length ≤ 100000 := by simp at hl ⊢; omega
  go_enter Try.func69, Try.ntmps69
  go_wp2_with fail
  refine (cut_any h (by omega)).mono ?_
  rintro e w1 ⟨rfl, hR1, hF1, hk1, hs1⟩
  have HS1 := Lib.hid hs1
  clear hs1
  go_wp2_with fail
  refine (last_any hR1).mono ?_
  rintro e w2 ⟨rfl, rfl⟩
  go_wp2_with fail
  refine (hang_any (l := l ++ r2) (r2 := []) (by rw [List.append_nil]; exact hR1) (by rw [List.append_nil]; omega) (by rw [List.append_nil]; exact hF1) hx rfl).mono ?_
  rintro e w2 ⟨rfl, hR2, hk2, hs2⟩
  have HS2 := Lib.hid hs2
  clear hs2
  go_wp2
  go_end0
  exact ⟨rfl, hR2, hk1.trans hk2, HS1.out.trans HS2.out⟩

theorem moveFirst_any {l r2 : List Nod} {a : Nat} {x : Itm} (h : RingAt K w r rt (l ++ (a, x) :: r2)) (hl : (l ++ (a, x) :: r2).length ≤ 100000) :
    Calls Try.prog 70 #[.pointer (some ⟨r, 0, none⟩), .pointer (some ⟨a, 0, none⟩)] w (MovedPost K r rt ((a, x) :: (l ++ r2)) w) := by
  have hx := okI_mid h
  have hl2 : (l ++ r2).length ≤ 100000 := by simp at hl ⊢; omega
  go_enter Try.func70, Try.ntmps70
  go_wp2_with fail
  refine (cut_any h (by omega)).mono ?_
  rintro e w1 ⟨rfl, hR1, hF1, hk1, hs1⟩
  have HS1 := Lib.hid hs1
  have c0 := two_cell0 hR1.head
  clear hs1
  go_wp2_with fail
  refine (hang_any (l := []) (r2 := l ++ r2) hR1 (by rw [List.nil_append]; omega) hF1 hx rfl).mono ?_
  rintro e w2 ⟨rfl, hR2, hk2, hs2⟩
  have HS2 := Lib.hid hs2
  clear hs2
  go_wp2
  go_end0
  exact ⟨rfl, hR2, hk1.trans hk2, HS1.out.trans HS2.out⟩

/-! ### looked for -/
theorem hasKey_any (s : ByteArray) (w : World) : Calls Try.prog 79 #[.string s] w fun e w' => e = .returned (.func (.func 123) #[] #[.pointer (some ⟨w.heap.size, 0, none⟩)]) ∧ w' = w.alloc (.cells #[.string s] 9) := by
  have hmf : ∀ (fn : Fn) (first cap : Array Value) (w : World), (Instr.makeFunc fn first cap).run Try.prog w = .ok (.func fn first cap) w := fun _ _ _ _ => rfl
  go_enter Try.func79, Try.ntmps79
  go_wp2
  go_ret
  exact ⟨rfl, rfl⟩
theorem hasKey1_any (x : Itm) (s : ByteArray) (kb : Nat) (w : World) (hk : w.heap[kb]? = some (.cells #[.string s] 9 (0, 0))) :
    Calls Try.prog 123 #[.agg #[.string x.1, .int .i64 x.2], .pointer (some ⟨kb, 0, none⟩)] w fun e w' => e = .returned (.bool (decide (x.1 = s))) ∧ Below w.heap.size w w' := by
  have c0 := cell_of_one hk
  have hlt := lt_of_block hk
  clear hk
  go_enter Try.func123, Try.ntmps123
  go_wp2
  go_ret
  exact ⟨ret_bool (beq_keys _ _), (Below.refl _ _).alloc (Nat.le_refl _) _⟩

theorem ret_ptr {a b : Option Addr} (h : a = b) : Ending.returned (.pointer a) = .returned (.pointer b) := by rw [h]
def findI : List Nod → ByteArray → Option Addr
  | [], _ => none
  | n :: r, k => if n.2.1 = k then some ⟨n.1, 0, none⟩ else findI r k
theorem hasKey1_v {x : Itm} {s : ByteArray} {kb : Nat} {b : Bool} (w : World) (hk : w.heap[kb]? = some (.cells #[.string s] 9 (0, 0))) (hb : decide (x.1 = s) = b) :
    Calls Try.prog 123 #[.agg #[.string x.1, .int .i64 x.2], .pointer (some ⟨kb, 0, none⟩)] w fun e w' => e = .returned (.bool b) ∧ Below w.heap.size w w' :=
  (hasKey1_any x s kb w hk).mono fun _ _ ⟨he, hw⟩ => ⟨hb ▸ he, hw⟩

theorem chain_at {l r2 : List Nod} {a : Nat} {x : Itm} (h : RingAt K w r rt (l ++ (a, x) :: r2)) : Nd w a x (lstOr rt l) (fstOr r2 rt) := by
  obtain ⟨z, hc⟩ := h.chain
  have e : (rt, z) :: (l ++ (a, x) :: r2) = ((rt, z) :: l) ++ (a, x) :: r2 := rfl
  rw [e, chain_app] at hc
  exact hc.2.1

theorem Try.sizeL : (Try.prog.info? 139).map (·.size) = some 4 := by kernel_rfl
theorem run_neq_ptr_other {P : Program} (w : World) {tp te : TypeId} {j : TypeInfo} {a b : Addr} {ca cb : Array Value} {ta tb : TypeId} (hp : P.underlying tp = some (.pointer te)) (hte : P.info? te = some j) (hsz : j.size ≠ 0)
    (hne : a ≠ b) (ha : w.heap[a.block]? = some (.cells ca ta (0, 0))) (hb : w.heap[b.block]? = some (.cells cb tb (0, 0))) :
    (binOp .neq tp (.pointer (some a)) (.pointer (some b))).run P w = .ok (.bool true) w := by
  have h : ∀ d : Nat, (Op.equalIn (d + 1) tp (.pointer (some a)) (.pointer (some b))).run P w = .ok false w := fun d => by
    simp [Op.equalIn, run_underlying hp, sizeOf, typeInfo, hte, hsz, run_sameAddr_other w hne ha hb]
  simp only [binOp]
  simp [Op.equal, Op.maxDepth, h 9999]
theorem neq_same (w : World) (a : Nat) : (binOp .neq 84 (.pointer (some ⟨a, 0, none⟩)) (.pointer (some ⟨a, 0, none⟩))).run Try.prog w = .ok (.bool false) w := by
  obtain ⟨j, hj, _⟩ : ∃ j, Try.prog.info? 139 = some j ∧ j.size = 4 := by
    have h := Try.sizeL
    cases hj : Try.prog.info? 139 with
    | none => rw [hj] at h; simp at h
    | some j => rw [hj] at h; exact ⟨j, rfl, by simpa using h⟩
  exact Lib.run_neq_ptr_same w _ Try.underlying84 hj
theorem neq_other {w : World} {a b : Nat} {x y : Itm} {p q p' q' : Nat} (hne : a ≠ b) (ha : Nd w a x p q) (hb : Nd w b y p' q') : (binOp .neq 84 (.pointer (some ⟨a, 0, none⟩)) (.pointer (some ⟨b, 0, none⟩))).run Try.prog w = .ok (.bool true) w := by
  obtain ⟨j, hj, hs⟩ : ∃ j, Try.prog.info? 139 = some j ∧ j.size = 4 := by
    have h := Try.sizeL
    cases hj : Try.prog.info? 139 with
    | none => rw [hj] at h; simp at h
    | some j => rw [hj] at h; exact ⟨j, rfl, by simpa using h⟩
  exact run_neq_ptr_other w Try.underlying84 hj (by omega) (fun e => hne (Addr.mk.inj e).1) ha hb

set_option maxHeartbeats 1600000 in
set_option maxRecDepth 100000 in
theorem find_any (h : RingAt K w r rt ns) (s : ByteArray) (kb : Nat) (hkb : w.heap[kb]? = some (.cells #[.string s] 9 (0, 0))) :
    Calls Try.prog 114 #[.pointer (some ⟨r, 0, none⟩), .func (.func 123) #[] #[.pointer (some ⟨kb, 0, none⟩)]] w fun e w' => e = .returned (.pointer (findI ns s)) ∧ Below w.heap.size w w' := by
  have HR := Lib.hid h
  have HKB := Lib.hid hkb
  have hkl := lt_of_block hkb
  clear h hkb
  go_enter Try.func114, Try.ntmps114
  go_wp2_with fail
  refine (first_any HR.out).mono ?_
  rintro e w1 ⟨rfl, rfl⟩
  go_wp2_with fail
  go_loopg [5] ns.length (fun g at' wr => ∃ l r2 : List Nod, Hid (ns = l ++ r2) ∧ at' = .pointer (some ⟨fstOr r2 rt, 0, none⟩) ∧ r2.length ≤ g ∧ Hid (findI ns s = findI r2 s) ∧ Hid (Below w.heap.size w wr))
  case atStart => exact ⟨[], ns, rfl, rfl, Nat.le_refl _, rfl, Below.refl _ _⟩
  case round =>
    obtain ⟨l, r2, HN, rfl, hle, HF, HB⟩ := hrel
    have hRr := HR.out.below HB.out
    have c0 := two_cell0 hRr.head
    cases r2 with
    | nil =>
      have HFF := Lib.hid (show findI ns s = none from HF.out)
      have e0 : fstOr [] rt = rt := rfl
      rw [e0]
      have hq := neq_same wr rt
      clear hRr
      go_wp2
      go_ret
      exact ⟨ret_ptr HFF.out.symm, HB.out⟩
    | cons n r3 =>
      obtain ⟨a, x⟩ := n
      have hnd := chain_at (l := l) (r2 := r3) (a := a) (x := x) (by rw [← HN.out]; exact hRr)
      have hne : a ≠ rt := by
        have := HR.out.nodup
        rw [HN.out] at this
        have h2 := (List.nodup_cons.1 this).1
        intro e
        exact h2 (by rw [← e]; simp)
      have hlt : a < wr.heap.size := lt_of_block hnd
      obtain ⟨d0, d1, d2, d3⟩ := nd_cells hnd
      have e0 : fstOr ((a, x) :: r3) rt = a := rfl
      rw [e0]
      have hkr : wr.heap[kb]? = some (.cells #[.string s] 9 (0, 0)) := (HB.out.block kb hkl).trans HKB.out
      have HKR := Lib.hid hkr
      obtain ⟨zr, hz⟩ := hRr.root
      have hq := neq_other hne hnd hz
      clear hz
      clear hkr hnd hRr d2
      cases hxs : decide (x.1 = s)
      · have HX := Lib.hid hxs
        clear hxs
        go_wp2_with fail
        refine (hasKey1_v _ HKR.out HX.out).mono ?_
        rintro e w2 ⟨rfl, hb2⟩
        have d3' := (hb2.cell (p := ⟨a, 3, none⟩) hlt).trans d3
        have HB2 := Lib.hid (HB.out.trans (hb2.mono HB.out.size))
        have HF2 : Hid (findI ns s = findI r3 s) := by
          unfold Hid
          rw [HF.out]
          show (if x.1 = s then _ else _) = _
          rw [if_neg (by simpa using HX.out)]
        have HN2 : Hid (ns = (l ++ [(a, x)]) ++ r3) := by unfold Hid; rw [HN.out]; simp
        have hle' : r3.length + 1 ≤ gk := by simpa using hle
        clear hb2 d0 d1 d3 hle HB HF HN
        go_wp2
        go_roundg r3.length
        case measure => omega
        case rel => exact ⟨l ++ [(a, x)], r3, HN2, rfl, Nat.le_refl _, HF2, HB2⟩
      · have HX := Lib.hid hxs
        clear hxs
        go_wp2_with fail
        refine (hasKey1_v _ HKR.out HX.out).mono ?_
        rintro e w2 ⟨rfl, hb2⟩
        have HFF := Lib.hid (show findI ns s = some ⟨a, 0, none⟩ by
          rw [HF.out]
          show (if x.1 = s then _ else _) = _
          rw [if_pos (by simpa using HX.out)])
        go_wp2
        go_ret
        exact ⟨ret_ptr HFF.out.symm, HB.out.trans (hb2.mono HB.out.size)⟩
end
end Go.Proofs.Ytlclhdolcokipaa
/-
  The program's ring: listed, made of a list; a key found in it, an item put into it.
-/
namespace Go.Proofs.Ytlclhdolcokipaa
open Go.RowKit

section
variable {K : Nat → Prop} {w w' : World} {r rt : Nat} {ns : List Nod}

theorem its_app (a b : List Nod) : its (a ++ b) = its a ++ its b := by simp
theorem its_len (a : List Nod) : (its a).length = a.length := by simp

set_option maxHeartbeats 1600000 in
set_option maxRecDepth 100000 in
theorem values_any (h : RingAt K w r rt ns) (hl : ns.length ≤ 100000) :
    Calls Try.prog 71 #[.pointer (some ⟨r, 0, none⟩)] w (FreshI (its ns) w) := by
  have HR := Lib.hid h
  have c1 := two_cell1 h.head
  clear h
  obtain ⟨i0, hi, hz0, hz1, hz2⟩ := info_parts Try.infoI
  have hbytes : i0.bytes * ns.length ≤ 281474976710656 := by rw [hz2]; omega
  go_enter Try.func71, Try.ntmps71
  go_wp2_with (at_make; refine wpList_make_own _ rfl _ _ 23 rfl w.heap.size 43 i0 _ 2 Try.underlying23 hi hz0 hz1 _ _ _ ns.length rfl rfl rfl hbytes (by unfold maxLen; omega) (Nat.le_refl _) ?_; intro w1 hown1 hgrow1)
  have hb1 : Below w.heap.size w w1 := (Below.refl _ _).grown hgrow1 (Nat.le_refl _) (fun k hk => by cases hk)
  have hlt0 := (hown1.lt w.heap.size rfl).2
  have HB1 := Lib.hid hb1
  have HO1 := Lib.hid hown1
  clear hgrow1 hown1 hb1 c1
  refine (first_any (HR.out.below HB1.out)).mono ?_
  rintro e w2 ⟨rfl, rfl⟩
  go_wp2_with fail
  go_loopg [3, 4] ns.length (fun g x at' wr => ∃ (l r2 : List Nod), Hid (ns = l ++ r2) ∧ at' = .pointer (some ⟨fstOr r2 rt, 0, none⟩) ∧ r2.length ≤ g ∧ x = .slice (some ⟨w.heap.size, 0, none⟩) l.length ns.length ∧
      Hid (wr.ownsRow w.heap.size 43 2 (.slice (some ⟨w.heap.size, 0, none⟩) l.length ns.length) l.length (cellsI (its l))) ∧ Hid (Below w.heap.size w wr) ∧ w.heap.size < wr.heap.size)
  case atStart => exact ⟨[], ns, rfl, rfl, Nat.le_refl _, rfl, HO1.out, HB1.out, hlt0⟩
  case round =>
    obtain ⟨l, r2, HN, rfl, hle, rfl, HO, HB, hsz⟩ := hrel
    have hRr := HR.out.below HB.out
    have c0 := two_cell0 hRr.head
    cases r2 with
    | nil =>
      have e0 : fstOr [] rt = rt := rfl
      rw [e0]
      have hq := neq_same wr rt
      clear hRr
      go_wp2
      go_ret
      have hn : ns = l := by rw [HN.out]; simp
      refine ⟨_, rfl, ⟨?_, HR.out.ok⟩, HB.out⟩
      have := HO.out
      rw [its_len]
      rw [← hn] at this
      rw [← hn]
      exact this
    | cons n r3 =>
      obtain ⟨a, x⟩ := n
      have hnd := chain_at (l := l) (r2 := r3) (a := a) (x := x) (by rw [← HN.out]; exact hRr)
      have hne : a ≠ rt := by
        have := HR.out.nodup
        rw [HN.out] at this
        have h2 := (List.nodup_cons.1 this).1
        intro e
        exact h2 (by rw [← e]; simp)
      have hlt : a < wr.heap.size := lt_of_block hnd
      have halt : a < w.heap.size := HR.out.lt.2 a (by rw [HN.out]; simp)
      obtain ⟨d0, d1, d2, d3⟩ := nd_cells hnd
      have e0 : fstOr ((a, x) :: r3) rt = a := rfl
      rw [e0]
      obtain ⟨zr, hz⟩ := hRr.root
      have hq := neq_other hne hnd hz
      have hll : l.length < ns.length := by rw [HN.out]; simp
      have HN2 : Hid (ns = (l ++ [(a, x)]) ++ r3) := by unfold Hid; rw [HN.out]; simp
      have hle' : r3.length + 1 ≤ gk := by simpa using hle
      clear hz hnd hRr d2 hle
      go_wp2_with (at_builtin; refine wpList_append_fits _ rfl _ _ 23 rfl w.heap.size 43 i0 2 Try.underlying23 hi hz1 w.heap.size l.length ns.length (cellsI (its l)) rfl (HO.out.alloc _) ⟨wr.heap.size, 0, none⟩ 1 1 [.string x.1, .int .i64 x.2] rfl rfl (cells_two_new _ _ _ _) (by intro u hu; simp at hu; rcases hu with rfl | rfl <;> rfl) (by omega) ?_; intro w2 hrow2 hgrow2; have d3' : w2.cell? ⟨a, 3, none⟩ = some (.pointer (some ⟨fstOr r3 rt, 0, none⟩)) := ((((HB.out.alloc (Nat.le_of_lt hsz) _).grown hgrow2 (by simp; omega) (fun j hj => by cases hj; exact Nat.le_refl _)).cell (p := ⟨a, 3, none⟩) halt).trans (HB.out.cell (p := ⟨a, 3, none⟩) halt).symm).trans d3)
      have hs2 := hgrow2.size
      simp at hs2
      have HB2 := Lib.hid ((HB.out.alloc (Nat.le_of_lt hsz) (.cells #[.string x.1, .int .i64 x.2] 43)).grown hgrow2 (by simp; omega) (fun j hj => by cases hj; exact Nat.le_refl _))
      have HO2 : Hid (w2.ownsRow w.heap.size 43 2 (.slice (some ⟨w.heap.size, 0, none⟩) (l ++ [(a, x)]).length ns.length) (l ++ [(a, x)]).length (cellsI (its (l ++ [(a, x)])))) := by
        unfold Hid
        rw [its_app, List.length_append, show its [(a, x)] = [x] from rfl, cellsI_snoc]
        exact hrow2
      have hll2 : (l ++ [(a, x)]).length = l.length + 1 := by simp
      have HLL := Lib.hid hll2
      clear hrow2 hgrow2 d0 d1 d3 d3' HN HO HB hll2
      go_roundg r3.length
      case measure => omega
      case rel => exact ⟨l ++ [(a, x)], r3, HN2, rfl, Nat.le_refl _, by rw [HLL.out], HO2, HB2, by omega⟩

def RingPost (xs : List Itm) (w : World) (e : Ending) (w' : World) : Prop :=
  ∃ r rt ns, e = .returned (.pointer (some ⟨r, 0, none⟩)) ∧ its ns = xs ∧ RingAt (· < w.heap.size) w' r rt ns ∧ Below w.heap.size w w'

theorem ring_made (w : World) : RingAt (· < w.heap.size) ((w.alloc (.cells #[.string ⟨#[]⟩, .int .i64 0, .pointer (some ⟨w.heap.size, 0, none⟩), .pointer (some ⟨w.heap.size, 0, none⟩)] 139)).alloc (.cells #[.pointer (some ⟨w.heap.size, 0, none⟩), .int .i64 0] 143)) (w.heap.size + 1) w.heap.size [] := by
  refine ⟨?_, ⟨(⟨#[]⟩, 0), ?_, trivial⟩, by simp, ⟨by omega, fun b hb => ?_⟩, fun x hx => by simp at hx⟩
  · have := heap_alloc_new (w.alloc (.cells #[.string ⟨#[]⟩, .int .i64 0, .pointer (some ⟨w.heap.size, 0, none⟩), .pointer (some ⟨w.heap.size, 0, none⟩)] 139)) (.cells #[.pointer (some ⟨w.heap.size, 0, none⟩), .int .i64 0] 143)
    simpa using this
  · show Nd _ _ _ _ _
    unfold Nd
    rw [Below.heap_alloc _ _ _ (by simp), heap_alloc_new]
    rfl
  · have : b = w.heap.size := by simpa using hb
    omega

set_option maxHeartbeats 1600000 in
set_option maxRecDepth 100000 in
theorem ringOf_any (v : Value) (xs : List Itm) (w : World) (h : Items w v xs) (hl : xs.length ≤ 100000) :
    Calls Try.prog 112 #[v] w (RingPost xs w) := by
  have hok := Lib.hid h.ok
  obtain ⟨ao, cap, rfl, hlc, hcm, _, hcell⟩ := h
  go_enter Try.func112, Try.ntmps112
  go_wp2
  go_loopw [22] (fun i wr => ∃ (k : Nat) (ns : List Nod), k ≤ xs.length ∧ i = .int .i64 k ∧ Hid (its ns = xs.take k) ∧ Hid (RingAt (· < w.heap.size) wr (w.heap.size + 1) w.heap.size ns) ∧ Hid (Below w.heap.size w wr)) (fun i _ => xs.length - (intOf i).toNat)
  case atStart =>
    refine ⟨0, [], Nat.zero_le _, rfl, rfl, ?_, ?_⟩
    · exact ring_made w
    · exact ((Below.refl _ _).alloc (Nat.le_refl _) _).alloc (by simp) _
  case round =>
    obtain ⟨k, ns, hk, rfl, HN, HR, HB⟩ := hrel
    by_cases hlt : k < xs.length
    · obtain ⟨b, o, rfl, hb, h1, h2⟩ := hcell k hlt
      have c1 := (HB.out.cell (p := ⟨b, _, none⟩) hb).trans h1
      have c2 := (HB.out.cell (p := ⟨b, _, none⟩) hb).trans h2
      have hx := hok.out _ (List.getElem_mem hlt)
      have hln : ns.length ≤ 100000 := by
        have := congrArg List.length HN.out
        rw [its_len] at this
        have h3 := List.length_take_le k xs
        omega
      have HSB := Lib.hid HB.out.size
      clear h1 h2
      go_wp2_with fail
      have HR1 := Lib.hid (HR.out.below ((Below.refl wr.heap.size wr).alloc (Nat.le_refl _) (.cells #[.string xs[k].1, .int .i64 xs[k].2] 43)))
      refine (push_any (fun j (hj : j < w.heap.size) => Nat.lt_of_lt_of_le hj (size_alloc_le HSB.out _)) HR1.out xs[k] (fun y hy => by rw [List.mem_singleton.1 hy]; exact hx) hln).mono ?_
      rintro e w2 ⟨a, rfl, hR2, hk2⟩
      have HN2 : Hid (its (ns ++ [(a, xs[k])]) = xs.take (k + 1)) := by
        unfold Hid
        rw [its_app, HN.out, List.take_succ_eq_append_getElem hlt]
        rfl
      have HR2 := Lib.hid hR2
      have HB2 := Lib.hid (show Below w.heap.size w w2 from (HB.out.alloc HSB.out _).trans (hk2.below (fun _ h => h)))
      clear hR2 hk2 HR1 HR HN HB c1 c2
      go_wp2
      go_roundw
      case rel => exact ⟨k + 1, ns ++ [(a, xs[k])], by omega, by go_num, HN2, HR2, HB2⟩
      case measure => simp [intOf]; omega
    · obtain rfl : k = xs.length := by omega
      go_wp2
      go_ret
      refine ⟨_, _, ns, rfl, ?_, HR.out, HB.out⟩
      rw [HN.out, List.take_length]
end
end Go.Proofs.Ytlclhdolcokipaa
/-
  The program's ring: a key found in it, an item put into it.
-/
namespace Go.Proofs.Ytlclhdolcokipaa
open Go.RowKit

section
variable {K : Nat → Prop} {w w' : World} {r rt : Nat} {ns : List Nod}

theorem find_no {l : List Nod} {s : ByteArray} (h : hasI (its l) s = false) : findI l s = none := by
  induction l with
  | nil => rfl
  | cons n l ih =>
    simp only [List.map_cons, hasI, Bool.or_eq_false_iff, decide_eq_false_iff_not] at h
    unfold findI
    rw [if_neg h.1]
    exact ih h.2
theorem find_yes {l : List Nod} {s : ByteArray} (h : hasI (its l) s = true) : ∃ p a x q, l = p ++ (a, x) :: q ∧ x.1 = s ∧ hasI (its p) s = false ∧ findI l s = some ⟨a, 0, none⟩ := by
  induction l with
  | nil => simp [hasI] at h
  | cons n l ih =>
    by_cases e : n.2.1 = s
    · exact ⟨[], n.1, n.2, l, rfl, e, rfl, by unfold findI; rw [if_pos e]⟩
    · simp only [List.map_cons, hasI, e, decide_false, Bool.false_or] at h
      obtain ⟨p, a, x, q, rfl, h1, h2, h3⟩ := ih h
      exact ⟨n :: p, a, x, q, rfl, h1, by simp only [List.map_cons, hasI, e, decide_false, Bool.false_or]; exact h2, by unfold findI; rw [if_neg e]; exact h3⟩

/-- Looked for by its key: a block for the key, and the link. -/
theorem look_any (h : RingAt K w r rt ns) (hK : ∀ k, K k → k < w.heap.size) (s : ByteArray) :
    Calls Try.prog 114 #[.pointer (some ⟨r, 0, none⟩), .func (.func 123) #[] #[.pointer (some ⟨w.heap.size, 0, none⟩)]] (w.alloc (.cells #[.string s] 9)) fun e w' => e = .returned (.pointer (findI ns s)) ∧ RingAt K w' r rt ns ∧ Keeps K w w' ∧ Below w.heap.size w w' := by
  have hb : Below w.heap.size w (w.alloc (.cells #[.string s] 9)) := (Below.refl _ _).alloc (Nat.le_refl _) _
  refine (find_any (h.below hb) s w.heap.size (heap_alloc_new _ _)).mono ?_
  rintro e w' ⟨rfl, hb2⟩
  have hb3 := hb.trans (hb2.mono hb.size)
  exact ⟨rfl, h.below hb3, Keeps.of_below hb3 hK, hb3⟩

def PutPost (K : Nat → Prop) (r rt : Nat) (ns : List Nod) (s : ByteArray) (n : Int) (w : World) (e : Ending) (w' : World) : Prop :=
  ∃ p a q, e = .returned (.pointer (some ⟨a, 0, none⟩)) ∧ its (p ++ (a, (s, n)) :: q) = putI (its ns) s n ∧ hasI (its p) s = false ∧ RingAt K w' r rt (p ++ (a, (s, n)) :: q) ∧ Keeps K w w'

theorem ring_val {p q : List Nod} {a : Nat} {x y : Itm} (h : RingAt K w r rt (p ++ (a, x) :: q)) (hy : okI [y]) {j : Nat} {u : Value} (hset : ∀ p q, Nd w a x p q → Nd (w.setCell ⟨a, j, none⟩ u) a y p q) : RingAt K (w.setCell ⟨a, j, none⟩ u) r rt (p ++ (a, y) :: q) := by
  obtain ⟨z, hc⟩ := h.chain
  have hra : r ≠ a := fun e => h.ne (by rw [e]; exact List.mem_cons_of_mem _ (by simp))
  have hb : blk (p ++ (a, y) :: q) = blk (p ++ (a, x) :: q) := by simp
  have hl : lstOr rt (p ++ (a, y) :: q) = lstOr rt (p ++ (a, x) :: q) := by rw [lstOr_app, lstOr_app]; rfl
  refine ⟨?_, ⟨z, ?_⟩, by rw [hb]; exact h.nodup, by rw [hb]; exact h.out, ?_⟩
  · rw [heap_setCell_other _ _ _ _ hra, h.head]
    simp
  · rw [hl]
    exact chain_val (l := (rt, z) :: p) hc h.nodup hset
  · intro v hv
    simp only [List.map_append, List.map_cons, List.mem_append, List.mem_cons] at hv
    rcases hv with e | e | e
    · exact h.ok v (by simp only [List.map_append]; exact List.mem_append_left _ e)
    · exact hy v (by simp [e])
    · exact h.ok v (by simp only [List.map_append, List.map_cons]; exact List.mem_append_right _ (List.mem_cons_of_mem _ e))

set_option maxHeartbeats 1600000 in
set_option maxRecDepth 100000 in
theorem putIn_any (hK : ∀ k, K k → k < w.heap.size) (h : RingAt K w r rt ns) (s : ByteArray) (n : Int) (hx : okI [(s, n)]) (hl : ns.length ≤ 100000) :
    Calls Try.prog 121 #[.pointer (some ⟨r, 0, none⟩), .string s, .int .i64 n] w (PutPost K r rt ns s n w) := by
  have HKK := Lib.hid hK
  clear hK
  go_enter Try.func121, Try.ntmps121
  go_wp2_with fail
  refine (hasKey_any s w).mono ?_
  rintro e w1 ⟨rfl, rfl⟩
  cases hh : hasI (its ns) s
  · have HF := Lib.hid (find_no hh)
    have HH := Lib.hid hh
    clear hh
    go_wp2_with fail
    refine (look_any h HKK.out s).mono ?_
    rw [HF.out]
    rintro e w2 ⟨rfl, hR, hk2, hb2⟩
    have HB := Lib.hid hb2
    have HP := Lib.hid (putI_new (n := n) HH.out)
    clear hb2 h
    go_wp2_with fail
    refine (push_any (fun k hk => Nat.lt_of_lt_of_le (HKK.out k hk) HB.out.size) hR (s, n) hx hl).mono ?_
    rintro e w3 ⟨a, rfl, hR3, hk3⟩
    go_wp2
    go_ret
    exact ⟨ns, a, [], rfl, by rw [HP.out]; simp, HH.out, hR3, hk2.trans hk3⟩
  · obtain ⟨p, a, x, q, rfl, hxs, hp, hf⟩ := find_yes hh
    have HF := Lib.hid hf
    have HX := Lib.hid hxs
    have HP := Lib.hid hp
    clear hh hf hxs hp
    go_wp2_with fail
    refine (look_any h HKK.out s).mono ?_
    rw [HF.out]
    rintro e w2 ⟨rfl, hR, hk2, hb2⟩
    have hnd := chain_at hR
    have c1 := (nd_cells hnd).2.1
    have f1 := nd_free hnd 1
    have hKa : ¬ K a := hR.out.2 a (List.mem_cons_of_mem _ (by simp))
    have HR2 := Lib.hid (ring_val (y := (s, n)) hR hx (j := 1) (u := .int .i64 n) (fun p q hN => by have := nd_set1 hN n; rw [HX.out] at this; exact this))
    clear hb2 h hnd hR
    go_wp2
    go_ret
    refine ⟨p, a, q, rfl, ?_, HP.out, HR2.out, hk2.setCell (a := ⟨a, 1, none⟩) hKa _⟩
    rw [its_app, its_app]
    exact (putI_sp HX.out HP.out n).symm

def FoundPost (xs : List Itm) (s : ByteArray) (w : World) (e : Ending) (w' : World) : Prop :=
  ∃ r rt p a x q, e = .returned (.tuple #[.pointer (some ⟨r, 0, none⟩), .pointer (some ⟨a, 0, none⟩)]) ∧ its (p ++ (a, x) :: q) = xs ∧ x.1 = s ∧ hasI (its p) s = false ∧ RingAt (· < w.heap.size) w' r rt (p ++ (a, x) :: q) ∧ Below w.heap.size w w'
def NotFoundPost (w : World) (e : Ending) (w' : World) : Prop :=
  ∃ v, e = .returned (.tuple #[v, .pointer none]) ∧ Below w.heap.size w w'

set_option maxHeartbeats 1600000 in
set_option maxRecDepth 100000 in
theorem findItem_yes (v : Value) (xs : List Itm) (s : ByteArray) (w : World) (h : Items w v xs) (hv : validI xs = true) (hh : hasI xs s = true) :
    Calls Try.prog 68 #[v, .string s] w (FoundPost xs s w) := by
  have HV := Lib.hid hv
  have HH := Lib.hid hh
  have hl := valid_len hv
  clear hv hh
  go_enter Try.func68, Try.ntmps68
  go_wp2_with fail
  refine (Vi_v _ h HV.out).mono ?_
  rintro e w1 ⟨rfl, hb1⟩
  go_wp2_with fail
  refine (ringOf_any _ _ _ (h.mono hb1 (Nat.le_refl _)) (by omega)).mono ?_
  rintro e w2 ⟨r, rt, ns, rfl, hns, hR, hb2⟩
  subst hns
  obtain ⟨p, a, x, q, rfl, hxs, hp, hf⟩ := find_yes HH.out
  have HF := Lib.hid hf
  have HX := Lib.hid hxs
  have HP := Lib.hid hp
  have HB2 := Lib.hid hb2
  clear hf hxs hp hb2
  go_wp2_with fail
  refine (hasKey_any s w2).mono ?_
  rintro e w3 ⟨rfl, rfl⟩
  go_wp2_with fail
  refine (look_any hR (fun k (hk : k < w1.heap.size) => Nat.lt_of_lt_of_le hk HB2.out.size) s).mono ?_
  rw [HF.out]
  rintro e w4 ⟨rfl, hR4, hk4, hb4⟩
  have hB : Below w.heap.size w w4 := hb1.trans ((HB2.out.trans (hb4.mono HB2.out.size)).mono hb1.size)
  have hR5 : RingAt (· < w.heap.size) w4 r rt (p ++ (a, x) :: q) := ⟨hR4.head, hR4.chain, hR4.nodup, ⟨fun hk => hR4.out.1 (Nat.lt_of_lt_of_le hk hb1.size), fun b hb hk => hR4.out.2 b hb (Nat.lt_of_lt_of_le hk hb1.size)⟩, hR4.ok⟩
  clear hR hR4 hk4 hb4 h
  go_wp2
  go_ret2
  exact ⟨r, rt, p, a, x, q, rfl, rfl, HX.out, HP.out, hR5, hB⟩

set_option maxHeartbeats 1600000 in
set_option maxRecDepth 100000 in
theorem findItem_no (v : Value) (xs : List Itm) (s : ByteArray) (w : World) (h : Items w v xs) (hh : (validI xs && hasI xs s) = false) :
    Calls Try.prog 68 #[v, .string s] w (NotFoundPost w) := by
  have HHH := Lib.hid hh
  clear hh
  go_enter Try.func68, Try.ntmps68
  cases hv : validI xs
  all_goals
    have HV := Lib.hid hv
    clear hv
    go_wp2_with fail
    refine (Vi_v _ h HV.out).mono ?_
    rintro e w1 ⟨rfl, hb1⟩
  · go_wp2
    go_ret2
    exact ⟨_, rfl, hb1⟩
  · have hl := valid_len HV.out
    have HH := Lib.hid (show hasI xs s = false by have := HHH.out; rw [HV.out, Bool.true_and] at this; exact this)
    clear HHH
    go_wp2_with fail
    refine (ringOf_any _ _ _ (h.mono hb1 (Nat.le_refl _)) (by omega)).mono ?_
    rintro e w2 ⟨r, rt, ns, rfl, hns, hR, hb2⟩
    subst hns
    have HF := Lib.hid (find_no HH.out)
    have HB2 := Lib.hid hb2
    clear hb2
    go_wp2_with fail
    refine (hasKey_any s w2).mono ?_
    rintro e w3 ⟨rfl, rfl⟩
    go_wp2_with fail
    refine (look_any hR (fun k (hk : k < w1.heap.size) => Nat.lt_of_lt_of_le hk HB2.out.size) s).mono ?_
    rw [HF.out]
    rintro e w4 ⟨rfl, hR4, hk4, hb4⟩
    have hB : Below w.heap.size w w4 := hb1.trans ((HB2.out.trans (hb4.mono HB2.out.size)).mono hb1.size)
    clear hR hR4 hk4 hb4 h
    go_wp2
    go_ret2
    exact ⟨_, rfl, hB⟩
end
end Go.Proofs.Ytlclhdolcokipaa
