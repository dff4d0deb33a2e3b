/-
  The program's ring: pushed, moved, looked for, listed, made of a list.
-/
import Derived.Test.YtigiliakcmpekaaRing3
import Derived.LaidEqlPtr
import Derived.Lib.Builder
namespace Go.Proofs.Ytigiliakcmpekaa
open Go.RowKit

section
variable {K : Nat → Prop} {w w' : World} {r rt : Nat} {ns : List Nod}

def PushPost (K : Nat → Prop) (r rt : Nat) (ns : List Nod) (x : Itm) (w : World) (e : Ending) (w' : World) : Prop :=
  ∃ a, e = .returned (.pointer (some ⟨a, 0, none⟩)) ∧ RingAt K w' r rt (ns ++ [(a, x)]) ∧ Keeps K w w'

set_option maxHeartbeats 800000 in
theorem push_any (hK : ∀ k, K k → k < w.heap.size) (h : RingAt K w r rt ns) (x : Itm) (hx : okI [x]) (hl : ns.length ≤ 100000) :
    Calls Try.prog 182 #[.pointer (some ⟨r, 0, none⟩), .agg #[.string x.1, .int .i64 x.2]] w (PushPost K r rt ns x w) := by
  have HR := Lib.hid h
  have HKK := Lib.hid hK
  clear h hK
  go_enter Try.func182, Try.ntmps182
  have hb2 : Below w.heap.size w ((w.alloc (.cells #[.string x.1, .int .i64 x.2] 104)).alloc (.cells #[.string x.1, .int .i64 x.2, .pointer none, .pointer none] 199)) := ((Below.refl _ _).alloc (Nat.le_refl _) _).alloc (by simp) _
  have HR2 := Lib.hid (HR.out.below hb2)
  have HB := Lib.hid hb2
  clear hb2
  go_wp2_with fail
  refine (last_any HR2.out).mono ?_
  rintro e w1 ⟨rfl, rfl⟩
  go_wp2_with fail
  have hfree : Free K ((w.alloc (.cells #[.string x.1, .int .i64 x.2] 104)).alloc (.cells #[.string x.1, .int .i64 x.2, .pointer none, .pointer none] 199)) r rt ns (w.heap.size + 1) x := by
    have hlt := HR.out.lt
    refine ⟨⟨.pointer none, .pointer none, ?_⟩, fun hm => by have := hlt.2 _ hm; omega, fun hk => by have := HKK.out _ hk; omega, by have := hlt.1; omega⟩
    unfold NdX
    have := heap_alloc_new (w.alloc (.cells #[.string x.1, .int .i64 x.2] 104)) (.cells #[.string x.1, .int .i64 x.2, .pointer none, .pointer none] 199)
    simpa using this
  have HF := Lib.hid hfree
  clear hfree
  refine (hang_any (l := ns) (r2 := []) (by rw [List.append_nil]; exact HR2.out) (by rw [List.append_nil]; omega) (by rw [List.append_nil]; exact HF.out) hx rfl).mono ?_
  rintro e w2 ⟨rfl, hR, hk2, hs2⟩
  have hk3 : Keeps K w w2 := (Keeps.of_below HB.out HKK.out).trans hk2
  go_wp2
  go_ret
  exact ⟨_, rfl, hR, hk3⟩

def MovedPost (K : Nat → Prop) (r rt : Nat) (ns : List Nod) (w : World) (e : Ending) (w' : World) : Prop :=
  e = .returned (.tuple #[]) ∧ RingAt K w' r rt ns ∧ Keeps K w w' ∧ w.heap.size = w'.heap.size

theorem okI_mid {l r2 : List Nod} {a : Nat} {x : Itm} (h : RingAt K w r rt (l ++ (a, x) :: r2)) : okI [x] := fun y hy => by
  rw [List.mem_singleton.1 hy]
  exact h.ok x (by simp)

theorem moveLast_any {l r2 : List Nod} {a : Nat} {x : Itm} (h : RingAt K w r rt (l ++ (a, x) :: r2)) (hl : (l ++ (a, x) :: r2).length ≤ 100000) :
    Calls Try.prog 263 #[.pointer (some ⟨r, 0, none⟩), .pointer (some ⟨a, 0, none⟩)] w (MovedPost K r rt ((l ++ r2) ++ [(a, x)]) w) := by
  have hx := okI_mid h
  have hl2 : (l ++ r2).length ≤ 100000 := by simp at hl ⊢; omega
  go_enter Try.func263, Try.ntmps263
  go_wp2_with fail
  refine (cut_any h (by omega)).mono ?_
  rintro e w1 ⟨rfl, hR1, hF1, hk1, hs1⟩
  have HS1 := Lib.hid hs1
  clear hs1
  go_wp2_with fail
  refine (last_any hR1).mono ?_
  rintro e w2 ⟨rfl, rfl⟩
  go_wp2_with fail
  refine (hang_any (l := l ++ r2) (r2 := []) (by rw [List.append_nil]; exact hR1) (by rw [List.append_nil]; omega) (by rw [List.append_nil]; exact hF1) hx rfl).mono ?_
  rintro e w2 ⟨rfl, hR2, hk2, hs2⟩
  have HS2 := Lib.hid hs2
  clear hs2
  go_wp2
  go_end0
  exact ⟨rfl, hR2, hk1.trans hk2, HS1.out.trans HS2.out⟩

theorem moveFirst_any {l r2 : List Nod} {a : Nat} {x : Itm} (h : RingAt K w r rt (l ++ (a, x) :: r2)) (hl : (l ++ (a, x) :: r2).length ≤ 100000) :
    Calls Try.prog 264 #[.pointer (some ⟨r, 0, none⟩), .pointer (some ⟨a, 0, none⟩)] w (MovedPost K r rt ((a, x) :: (l ++ r2)) w) := by
  have hx := okI_mid h
  have hl2 : (l ++ r2).length ≤ 100000 := by simp at hl ⊢; omega
  go_enter Try.func264, Try.ntmps264
  go_wp2_with fail
  refine (cut_any h (by omega)).mono ?_
  rintro e w1 ⟨rfl, hR1, hF1, hk1, hs1⟩
  have HS1 := Lib.hid hs1
  have c0 := two_cell0 hR1.head
  clear hs1
  go_wp2_with fail
  refine (hang_any (l := []) (r2 := l ++ r2) hR1 (by rw [List.nil_append]; omega) hF1 hx rfl).mono ?_
  rintro e w2 ⟨rfl, hR2, hk2, hs2⟩
  have HS2 := Lib.hid hs2
  clear hs2
  go_wp2
  go_end0
  exact ⟨rfl, hR2, hk1.trans hk2, HS1.out.trans HS2.out⟩

/-! ### looked for -/
theorem hasKey_any (s : ByteArray) (w : World) : Calls Try.prog 186 #[.string s] w fun e w' => e = .returned (.func (.func 207) #[] #[.pointer (some ⟨w.heap.size, 0, none⟩)]) ∧ w' = w.alloc (.cells #[.string s] 9) := by
  have hmf : ∀ (fn : Fn) (first cap : Array Value) (w : World), (Instr.makeFunc fn first cap).run Try.prog w = .ok (.func fn first cap) w := fun _ _ _ _ => rfl
  go_enter Try.func186, Try.ntmps186
  go_wp2
  go_ret
  exact ⟨rfl, rfl⟩
theorem hasKey1_any (x : Itm) (s : ByteArray) (kb : Nat) (w : World) (hk : w.heap[kb]? = some (.cells #[.string s] 9 (0, 0))) :
    Calls Try.prog 207 #[.agg #[.string x.1, .int .i64 x.2], .pointer (some ⟨kb, 0, none⟩)] w fun e w' => e = .returned (.bool (decide (x.1 = s))) ∧ Below w.heap.size w w' := by
  have c0 := cell_of_one hk
  have hlt := lt_of_block hk
  clear hk
  go_enter Try.func207, Try.ntmps207
  go_wp2
  go_ret
  exact ⟨ret_bool (beq_keys _ _), (Below.refl _ _).alloc (Nat.le_refl _) _⟩

theorem ret_ptr {a b : Option Addr} (h : a = b) : Ending.returned (.pointer a) = .returned (.pointer b) := by rw [h]
def findI : List Nod → ByteArray → Option Addr
  | [], _ => none
  | n :: r, k => if n.2.1 = k then some ⟨n.1, 0, none⟩ else findI r k
theorem hasKey1_v {x : Itm} {s : ByteArray} {kb : Nat} {b : Bool} (w : World) (hk : w.heap[kb]? = some (.cells #[.string s] 9 (0, 0))) (hb : decide (x.1 = s) = b) :
    Calls Try.prog 207 #[.agg #[.string x.1, .int .i64 x.2], .pointer (some ⟨kb, 0, none⟩)] w fun e w' => e = .returned (.bool b) ∧ Below w.heap.size w w' :=
  (hasKey1_any x s kb w hk).mono fun _ _ ⟨he, hw⟩ => ⟨hb ▸ he, hw⟩

theorem chain_at {l r2 : List Nod} {a : Nat} {x : Itm} (h : RingAt K w r rt (l ++ (a, x) :: r2)) : Nd w a x (lstOr rt l) (fstOr r2 rt) := by
  obtain ⟨z, hc⟩ := h.chain
  have e : (rt, z) :: (l ++ (a, x) :: r2) = ((rt, z) :: l) ++ (a, x) :: r2 := rfl
  rw [e, chain_app] at hc
  exact hc.2.1

theorem Try.sizeL : (Try.prog.info? 199).map (·.size) = some 4 := by kernel_rfl
theorem run_neq_ptr_other {P : Program} (w : World) {tp te : TypeId} {j : TypeInfo} {a b : Addr} {ca cb : Array Value} {ta tb : TypeId} (hp : P.underlying tp = some (.pointer te)) (hte : P.info? te = some j) (hsz : j.size ≠ 0)
    (hne : a ≠ b) (ha : w.heap[a.block]? = some (.cells ca ta (0, 0))) (hb : w.heap[b.block]? = some (.cells cb tb (0, 0))) :
    (binOp .neq tp (.pointer (some a)) (.pointer (some b))).run P w = .ok (.bool true) w := by
  have h : ∀ d : Nat, (Op.equalIn (d + 1) tp (.pointer (some a)) (.pointer (some b))).run P w = .ok false w := fun d => by
    simp [Op.equalIn, run_underlying hp, sizeOf, typeInfo, hte, hsz, run_sameAddr_other w hne ha hb]
  simp only [binOp]
  simp [Op.equal, Op.maxDepth, h 9999]
theorem neq_same (w : World) (a : Nat) : (binOp .neq 197 (.pointer (some ⟨a, 0, none⟩)) (.pointer (some ⟨a, 0, none⟩))).run Try.prog w = .ok (.bool false) w := by
  obtain ⟨j, hj, _⟩ : ∃ j, Try.prog.info? 199 = some j ∧ j.size = 4 := by
    have h := Try.sizeL
    cases hj : Try.prog.info? 199 with
    | none => rw [hj] at h; simp at h
    | some j => rw [hj] at h; exact ⟨j, rfl, by simpa using h⟩
  exact Lib.run_neq_ptr_same w _ Try.underlying197 hj
theorem neq_other {w : World} {a b : Nat} {x y : Itm} {p q p' q' : Nat} (hne : a ≠ b) (ha : Nd w a x p q) (hb : Nd w b y p' q') : (binOp .neq 197 (.pointer (some ⟨a, 0, none⟩)) (.pointer (some ⟨b, 0, none⟩))).run Try.prog w = .ok (.bool true) w := by
  obtain ⟨j, hj, hs⟩ : ∃ j, Try.prog.info? 199 = some j ∧ j.size = 4 := by
    have h := Try.sizeL
    cases hj : Try.prog.info? 199 with
    | none => rw [hj] at h; simp at h
    | some j => rw [hj] at h; exact ⟨j, rfl, by simpa using h⟩
  exact run_neq_ptr_other w Try.underlying197 hj (by omega) (fun e => hne (Addr.mk.inj e).1) ha hb

set_option maxHeartbeats 1600000 in
set_option maxRecDepth 100000 in
theorem find_any (h : RingAt K w r rt ns) (s : ByteArray) (kb : Nat) (hkb : w.heap[kb]? = some (.cells #[.string s] 9 (0, 0))) :
    Calls Try.prog 256 #[.pointer (some ⟨r, 0, none⟩), .func (.func 207) #[] #[.pointer (some ⟨kb, 0, none⟩)]] w fun e w' => e = .returned (.pointer (findI ns s)) ∧ Below w.heap.size w w' := by
  have HR := Lib.hid h
  have HKB := Lib.hid hkb
  have hkl := lt_of_block hkb
  clear h hkb
  go_enter Try.func256, Try.ntmps256
  go_wp2_with fail
  refine (first_any HR.out).mono ?_
  rintro e w1 ⟨rfl, rfl⟩
  go_wp2_with fail
  go_loopg [5] ns.length (fun g at' wr => ∃ l r2 : List Nod, Hid (ns = l ++ r2) ∧ at' = .pointer (some ⟨fstOr r2 rt, 0, none⟩) ∧ r2.length ≤ g ∧ Hid (findI ns s = findI r2 s) ∧ Hid (Below w.heap.size w wr))
  case atStart => exact ⟨[], ns, rfl, rfl, Nat.le_refl _, rfl, Below.refl _ _⟩
  case round =>
    obtain ⟨l, r2, HN, rfl, hle, HF, HB⟩ := hrel
    have hRr := HR.out.below HB.out
    have c0 := two_cell0 hRr.head
    cases r2 with
    | nil =>
      have HFF := Lib.hid (show findI ns s = none from HF.out)
      have e0 : fstOr [] rt = rt := rfl
      rw [e0]
      have hq := neq_same wr rt
      clear hRr
      go_wp2
      go_ret
      exact ⟨ret_ptr HFF.out.symm, HB.out⟩
    | cons n r3 =>
      obtain ⟨a, x⟩ := n
      have hnd := chain_at (l := l) (r2 := r3) (a := a) (x := x) (by rw [← HN.out]; exact hRr)
      have hne : a ≠ rt := by
        have := HR.out.nodup
        rw [HN.out] at this
        have h2 := (List.nodup_cons.1 this).1
        intro e
        exact h2 (by rw [← e]; simp)
      have hlt : a < wr.heap.size := lt_of_block hnd
      obtain ⟨d0, d1, d2, d3⟩ := nd_cells hnd
      have e0 : fstOr ((a, x) :: r3) rt = a := rfl
      rw [e0]
      have hkr : wr.heap[kb]? = some (.cells #[.string s] 9 (0, 0)) := (HB.out.block kb hkl).trans HKB.out
      have HKR := Lib.hid hkr
      obtain ⟨zr, hz⟩ := hRr.root
      have hq := neq_other hne hnd hz
      clear hz
      clear hkr hnd hRr d2
      cases hxs : decide (x.1 = s)
      · have HX := Lib.hid hxs
        clear hxs
        go_wp2_with fail
        refine (hasKey1_v _ HKR.out HX.out).mono ?_
        rintro e w2 ⟨rfl, hb2⟩
        have d3' := (hb2.cell (p := ⟨a, 3, none⟩) hlt).trans d3
        have HB2 := Lib.hid (HB.out.trans (hb2.mono HB.out.size))
        have HF2 : Hid (findI ns s = findI r3 s) := by
          unfold Hid
          rw [HF.out]
          show (if x.1 = s then _ else _) = _
          rw [if_neg (by simpa using HX.out)]
        have HN2 : Hid (ns = (l ++ [(a, x)]) ++ r3) := by unfold Hid; rw [HN.out]; simp
        have hle' : r3.length + 1 ≤ gk := by simpa using hle
        clear hb2 d0 d1 d3 hle HB HF HN
        go_wp2
        go_roundg r3.length
        case measure => omega
        case rel => exact ⟨l ++ [(a, x)], r3, HN2, rfl, Nat.le_refl _, HF2, HB2⟩
      · have HX := Lib.hid hxs
        clear hxs
        go_wp2_with fail
        refine (hasKey1_v _ HKR.out HX.out).mono ?_
        rintro e w2 ⟨rfl, hb2⟩
        have HFF := Lib.hid (show findI ns s = some ⟨a, 0, none⟩ by
          rw [HF.out]
          show (if x.1 = s then _ else _) = _
          rw [if_pos (by simpa using HX.out)])
        go_wp2
        go_ret
        exact ⟨ret_ptr HFF.out.symm, HB.out.trans (hb2.mono HB.out.size)⟩
end
end Go.Proofs.Ytigiliakcmpekaa
