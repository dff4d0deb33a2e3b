/-
  A key looked up in a cache, by the model and by the program.
-/
import Derived.Test.YtfinniedlbkhcaaShelf2
import Derived.Test.YtfinniedlbkhcaaSOrd2
namespace Go.Proofs.Ytfinniedlbkhcaa
open Go.RowKit

def lookV (v : Value) (m g s n : Int) (b : Bool) : Value := .tuple #[.agg #[v, .int .i64 m, .int .i64 g, .int .i64 s], .int .i64 n, .bool b]
theorem ret_cib {a b : Value} {m m' g g' s s' n n' : Int} {c c' : Bool} (h : a = b) (h1 : m = m') (h2 : g = g') (h3 : s = s') (h4 : n = n') (h5 : c = c') :
    Ending.returned (.tuple #[.agg #[a, .int .i64 m, .int .i64 g, .int .i64 s], .int .i64 n, .bool c]) = .returned (.tuple #[.agg #[b, .int .i64 m', .int .i64 g', .int .i64 s'], .int .i64 n', .bool c']) := by rw [h, h1, h2, h3, h4, h5]
def luL (xs : List Itm) (m g s : Int) (k : ByteArray) : List Itm := if vcB xs m g s = true then lkI xs k else []
def luM (xs : List Itm) (m g s : Int) : Int := if vcB xs m g s = true then m else 0
def luG (xs : List Itm) (m g s : Int) (k : ByteArray) : Int := if vcB xs m g s = true then lkG xs k g else 0
def luS (xs : List Itm) (m g s : Int) (k : ByteArray) : Int := if vcB xs m g s = true then lkS xs k s else 0
def luN (xs : List Itm) (m g s : Int) (k : ByteArray) : Int := if vcB xs m g s = true then lkN xs k else 0
def luB (xs : List Itm) (m g s : Int) (k : ByteArray) : Bool := vcB xs m g s && hasI xs k
theorem lu_no {xs : List Itm} {m g s : Int} {k : ByteArray} (h : vcB xs m g s = false) : luL xs m g s k = [] ∧ luM xs m g s = 0 ∧ luG xs m g s k = 0 ∧ luS xs m g s k = 0 ∧ luN xs m g s k = 0 ∧ luB xs m g s k = false := by
  unfold luL luM luG luS luN luB
  rw [h]
  exact ⟨rfl, rfl, rfl, rfl, rfl, rfl⟩
theorem lu_yes {xs : List Itm} {m g s : Int} {k : ByteArray} (h : vcB xs m g s = true) : luL xs m g s k = lkI xs k ∧ luM xs m g s = m ∧ luG xs m g s k = lkG xs k g ∧ luS xs m g s k = lkS xs k s ∧ luN xs m g s k = lkN xs k ∧ luB xs m g s k = hasI xs k := by
  unfold luL luM luG luS luN luB
  rw [h]
  exact ⟨rfl, rfl, rfl, rfl, rfl, rfl⟩
theorem vc_yes {xs : List Itm} {m g s : Int} (h : vcB xs m g s = true) : validI xs = true ∧ (1 ≤ m ∧ m ≤ 8) ∧ (xs.length : Int) ≤ m ∧ (0 ≤ g ∧ g ≤ 9999) ∧ (0 ≤ s ∧ s ≤ 9999) := by
  unfold vcB rgB at h
  simp only [Bool.and_eq_true, decide_eq_true_eq] at h
  obtain ⟨⟨⟨⟨h1, h2⟩, h3⟩, h4⟩, h5⟩ := h
  exact ⟨h1, h2, h3, h4, h5⟩
theorem lk_len (xs : List Itm) (k : ByteArray) : (lkI xs k).length = xs.length := by
  unfold lkI
  cases h : hasI xs k
  · simp
  · rw [if_pos rfl]
    unfold movI
    have := delI_length (l := xs) k
    rw [h, if_pos rfl] at this
    simp
    omega
theorem lu_le (xs : List Itm) (m g s : Int) (k : ByteArray) : (luL xs m g s k).length ≤ 10000000 := if_len fun h => by
  have := valid_len (vc_yes h).1
  rw [lk_len]
  omega
theorem OwnI.mid {E B : Nat} {w w' : World} {v : Value} {xs : List Itm} (h : OwnI E w B v xs) (hk : Keeps (fun k => B ≤ k ∧ k < w.heap.size) w w') : OwnI E w' B v xs := ⟨hk.own h.1 (fun _ hg => own_range h.1 hg), h.2⟩

set_option maxHeartbeats 1600000 in
set_option maxRecDepth 100000 in
theorem LookUp_any (v : Value) (xs : List Itm) (m g s : Int) (k : ByteArray) (w : World) (h : Items w v xs) :
    Calls Try.prog 69 #[.agg #[v, .int .i64 m, .int .i64 g, .int .i64 s], .string k] w (NewL (fun v => .tuple #[.agg #[v, .int .i64 (luM xs m g s), .int .i64 (luG xs m g s k), .int .i64 (luS xs m g s k)], .int .i64 (luN xs m g s k), .bool (luB xs m g s k)]) (luL xs m g s k) w) := by
  have h0 := Lib.hid h
  obtain ⟨ao, cap, rfl, hlc, hcm, _, _⟩ := h
  go_enter Try.func69, Try.ntmps69
  have HA : Hid (Below w.heap.size w ((w.alloc (.cells #[.slice ao xs.length cap, .int .i64 m, .int .i64 g, .int .i64 s] 65)).alloc (.cells #[.slice none 0 0, .int .i64 0, .int .i64 0, .int .i64 0] 65))) := ((Below.refl _ _).alloc (Nat.le_refl _) _).alloc (by simp) _
  have F0 := (Four.new w 65 (.slice ao xs.length cap) (.int .i64 m) (.int .i64 g) (.int .i64 s)).below (B := w.heap.size + 1) ((Below.refl _ _).alloc (by simp) (.cells #[.slice none 0 0, .int .i64 0, .int .i64 0, .int .i64 0] 65)) (by omega)
  have F1 := Four.new (w.alloc (.cells #[.slice ao xs.length cap, .int .i64 m, .int .i64 g, .int .i64 s] 65)) 65 (.slice none 0 0) (.int .i64 0) (.int .i64 0) (.int .i64 0)
  simp at F1
  have HF0 := Lib.hid F0
  have HF1 := Lib.hid F1
  clear F0 F1
  cases hv : vcB xs m g s
  all_goals
    have HV := Lib.hid hv
    clear hv
    go_wp2_with fail
    refine (VC_v _ (h0.out.mono HA.out (Nat.le_refl _)) HV.out).mono ?_
    rintro e w1 ⟨rfl, hb1⟩
    have hs1 := hb1.size
    simp at hs1 hb1
    have HG0 := Lib.hid (HF0.out.below hb1 (by omega))
    have HG1 := Lib.hid (HF1.out.below hb1 (by omega))
    have HB1 : Hid (Below w.heap.size w w1) := HA.out.trans (hb1.mono (by omega))
    clear hb1
  · have HL := Lib.hid (lu_no (k := k) HV.out)
    obtain ⟨c0, c1, c2, c3⟩ := HG1.out.cells
    obtain ⟨f0, f1, f2, f3⟩ := HG1.out.free
    go_wp2
    exact bodyPost_ret (v := .tuple #[.agg #[.slice none 0 0, .int .i64 0, .int .i64 0, .int .i64 0], .int .i64 0, .bool false]) (by simp [results, Try.results69, go_sem, c0, c1, c2, c3]) rfl ⟨_, ret_cib rfl HL.out.2.1.symm HL.out.2.2.1.symm HL.out.2.2.2.1.symm HL.out.2.2.2.2.1.symm HL.out.2.2.2.2.2.symm, by rw [HL.out.1]; exact OwnI_nil _ _ _, by
      iterate 4 refine Below.setCell ?_ (by simp) _
      exact HB1.out⟩
  · have HL := Lib.hid (lu_yes (k := k) HV.out)
    have HY := Lib.hid (vc_yes HV.out)
    have hl := valid_len HY.out.1
    obtain ⟨a0, a1, a2, a3⟩ := HG0.out.cells
    go_wp2_with fail
    refine (shelfOf_any _ xs m g s _ (h0.out.mono HB1.out (Nat.le_refl _)) (by omega)).mono ?_
    rintro e w2 ⟨sb, r, rt, ns, rfl, hns, hS, hR, hb2, hsb⟩
    have hln : ns.length ≤ 100000 := by rw [← its_len, hns]; omega
    have HS := Lib.hid hS
    have HR := Lib.hid hR
    have HB2 := Lib.hid hb2
    have HNS := Lib.hid hns
    clear hS hR hb2 hns a0 a1 a2 a3
    go_wp2_with fail
    refine (lookUp_any HS.out HR.out hln (fun j hj => by rcases hj with hj | hj; exact Nat.lt_of_lt_of_le hj HB2.out.size; rw [hj]; exact HS.out.lt) (.inr rfl) k HY.out.2.2.2.1 HY.out.2.2.2.2).mono ?_
    rintro e w3 ⟨ns3, rfl, hn3, hS3, hR3, hk3⟩
    rw [HNS.out] at hn3 hS3 ⊢
    have hln3 : ns3.length ≤ 100000 := by rw [← its_len, hn3, lk_len]; omega
    have HN3 := Lib.hid hn3
    have HS3 := Lib.hid hS3
    have HR3 := Lib.hid hR3
    have HK3 := Lib.hid hk3
    clear hn3 hS3 hR3 hk3
    go_wp2_with fail
    refine (cache_any HS3.out HR3.out hln3).mono ?_
    rintro e w4 ⟨v4, rfl, ho4, hb4⟩
    have hlt3 : w.heap.size + 1 < w3.heap.size := by have := HB2.out.size; have := HK3.out.size; omega
    have HG4 := ((HG1.out.below HB2.out (by omega)).keeps HK3.out ⟨.inl (by omega), by omega⟩).below hb4 hlt3
    obtain ⟨c0, c1, c2, c3⟩ := HG4.cells
    obtain ⟨f0, f1, f2, f3⟩ := HG4.free
    have ho4' := ho4.1
    rw [its_len] at ho4'
    obtain ⟨xo, xcap, rfl, _, _⟩ := own_slice ho4'
    have HO4 := Lib.hid ho4
    have HB4 := Lib.hid hb4
    have HB3 : Hid (Below w.heap.size w w3) := HB1.out.trans ((HB2.out.trans (HK3.out.below (fun j hj => ⟨.inl hj, by omega⟩))).mono HB1.out.size)
    clear ho4 ho4' hb4 HG4
    go_wp2
    exact bodyPost_ret (v := .tuple #[.agg #[.slice xo ns3.length xcap, .int .i64 m, .int .i64 (lkG xs k g), .int .i64 (lkS xs k s)], .int .i64 (lkN xs k), .bool (hasI xs k)]) (by simp [results, Try.results69, go_sem, c0, c1, c2, c3]) rfl ⟨_, ret_cib rfl HL.out.2.1.symm HL.out.2.2.1.symm HL.out.2.2.2.1.symm HL.out.2.2.2.2.1.symm HL.out.2.2.2.2.2.symm, by
      rw [HL.out.1, ← HN3.out]
      refine (HO4.out.past ?_).base (by omega)
      iterate 4 refine Keeps.past ?_ (by exact hlt3) _
      exact Keeps.refl _ _, by
      iterate 4 refine Below.setCell ?_ (by simp) _
      exact HB3.out.trans (HB4.out.mono HB3.out.size)⟩
end Go.Proofs.Ytfinniedlbkhcaa
