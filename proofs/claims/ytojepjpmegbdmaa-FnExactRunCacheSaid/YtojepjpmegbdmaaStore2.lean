/-
  StoreItem, by the program.
-/
import Derived.Test.YtojepjpmegbdmaaStore
import Derived.Test.YtojepjpmegbdmaaResize
import Derived.Test.YtojepjpmegbdmaaImplO
namespace Go.Proofs.Ytojepjpmegbdmaa
open Go.RowKit

def soB (xs : List Itm) (m g s : Int) (k : ByteArray) (n : Int) : Bool := vcB xs m g s && (keyB k && numB n)
def soL (xs : List Itm) (m g s : Int) (k : ByteArray) (n : Int) : List Itm := if soB xs m g s k n = true then stI xs m k n else []
def soM (xs : List Itm) (m g s : Int) (k : ByteArray) (n : Int) (z : Int) : Int := if soB xs m g s k n = true then z else 0
theorem so_no {xs : List Itm} {m g s : Int} {k : ByteArray} {n : Int} (h : soB xs m g s k n = false) : soL xs m g s k n = [] ∧ ∀ z, soM xs m g s k n z = 0 := by
  unfold soL soM
  rw [h]
  exact ⟨rfl, fun _ => rfl⟩
theorem so_yes {xs : List Itm} {m g s : Int} {k : ByteArray} {n : Int} (h : soB xs m g s k n = true) : soL xs m g s k n = stI xs m k n ∧ ∀ z, soM xs m g s k n z = z := by
  unfold soL soM
  rw [h]
  exact ⟨rfl, fun _ => rfl⟩
theorem so_le (xs : List Itm) (m g s : Int) (k : ByteArray) (n : Int) : (soL xs m g s k n).length ≤ 10000000 := by
  cases h : soB xs m g s k n
  · rw [(so_no h).1]; simp
  · rw [(so_yes h).1]
    have hv : vcB xs m g s = true := by unfold soB at h; rw [Bool.and_eq_true] at h; exact h.1
    have := stI_len xs m k n (vc_yes hv).2.1.1
    have := valid_len (vc_yes hv).1
    omega

set_option maxHeartbeats 1600000 in
set_option maxRecDepth 100000 in
theorem StoreItem_any (v : Value) (xs : List Itm) (m g s : Int) (k : ByteArray) (n : Int) (w : World) (h : Items w v xs) (hks : k.size ≤ 9223372036854775807) (hni : -9223372036854775808 ≤ n ∧ n ≤ 9223372036854775807) :
    Calls Try.prog 75 #[.agg #[v, .int .i64 m, .int .i64 g, .int .i64 s], .string k, .int .i64 n] w (NewL (fun v => .tuple #[.agg #[v, .int .i64 (soM xs m g s k n m), .int .i64 (soM xs m g s k n g), .int .i64 (soM xs m g s k n s)], .bool (soB xs m g s k n)]) (soL xs m g s k n) w) := by
  have h0 := Lib.hid h
  have HX := Lib.hid (okI_pair hks hni)
  obtain ⟨ao, cap, rfl, hlc, hcm, _, _⟩ := h
  go_enter Try.func75, Try.ntmps75
  have HA : Hid (Below w.heap.size w ((w.alloc (.cells #[.slice ao xs.length cap, .int .i64 m, .int .i64 g, .int .i64 s] 67)).alloc (.cells #[.slice none 0 0, .int .i64 0, .int .i64 0, .int .i64 0] 67))) := ((Below.refl _ _).alloc (Nat.le_refl _) _).alloc (by simp) _
  have F0 := (Four.new w 67 (.slice ao xs.length cap) (.int .i64 m) (.int .i64 g) (.int .i64 s)).below (B := w.heap.size + 1) ((Below.refl _ _).alloc (by simp) (.cells #[.slice none 0 0, .int .i64 0, .int .i64 0, .int .i64 0] 67)) (by omega)
  have F1 := Four.new (w.alloc (.cells #[.slice ao xs.length cap, .int .i64 m, .int .i64 g, .int .i64 s] 67)) 67 (.slice none 0 0) (.int .i64 0) (.int .i64 0) (.int .i64 0)
  simp at F1
  have HF0 := Lib.hid F0
  have HF1 := Lib.hid F1
  clear F0 F1
  cases hv : vcB xs m g s
  all_goals
    have HV := Lib.hid hv
    clear hv
    go_wp2_with fail
    refine (VC_v _ (h0.out.mono HA.out (Nat.le_refl _)) HV.out).mono ?_
    rintro e w1 ⟨rfl, hb1⟩
    have hs1 := hb1.size
    simp at hs1 hb1
    have HG0 := Lib.hid (HF0.out.below hb1 (by omega))
    have HG1 := Lib.hid (HF1.out.below hb1 (by omega))
    have HB1 : Hid (Below w.heap.size w w1) := HA.out.trans (hb1.mono (by omega))
    clear hb1
  · have HC := Lib.hid (show soB xs m g s k n = false by unfold soB; rw [HV.out]; rfl)
    have HL := Lib.hid (so_no HC.out)
    obtain ⟨c0, c1, c2, c3⟩ := HG1.out.cells
    obtain ⟨f0, f1, f2, f3⟩ := HG1.out.free
    go_wp2
    exact bodyPost_ret (v := .tuple #[.agg #[.slice none 0 0, .int .i64 0, .int .i64 0, .int .i64 0], .bool false]) (by simp [results, Try.results75, go_sem, c0, c1, c2, c3]) rfl ⟨_, ret_cb rfl (HL.out.2 _).symm (HL.out.2 _).symm (HL.out.2 _).symm HC.out.symm, by rw [HL.out.1]; exact OwnI_nil _ _ _, by
      iterate 4 refine Below.setCell ?_ (by simp) _
      exact HB1.out⟩
  · have HY := Lib.hid (vc_yes HV.out)
    have hl := valid_len HY.out.1
    cases hk : keyB k
    all_goals
      have HK := Lib.hid hk
      clear hk
      go_wp2_with fail
      refine (isKey_v _ hks HK.out).mono ?_
      rintro e w2 ⟨rfl, rfl⟩
    · have HC := Lib.hid (show soB xs m g s k n = false by unfold soB; rw [HK.out]; simp)
      have HL := Lib.hid (so_no HC.out)
      obtain ⟨c0, c1, c2, c3⟩ := HG1.out.cells
      obtain ⟨f0, f1, f2, f3⟩ := HG1.out.free
      go_wp2
      exact bodyPost_ret (v := .tuple #[.agg #[.slice none 0 0, .int .i64 0, .int .i64 0, .int .i64 0], .bool false]) (by simp [results, Try.results75, go_sem, c0, c1, c2, c3]) rfl ⟨_, ret_cb rfl (HL.out.2 _).symm (HL.out.2 _).symm (HL.out.2 _).symm HC.out.symm, by rw [HL.out.1]; exact OwnI_nil _ _ _, by
        iterate 4 refine Below.setCell ?_ (by simp) _
        exact HB1.out⟩
    · cases hn : numB n
      all_goals
        have HN := Lib.hid hn
        clear hn
        go_wp2_with fail
        refine (isNumber_v _ HN.out).mono ?_
        rintro e w2 ⟨rfl, rfl⟩
      · have HC := Lib.hid (show soB xs m g s k n = false by unfold soB; rw [HN.out]; simp)
        have HL := Lib.hid (so_no HC.out)
        obtain ⟨c0, c1, c2, c3⟩ := HG1.out.cells
        obtain ⟨f0, f1, f2, f3⟩ := HG1.out.free
        go_wp2
        exact bodyPost_ret (v := .tuple #[.agg #[.slice none 0 0, .int .i64 0, .int .i64 0, .int .i64 0], .bool false]) (by simp [results, Try.results75, go_sem, c0, c1, c2, c3]) rfl ⟨_, ret_cb rfl (HL.out.2 _).symm (HL.out.2 _).symm (HL.out.2 _).symm HC.out.symm, by rw [HL.out.1]; exact OwnI_nil _ _ _, by
          iterate 4 refine Below.setCell ?_ (by simp) _
          exact HB1.out⟩
      · have HC := Lib.hid (show soB xs m g s k n = true by unfold soB; rw [HV.out, HK.out, HN.out]; rfl)
        have HL := Lib.hid (so_yes HC.out)
        obtain ⟨a0, a1, a2, a3⟩ := HG0.out.cells
        go_wp2_with fail
        refine (shelfOf_any _ xs m g s _ (h0.out.mono HB1.out (Nat.le_refl _)) (by omega)).mono ?_
        rintro e w2 ⟨sb, r, rt, ns, rfl, hns, hS, hR, hb2, hsb⟩
        have hln : ns.length ≤ 10000 := by rw [← its_len, hns]; omega
        have HS := Lib.hid hS
        have HR := Lib.hid hR
        have HB2 := Lib.hid hb2
        have HNS := Lib.hid hns
        clear hS hR hb2 hns a0 a1 a2 a3
        go_wp2_with fail
        refine (store_any HS.out HR.out hln (fun j hj => by rcases hj with hj | hj; exact Nat.lt_of_lt_of_le hj HB2.out.size; rw [hj]; exact HS.out.lt) (.inr rfl) (by have := HY.out.2.1; omega) k n HX.out).mono ?_
        rintro e w3 ⟨ns3, rfl, hn3, hS3, hR3, hk3⟩
        rw [HNS.out] at hn3
        have hln3 : ns3.length ≤ 100000 := by rw [← its_len, hn3]; have := stI_len xs m k n HY.out.2.1.1; omega
        have HN3 := Lib.hid hn3
        have HS3 := Lib.hid hS3
        have HR3 := Lib.hid hR3
        have HK3 := Lib.hid hk3
        clear hn3 hS3 hR3 hk3
        go_wp2_with fail
        refine (cache_any HS3.out HR3.out hln3).mono ?_
        rintro e w4 ⟨v4, rfl, ho4, hb4⟩
        have hlt3 : w.heap.size + 1 < w3.heap.size := by have := HB2.out.size; have := HK3.out.size; omega
        have HG4 := ((HG1.out.below HB2.out (by omega)).keeps HK3.out (.inl (by omega))).below hb4 hlt3
        obtain ⟨c0, c1, c2, c3⟩ := HG4.cells
        obtain ⟨f0, f1, f2, f3⟩ := HG4.free
        have ho4' := ho4.1
        rw [its_len] at ho4'
        obtain ⟨xo, xcap, rfl, _, _⟩ := own_slice ho4'
        have HO4 := Lib.hid ho4
        have HB4 := Lib.hid hb4
        have HB3 : Hid (Below w.heap.size w w3) := HB1.out.trans ((HB2.out.trans (HK3.out.below (fun j hj => .inl hj))).mono HB1.out.size)
        clear ho4 ho4' hb4 HG4
        go_wp2
        exact bodyPost_ret (v := .tuple #[.agg #[.slice xo ns3.length xcap, .int .i64 m, .int .i64 g, .int .i64 s], .bool true]) (by simp [results, Try.results75, go_sem, c0, c1, c2, c3]) rfl ⟨_, ret_cb rfl (HL.out.2 _).symm (HL.out.2 _).symm (HL.out.2 _).symm HC.out.symm, by
          rw [HL.out.1, ← HN3.out]
          refine (HO4.out.past ?_).base (by omega)
          iterate 4 refine Keeps.past ?_ (by exact hlt3) _
          exact Keeps.refl _ _, by
          iterate 4 refine Below.setCell ?_ (by simp) _
          exact HB3.out.trans (HB4.out.mono HB3.out.size)⟩
end Go.Proofs.Ytojepjpmegbdmaa
