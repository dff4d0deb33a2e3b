/-
  RunCache: the pure result, and the program's.
-/
import Derived.Test.YtojepjpmegbdmaaStoreS
import Derived.Test.YtojepjpmegbdmaaStr2
namespace Go.Proofs.Ytojepjpmegbdmaa
open Go.RowKit

def rcI (m : Int) (xs : List Itm) (k : ByteArray) : List Itm := if hasI xs k = true then lkI xs k else stI (lkI xs k) m k 1
abbrev Run := List Itm × Int × Int
def rcStep (m : Int) (t : Run) (k : ByteArray) : Run := (rcI m t.1 k, lkG t.1 k t.2.1, lkS t.1 k t.2.2)
def rcR (m : Int) (t : Run) (ks : List ByteArray) : Run := ks.foldl (rcStep m) t
theorem rcR_take {m : Int} {t : Run} {ks : List ByteArray} {k : Nat} (h : k < ks.length) : rcR m t (ks.take (k + 1)) = rcStep m (rcR m t (ks.take k)) ks[k] := by
  unfold rcR
  rw [List.take_succ_eq_append_getElem h, List.foldl_append]
  rfl
theorem vc_mk {xs : List Itm} {m g s : Int} (h1 : validI xs = true) (h2 : 1 ≤ m ∧ m ≤ 8) (h3 : (xs.length : Int) ≤ m) (h4 : 0 ≤ g ∧ g ≤ 9999) (h5 : 0 ≤ s ∧ s ≤ 9999) : vcB xs m g s = true := by
  unfold vcB rgB
  simp only [Bool.and_eq_true, decide_eq_true_eq]
  exact ⟨⟨⟨⟨h1, h2⟩, h3⟩, h4⟩, h5⟩
theorem up_bd {n : Int} (h : 0 ≤ n ∧ n ≤ 9999) : 0 ≤ upN n ∧ upN n ≤ 9999 := by unfold upN; omega
theorem has_valid {xs : List Itm} {k : ByteArray} (hv : validI xs = true) (hh : hasI xs k = true) : keyB k = true ∧ numB (cnt xs k) = true := by
  obtain ⟨a, x, r, rfl, hx, ha⟩ := hasI_split hh
  have h1 := ((validI_iff _).1 hv).1 x (by simp)
  rw [hx] at h1
  rw [cnt_sp hx ha]
  exact h1
theorem mov_st {xs : List Itm} {m : Int} {k : ByteArray} (hh : hasI xs k = true) (hl : (xs.length : Int) ≤ m) : movI xs k true = stI xs m k (cnt xs k) := by
  rw [(st_has hh hl).1]
  rfl
theorem rc_valid {xs : List Itm} {m g s : Int} {k : ByteArray} (h : vcB xs m g s = true) (hk : keyB k = true) : vcB (rcI m xs k) m (lkG xs k g) (lkS xs k s) = true := by
  obtain ⟨hv, hm, hl, hg, hs⟩ := vc_yes h
  cases hh : hasI xs k
  · have e : rcI m xs k = stI xs m k 1 := by unfold rcI lkI; rw [hh]; rfl
    have h1 := st_valid (k := k) (n := 1) h
    rw [hk] at h1
    have h2 := vc_yes (h1.trans rfl)
    rw [e]
    refine vc_mk h2.1 hm h2.2.2.1 ?_ ?_
    · unfold lkG; rw [hh]; simpa using hg
    · unfold lkS; rw [hh]; simpa using up_bd hs
  · have e : rcI m xs k = stI xs m k (cnt xs k) := by unfold rcI lkI; rw [hh, if_pos rfl, if_pos rfl]; exact mov_st hh hl
    have h1 := st_valid (k := k) (n := cnt xs k) h
    rw [hk, (has_valid hv hh).2] at h1
    have h2 := vc_yes (h1.trans rfl)
    rw [e]
    refine vc_mk h2.1 hm h2.2.2.1 ?_ ?_
    · unfold lkG; rw [hh]; simpa using up_bd hg
    · unfold lkS; rw [hh]; simpa using hs
def rkB (xs : List Itm) (m g s : Int) (ks : List ByteArray) : Bool := (vcB xs m g s && decide (ks.length ≤ 40)) && ks.all keyB
def rkL (xs : List Itm) (m g s : Int) (ks : List ByteArray) : List Itm := if rkB xs m g s ks = true then (rcR m (xs, g, s) ks).1 else []
def rkZ (xs : List Itm) (m g s : Int) (ks : List ByteArray) (z : Int) : Int := if rkB xs m g s ks = true then z else 0
theorem rk_no {xs : List Itm} {m g s : Int} {ks : List ByteArray} (h : rkB xs m g s ks = false) : rkL xs m g s ks = [] ∧ ∀ z, rkZ xs m g s ks z = 0 := by
  unfold rkL rkZ
  rw [h]
  exact ⟨rfl, fun _ => rfl⟩
theorem rk_yes {xs : List Itm} {m g s : Int} {ks : List ByteArray} (h : rkB xs m g s ks = true) : rkL xs m g s ks = (rcR m (xs, g, s) ks).1 ∧ ∀ z, rkZ xs m g s ks z = z := by
  unfold rkL rkZ
  rw [h]
  exact ⟨rfl, fun _ => rfl⟩
theorem rk_key {xs : List Itm} {m g s : Int} {ks : List ByteArray} {k : Nat} (h : k < ks.length) (hb : keyB ks[k] = false) : rkB xs m g s ks = false := by
  have : ks.all keyB = false := by
    rw [← Bool.not_eq_true, List.all_eq_true]
    intro ha
    have := ha _ (List.getElem_mem h)
    rw [hb] at this
    cases this
  unfold rkB
  rw [this]
  simp
/-- What holds after each key. -/
def rcV (m : Int) (t : Run) : Prop := vcB t.1 m t.2.1 t.2.2 = true
theorem rc_next {m : Int} {t : Run} {k : ByteArray} (h : rcV m t) (hk : keyB k = true) : rcV m (rcStep m t k) := rc_valid h hk
theorem rc_bd {m : Int} {t : Run} (h : rcV m t) : t.1.length ≤ 8 ∧ (t.1.length : Int) ≤ m ∧ (1 ≤ m ∧ m ≤ 8) ∧ (0 ≤ t.2.1 ∧ t.2.1 ≤ 9999) ∧ (0 ≤ t.2.2 ∧ t.2.2 ≤ 9999) := by
  have h1 := vc_yes h
  exact ⟨valid_len h1.1, h1.2.2.1, h1.2.1, h1.2.2.2.1, h1.2.2.2.2⟩
theorem rk_all {m : Int} (ks : List ByteArray) : ∀ t : Run, rcV m t → ks.all keyB = true → rcV m (rcR m t ks) := by
  induction ks with
  | nil => intro t h _; exact h
  | cons k r ih =>
    intro t h ha
    rw [List.all_cons, Bool.and_eq_true] at ha
    exact ih _ (rc_next h ha.1) ha.2
theorem rk_le (xs : List Itm) (m g s : Int) (ks : List ByteArray) : (rkL xs m g s ks).length ≤ 10000000 := by
  cases h : rkB xs m g s ks
  · rw [(rk_no h).1]; simp
  · rw [(rk_yes h).1]
    unfold rkB at h
    rw [Bool.and_eq_true, Bool.and_eq_true] at h
    have := rc_bd (rk_all ks (xs, g, s) h.1.1 h.2)
    omega
theorem all_keys_step {ks : List ByteArray} {k : Nat} (h : k < ks.length) (H : Hid ((ks.take k).all keyB = true)) (hb : Hid (keyB ks[k] = true)) : Hid ((ks.take (k + 1)).all keyB = true) := by
  unfold Hid
  rw [List.take_succ_eq_append_getElem h, List.all_append, H.out]
  simp [hb.out]
theorem Texts.at {w : World} {v : Value} {ts : List ByteArray} (h : Texts w v ts) {k : Nat} (hk : k < ts.length) : ∃ b o cap, v = .slice (some ⟨b, o, none⟩) ts.length cap ∧ b < w.heap.size ∧ w.cell? ⟨b, o + k, none⟩ = some (.string ts[k]) ∧ ts[k].size ≤ 9223372036854775807 := by
  obtain ⟨ao, cap, rfl, hl, hc, hok, hcell⟩ := h
  obtain ⟨b, o, rfl, hb, hcc⟩ := hcell k hk
  exact ⟨b, o, cap, rfl, hb, hcc, hok _ (List.getElem_mem hk)⟩
theorem okI_one1 {k : ByteArray} (hk : k.size ≤ 9223372036854775807) : okI [(k, (1 : Int))] := okI_pair hk ⟨by omega, by omega⟩
theorem rc_has {m : Int} {t : Run} {k : ByteArray} (h : hasI t.1 k = true) : rcStep m t k = (lkI t.1 k, lkG t.1 k t.2.1, lkS t.1 k t.2.2) := by unfold rcStep rcI; rw [h]; rfl
theorem rc_hasnt {m : Int} {t : Run} {k : ByteArray} (h : hasI t.1 k = false) : rcStep m t k = (stI (lkI t.1 k) m k 1, lkG t.1 k t.2.1, lkS t.1 k t.2.2) := by unfold rcStep rcI; rw [h]; rfl

set_option maxHeartbeats 3200000 in
set_option maxRecDepth 100000 in
theorem RunCache_any (v u : Value) (xs : List Itm) (m g s : Int) (ks : List ByteArray) (w : World) (h : Items w v xs) (hk : Texts w u ks) :
    Calls Try.prog 82 #[.agg #[v, .int .i64 m, .int .i64 g, .int .i64 s], u] w (NewL (fun v => .tuple #[.agg #[v, .int .i64 (rkZ xs m g s ks m), .int .i64 (rkZ xs m g s ks (rcR m (xs, g, s) ks).2.1), .int .i64 (rkZ xs m g s ks (rcR m (xs, g, s) ks).2.2)], .bool (rkB xs m g s ks)]) (rkL xs m g s ks) w) := by
  have h0 := Lib.hid h
  have hT := Lib.hid hk
  obtain ⟨ao, cap, rfl, hlc, hcm, _, _⟩ := h
  obtain ⟨to, tcap, rfl, htc, htm, _, _⟩ := hk
  go_enter Try.func82, Try.ntmps82
  have HA : Hid (Below w.heap.size w ((w.alloc (.cells #[.slice ao xs.length cap, .int .i64 m, .int .i64 g, .int .i64 s] 67)).alloc (.cells #[.slice none 0 0, .int .i64 0, .int .i64 0, .int .i64 0] 67))) := ((Below.refl _ _).alloc (Nat.le_refl _) _).alloc (by simp) _
  have F0 := (Four.new w 67 (.slice ao xs.length cap) (.int .i64 m) (.int .i64 g) (.int .i64 s)).below (B := w.heap.size + 1) ((Below.refl _ _).alloc (by simp) (.cells #[.slice none 0 0, .int .i64 0, .int .i64 0, .int .i64 0] 67)) (by omega)
  have F1 := Four.new (w.alloc (.cells #[.slice ao xs.length cap, .int .i64 m, .int .i64 g, .int .i64 s] 67)) 67 (.slice none 0 0) (.int .i64 0) (.int .i64 0) (.int .i64 0)
  simp at F1
  have HF0 := Lib.hid F0
  have HF1 := Lib.hid F1
  clear F0 F1
  cases hv : vcB xs m g s
  all_goals
    have HV := Lib.hid hv
    clear hv
    go_wp2_with fail
    refine (VC_v _ (h0.out.mono HA.out (Nat.le_refl _)) HV.out).mono ?_
    rintro e w1 ⟨rfl, hb1⟩
    have hs1 := hb1.size
    simp at hs1 hb1
    have HG0 := Lib.hid (HF0.out.below hb1 (by omega))
    have HG1 := Lib.hid (HF1.out.below hb1 (by omega))
    have HB1 : Hid (Below w.heap.size w w1) := HA.out.trans (hb1.mono (by omega))
    clear hb1
  · have HC := Lib.hid (show rkB xs m g s ks = false by unfold rkB; rw [HV.out]; rfl)
    have HL := Lib.hid (rk_no HC.out)
    obtain ⟨c0, c1, c2, c3⟩ := HG1.out.cells
    obtain ⟨f0, f1, f2, f3⟩ := HG1.out.free
    go_wp2
    exact bodyPost_ret (v := .tuple #[.agg #[.slice none 0 0, .int .i64 0, .int .i64 0, .int .i64 0], .bool false]) (by simp [results, Try.results82, go_sem, c0, c1, c2, c3]) rfl ⟨_, ret_cb rfl (HL.out.2 _).symm (HL.out.2 _).symm (HL.out.2 _).symm HC.out.symm, by rw [HL.out.1]; exact OwnI_nil _ _ _, by
      iterate 4 refine Below.setCell ?_ (by simp) _
      exact HB1.out⟩
  · by_cases h40 : ks.length ≤ 40
    · have hz40 : ¬ ((40 : Int) < (ks.length : Int)) := by omega
      have HY := Lib.hid (vc_yes HV.out)
      have hl := valid_len HY.out.1
      obtain ⟨a0, a1, a2, a3⟩ := HG0.out.cells
      go_wp2_with fail
      refine (shelfOf_any _ xs m g s _ (h0.out.mono HB1.out (Nat.le_refl _)) (by omega)).mono ?_
      rintro e w2 ⟨sb, r, rt, ns0, rfl, hns, hS, hR, hb2, hsb⟩
      have HS := Lib.hid hS
      have HR := Lib.hid hR
      have HB2 := Lib.hid hb2
      have HNS := Lib.hid hns
      have HRV : Hid (rcV m (xs, g, s)) := HV.out
      clear hS hR hb2 hns a0 a1 a2 a3
      go_wp2_with fail
      go_loopw [24] (fun i wr => ∃ (k : Nat) (ns : List Nod) (t : Run), k ≤ ks.length ∧ i = .int .i64 k ∧ Hid (t = rcR m (xs, g, s) (ks.take k)) ∧ Hid (rcV m t) ∧ Hid ((ks.take k).all keyB = true) ∧ Hid (its ns = t.1) ∧ Hid (ShelfAt wr sb r m t.2.1 t.2.2) ∧ Hid (RingAt (fun j => j < w1.heap.size ∨ j = sb) wr r rt ns) ∧ Hid (Keeps (fun j => j < w1.heap.size) w2 wr)) (fun i _ => ks.length - (intOf i).toNat)
      case atStart => exact ⟨0, ns0, (xs, g, s), Nat.zero_le _, rfl, rfl, HRV, rfl, HNS, HS, HR, Keeps.refl _ _⟩
      case round =>
        obtain ⟨k, ns, t, hk, rfl, HT, HV2, HA2, HN, HS2, HR2, HK2⟩ := hrel
        have HW : Hid (Below w1.heap.size w1 wr) := HB2.out.trans (HK2.out.below (fun j hj => hj))
        by_cases hlt : k < ks.length
        · obtain ⟨b, o, cap', e, hb, hc, hks⟩ := hT.out.at hlt
          simp only [Value.slice.injEq] at e
          obtain ⟨rfl, _, rfl⟩ := e
          have c1 := ((HB1.out.trans (HW.out.mono HB1.out.size)).cell (p := ⟨b, _, none⟩) hb).trans hc
          clear hc
          cases hkb : keyB ks[k]
          all_goals
            have HKB := Lib.hid hkb
            clear hkb
            go_wp2_with fail
            refine (isKey_v _ hks HKB.out).mono ?_
            rintro e w3 ⟨rfl, rfl⟩
          · have HC := Lib.hid (rk_key (xs := xs) (m := m) (g := g) (s := s) hlt HKB.out)
            have HL := Lib.hid (rk_no HC.out)
            have HGr := HG1.out.below HW.out (by omega)
            obtain ⟨c0, c1', c2, c3⟩ := HGr.cells
            obtain ⟨f0, f1, f2, f3⟩ := HGr.free
            have HBr := Lib.hid (HB1.out.trans (HW.out.mono HB1.out.size))
            clear HGr
            go_wp2
            exact bodyPost_ret (v := .tuple #[.agg #[.slice none 0 0, .int .i64 0, .int .i64 0, .int .i64 0], .bool false]) (by simp [results, Try.results82, go_sem, c0, c1', c2, c3]) rfl ⟨_, ret_cb rfl (HL.out.2 _).symm (HL.out.2 _).symm (HL.out.2 _).symm HC.out.symm, by rw [HL.out.1]; exact OwnI_nil _ _ _, by
              iterate 4 refine Below.setCell ?_ (by simp) _
              exact HBr.out⟩
          · have hbd := rc_bd HV2.out
            have hln : ns.length ≤ 10000 := by rw [← its_len, HN.out]; omega
            have HNX := rc_next HV2.out HKB.out
            have HTX : Hid (rcStep m t ks[k] = rcR m (xs, g, s) (ks.take (k + 1))) := by unfold Hid; rw [rcR_take hlt, ← HT.out]
            have HVX := Lib.hid HNX
            have HAX := all_keys_step hlt HA2 HKB
            clear HNX
            go_wp2_with fail
            refine (lookUp_any HS2.out HR2.out (by omega) (fun j hj => by rcases hj with hj | hj; exact Nat.lt_of_lt_of_le hj HW.out.size; rw [hj]; exact HS2.out.lt) (.inr rfl) ks[k] hbd.2.2.2.1 hbd.2.2.2.2).mono ?_
            rintro e w4 ⟨ns4, rfl, hn4, hS4, hR4, hk4⟩
            rw [HN.out] at hn4 hS4 ⊢
            have HN4 := Lib.hid hn4
            have HS4 := Lib.hid hS4
            have HR4 := Lib.hid hR4
            have hk4' : Keeps (fun j => j < w1.heap.size) wr w4 := hk4.mono (fun j hj => ⟨.inl hj, by omega⟩)
            have HK4 := Lib.hid (HK2.out.trans hk4')
            have hln4 : ns4.length ≤ 10000 := by rw [← its_len, hn4, lk_len]; omega
            have hsz4 : Hid (w1.heap.size ≤ w4.heap.size) := Nat.le_trans HW.out.size hk4'.size
            clear hn4 hS4 hR4 hk4 hk4' c1
            cases hh : hasI t.1 ks[k]
            · have HHX := Lib.hid (rc_hasnt (m := m) hh)
              clear hh
              go_wp2_with fail
              refine (store_any HS4.out HR4.out hln4 (fun j hj => by rcases hj with hj | hj; exact Nat.lt_of_lt_of_le hj hsz4.out; rw [hj]; exact HS4.out.lt) (.inr rfl) (by omega) ks[k] 1 (okI_one1 hks)).mono ?_
              rintro e w5 ⟨ns5, rfl, hn5, hS5, hR5, hk5⟩
              rw [HN4.out] at hn5
              have HN5 : Hid (its ns5 = (rcStep m t ks[k]).1) := by unfold Hid; rw [HHX.out]; exact hn5
              have HS5 : Hid (ShelfAt w5 sb r m (rcStep m t ks[k]).2.1 (rcStep m t ks[k]).2.2) := by unfold Hid; rw [HHX.out]; exact hS5
              have HR5 := Lib.hid hR5
              have HK5 := Lib.hid (HK4.out.trans (hk5.mono (fun j hj => .inl hj)))
              clear hn5 hS5 hR5 hk5
              go_wp2
              go_roundw
              case rel => exact ⟨k + 1, ns5, rcStep m t ks[k], by omega, by go_num, HTX, HVX, HAX, HN5, HS5, HR5, HK5⟩
              case measure => simp [intOf]; omega
            · have HHX := Lib.hid (rc_has (m := m) hh)
              clear hh
              have HN5 : Hid (its ns4 = (rcStep m t ks[k]).1) := by unfold Hid; rw [HHX.out]; exact HN4.out
              have HS5 : Hid (ShelfAt w4 sb r m (rcStep m t ks[k]).2.1 (rcStep m t ks[k]).2.2) := by unfold Hid; rw [HHX.out]; exact HS4.out
              go_wp2
              go_roundw
              case rel => exact ⟨k + 1, ns4, rcStep m t ks[k], by omega, by go_num, HTX, HVX, HAX, HN5, HS5, HR4, HK4⟩
              case measure => simp [intOf]; omega
        · obtain rfl : k = ks.length := by omega
          have hbd := rc_bd HV2.out
          have hln : ns.length ≤ 100000 := by rw [← its_len, HN.out]; omega
          have hAA := HA2.out
          rw [List.take_length] at hAA
          have hTT := HT.out
          rw [List.take_length] at hTT
          have HC := Lib.hid (show rkB xs m g s ks = true by unfold rkB; rw [HV.out, hAA]; simp; exact h40)
          have HL := Lib.hid (rk_yes HC.out)
          have HTT := Lib.hid hTT
          clear hAA hTT
          go_wp2_with fail
          refine (cache_any HS2.out HR2.out hln).mono ?_
          rintro e w4 ⟨v4, rfl, ho4, hb4⟩
          have hlt3 : w.heap.size + 1 < wr.heap.size := by have := HW.out.size; omega
          have HG4 := (HG1.out.below HW.out (by omega)).below hb4 hlt3
          obtain ⟨c0, c1, c2, c3⟩ := HG4.cells
          obtain ⟨f0, f1, f2, f3⟩ := HG4.free
          have ho4' := ho4.1
          rw [its_len] at ho4'
          obtain ⟨xo, xcap, rfl, _, _⟩ := own_slice ho4'
          have HO4 := Lib.hid ho4
          have HB4 := Lib.hid hb4
          have HB3 : Hid (Below w.heap.size w wr) := HB1.out.trans (HW.out.mono HB1.out.size)
          clear ho4 ho4' hb4 HG4
          go_wp2
          exact bodyPost_ret (v := .tuple #[.agg #[.slice xo ns.length xcap, .int .i64 m, .int .i64 t.2.1, .int .i64 t.2.2], .bool true]) (by simp [results, Try.results82, go_sem, c0, c1, c2, c3]) rfl ⟨_, ret_cb rfl (HL.out.2 _).symm (by rw [HL.out.2, HTT.out]) (by rw [HL.out.2, HTT.out]) HC.out.symm, by
            rw [HL.out.1, ← HTT.out, ← HN.out]
            refine (HO4.out.past ?_).base (by omega)
            iterate 4 refine Keeps.past ?_ (by exact hlt3) _
            exact Keeps.refl _ _, by
            iterate 4 refine Below.setCell ?_ (by simp) _
            exact HB3.out.trans (HB4.out.mono HB3.out.size)⟩
    · have hz40 : (40 : Int) < (ks.length : Int) := by omega
      have HC := Lib.hid (show rkB xs m g s ks = false by unfold rkB; rw [decide_eq_false h40]; simp)
      have HL := Lib.hid (rk_no HC.out)
      obtain ⟨c0, c1, c2, c3⟩ := HG1.out.cells
      obtain ⟨f0, f1, f2, f3⟩ := HG1.out.free
      go_wp2
      exact bodyPost_ret (v := .tuple #[.agg #[.slice none 0 0, .int .i64 0, .int .i64 0, .int .i64 0], .bool false]) (by simp [results, Try.results82, go_sem, c0, c1, c2, c3]) rfl ⟨_, ret_cb rfl (HL.out.2 _).symm (HL.out.2 _).symm (HL.out.2 _).symm HC.out.symm, by rw [HL.out.1]; exact OwnI_nil _ _ _, by
        iterate 4 refine Below.setCell ?_ (by simp) _
        exact HB1.out⟩
end Go.Proofs.Ytojepjpmegbdmaa
