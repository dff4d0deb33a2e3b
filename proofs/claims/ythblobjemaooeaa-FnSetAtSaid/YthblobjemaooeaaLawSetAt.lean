/-
  FnSetAt: true, for every code.
-/
import Derived.Test.YthblobjemaooeaaQ9
import Derived.Test.YthblobjemaooeaaQ11
import Derived.Test.YthblobjemaooeaaQ13
import Derived.Test.YthblobjemaooeaaQ16
import Derived.Test.YthblobjemaooeaaQ17
namespace Go.Proofs.Ythblobjemaooeaa
open Go.RowKit
open Go.ChangeShapes Go.WideShapes Go.ChangeAt Go.Deep

theorem st_cases {xs : List Int} {m k x : Int} (h : stB xs m (inD xs m k) x = true) :
    ∃ j : Nat, j < xs.length ∧ setN xs (inD xs m k) x = xs.set j x ∧ getV (xs.set j x) (inD (xs.set j x) m k) = x ∧ getOk (inD (xs.set j x) m k) = true := by
  unfold stB at h
  rw [Bool.and_eq_true] at h
  have h0 : 0 ≤ inD xs m k := of_decide_eq_true h.1
  obtain ⟨hl, hv, e⟩ := (inD_bd (xs := xs) (m := m) (k := k)).2 h0
  obtain ⟨j, hj⟩ := Int.eq_ofNat_of_zero_le h0
  have hjl : j < xs.length := by omega
  have es : setN xs (inD xs m k) x = xs.set j x := by unfold setN; rw [hj]; rfl
  have hv2 : validD (xs.set j x) m = true := by rw [← es]; exact h.2
  have e2 : inD (xs.set j x) m k = (j : Int) := by
    have : inD (xs.set j x) m k = inD xs m k := by
      unfold inD
      rw [if_pos hv2, if_pos hv, List.length_set]
    rw [this, hj]
  refine ⟨j, hjl, es, ?_, ?_⟩
  · rw [e2]
    unfold getV
    rw [if_pos (by omega)]
    simp [hjl]
  · rw [e2]; exact decide_eq_true (by omega)

set_option maxHeartbeats 4000000 in
set_option maxRecDepth 100000 in
theorem FnSetAt_walk (v : Value) (bs : List Int) (w : World) (h : Bytes w v bs) :
    Calls Try.prog 8 #[v] w fun e w' => e = .returned (.bool true) ∧ Below w.heap.size w w' := by
  have h0 := h
  obtain ⟨ao, cap, rfl, hl, hc, hok, hcell⟩ := h0
  clear hcell hok
  go_enter Try.func8, Try.ntmps8
  by_cases hbig : (1048576 : Int) < (bs.length : Int)
  · go_wp2
    go_ret
    exact ⟨rfl, Below.refl _ _⟩
  go_wp2_with fail
  refine (DrawSetAt_any _ bs w h).mono ?_
  rintro e w1 ⟨vd, xs, m, k, x, rfl, ho, hbnd, hk, hx, hbl⟩
  have H1 := (Things.nil w).new (t := numT w.heap.size w1.heap.size vd xs) (Nat.le_refl _) (Nat.le_refl _) ho hbl
  obtain ⟨dp, dc, rfl, hdc, hdm⟩ := (H1.nums 0 rfl).slice
  have H2 := H1.boxed 25 [.slice dp xs.length dc, .int .i64 m]
  clear ho hbl H1 h
  obtain ⟨G, hG⟩ : ∃ G, Hid (G = ifN (stB xs m (inD xs m k) x) (setN xs (inD xs m k) x)) := ⟨_, Lib.hid rfl⟩
  obtain ⟨g, hg⟩ : ∃ g, Hid (g = ifI (stB xs m (inD xs m k) x) m) := ⟨_, Lib.hid rfl⟩
  obtain ⟨K, hK⟩ : ∃ K, Hid (K = stB xs m (inD xs m k) x) := ⟨_, Lib.hid rfl⟩
  have cI := Lib.hid (fun (v0 : Value) (w : World) (h0 : Nums w v0 xs) => (show Calls Try.prog 34 #[.agg #[v0, .int .i64 m], .int .i64 k, .int .i64 x] w (NewD G g K w) by rw [hG.out, hg.out, hK.out]; exact SetAt_any v0 xs m k x w h0 hk hx))
  have cS := Lib.hid (fun (v0 : Value) (w : World) (h0 : Nums w v0 xs) => (show Calls Try.prog 35 #[.agg #[v0, .int .i64 m], .int .i64 k, .int .i64 x] w (NewD G g K w) by rw [hG.out, hg.out, hK.out]; exact sSetAt_any v0 xs m k x w h0 hk hx))
  obtain ⟨d0_, d1_⟩ := H2.box2 0 rfl
  go_wp2_with fail
  refine (cI.out _ _ (H2.nums 1 rfl)).mono ?_
  rintro e w3 ⟨vo, rfl, ho, hbl⟩
  have H3 := H2.newN ho hbl
  obtain ⟨op, oc, rfl, hoc, hom⟩ := (H3.nums 0 rfl).slice
  have H4 := H3.boxed 25 [.slice op G.length oc, .int .i64 g]
  clear d0_ d1_
  clear H2 H3 ho hbl
  obtain ⟨d0_, d1_⟩ := H4.box2 2 rfl
  go_wp2_with fail
  refine (cS.out _ _ (H4.nums 3 rfl)).mono ?_
  rintro e w5 ⟨vw, rfl, ho, hbl⟩
  have H5 := H4.newN ho hbl
  obtain ⟨wp, wc, rfl, hwc, hwm⟩ := (H5.nums 0 rfl).slice
  have H6 := H5.boxed 25 [.slice wp G.length wc, .int .i64 g]
  clear d0_ d1_
  clear H4 H5 ho hbl
  clear cI cS
  obtain ⟨o0_, o1_⟩ := H6.box2 2 rfl
  obtain ⟨w0_, w1_⟩ := H6.box2 0 rfl
  go_wp2_with fail
  refine (equalD_T H6 (H6.nums 3 rfl) (H6.nums 1 rfl)).mono ?_
  rintro e w7 ⟨rfl, H7⟩
  clear o0_ o1_ w0_ w1_
  clear H6
  cases K
  · skip
    obtain ⟨o0_, o1_⟩ := H7.box2 2 rfl
    obtain ⟨w0_, w1_⟩ := H7.box2 0 rfl
    go_wp2_with fail
    refine (equalD_T H7 (H7.nums 3 rfl) (H7.nums 1 rfl)).mono ?_
    rintro e w8 ⟨rfl, H8⟩
    clear o0_ o1_ w0_ w1_
    clear H7
    go_wp2
    go_ret
    exact ⟨rfl, H8.below⟩
  · have hkk := hK.out.symm
    obtain ⟨j, hj, es, ev, eo⟩ := st_cases hkk
    have hGe : G = xs.set j x := by rw [hG.out, hkk, ← es]; rfl
    obtain rfl : g = m := by rw [hg.out, hkk]; rfl
    rw [← hGe] at ev eo
    have hGl := Lib.hid (show G.length = xs.length by rw [hGe, List.length_set])
    have HE : Hid (∀ (i : Nat) (h : i < xs.length) (h' : i < G.length), i ≠ j → G[i] = xs[i]) := fun i h h' hne => by
      simp only [hGe]
      rw [List.getElem_set, if_neg (fun e => hne e.symm)]
    have hxl : xs.length ≤ 11 := hbnd.1
    have c1 := Lib.hid (fun (v0 : Value) (w : World) (h0 : Nums w v0 G) => (show Calls Try.prog 25 #[.agg #[v0, .int .i64 g], .int .i64 k] w (RetN (.tuple #[.int .i64 x, .bool true]) w) by have h1 := GetAt_any v0 G g k w h0 hk; rw [ev, eo] at h1; exact h1))
    clear hG hg hK hkk es ev eo hGe hbnd
    obtain ⟨o0_, o1_⟩ := H7.box2 2 rfl
    go_wp2_with fail
    refine (c1.out _ _ (H7.nums 3 rfl)).mono ?_
    rintro e w8 ⟨rfl, hb⟩
    have H8 := H7.quiet hb
    clear o0_ o1_
    clear hb H7
    obtain ⟨d0_, d1_⟩ := H8.box2 4 rfl
    obtain ⟨o0_, o1_⟩ := H8.box2 2 rfl
    have hGl2 : ((G.length : Int) == (xs.length : Int)) = true := by rw [hGl.out]; exact beq_self_eq_true _
    go_wp2
    go_loopw [12, 13] (fun c i wr => ∃ q : Nat, i = .int .i64 q ∧ q ≤ xs.length ∧ (∃ D : Nat, c = .int .i64 D ∧ Hid (D ≤ 1 ∧ (q ≤ j → D = 0))) ∧ Below w8.heap.size w8 wr) (fun _ i _ => xs.length - (intOf i).toNat)
    case atStart => exact ⟨0, rfl, Nat.zero_le _, ⟨0, rfl, Lib.hid ⟨by omega, fun _ => rfl⟩⟩, Below.refl _ _⟩
    case round =>
      obtain ⟨q, rfl, hq, ⟨D, rfl, hD⟩, hbl⟩ := hrel
      have HR := H8.quiet hbl
      clear d0_ d1_ o0_ o1_
      obtain ⟨d0_, d1_⟩ := HR.box2 4 rfl
      obtain ⟨o0_, o1_⟩ := HR.box2 2 rfl
      by_cases hlt : q < xs.length
      · have hlt3 : q < G.length := by have := hGl.out; omega
        have hDb := hD.out.1
        obtain ⟨b1, o1, rfl, hb1, k1⟩ := Nums.cellAt (HR.nums 3 rfl) hlt3
        obtain ⟨b2, o2, rfl, hb2, k2⟩ := Nums.cellAt (HR.nums 5 rfl) hlt
        have i1 : (q : Int) < (xs.length : Int) := by omega
        have i2 : (q : Int) < (G.length : Int) := by omega
        have i3 : (0 : Int) ≤ (q : Int) := by omega
        by_cases hne : G[q] = xs[q]
        · have hb : (G[q] != xs[q]) = false := by rw [hne]; exact bne_self_eq_false _
          have hD2 : Hid (D ≤ 1 ∧ (q + 1 ≤ j → D = 0)) := ⟨hD.out.1, fun h => hD.out.2 (by omega)⟩
          clear hne HR hDb
          go_wp2_with fail
          go_quiet (fail)
          go_wp2
          go_roundw
          case rel => exact ⟨q + 1, by go_num, by omega, ⟨D, rfl, hD2⟩, belowN hbl _⟩
          case measure => simp [intOf]; omega
        · have hb : (G[q] != xs[q]) = true := by rw [bne_iff_ne]; exact hne
          obtain rfl : q = j := by
            rcases Nat.lt_trichotomy q j with h | h | h
            · exact absurd (HE.out q hlt hlt3 (by omega)) hne
            · exact h
            · exact absurd (HE.out q hlt hlt3 (by omega)) hne
          obtain rfl : D = 0 := hD.out.2 (Nat.le_refl _)
          clear hne HR hDb hD
          go_wp2_with fail
          go_quiet (fail)
          go_wp2
          go_roundw
          case rel => exact ⟨q + 1, by go_num, by omega, ⟨1, by go_num, Lib.hid ⟨Nat.le_refl _, fun h => by omega⟩⟩, belowN hbl _⟩
          case measure => simp [intOf]; omega
      · obtain rfl : q = xs.length := by omega
        have hDb := hD.out.1
        have hDi : (D : Int) ≤ 1 := by omega
        clear hD
        go_wp2
        go_ret
        exact ⟨rfl, HR.below⟩

set_option maxRecDepth 100000 in
theorem FnSetAt_lifted (os : Os) (started : os.Started) (H : Type) (enc : TypeId × Value → H) :
    ReturnsInHanded {} Try.checked os 8 .any (Rows.fnSetAtSpec.pre6 enc Try.prog Try.f8 Rows.fnSetAtRow.domain false) (Rows.fnSetAtSpec.post enc Try.prog Try.f8 false true false false) := by
  refine returnsInHanded_of_change (C := Try.checked) own started (by kernel_rfl) Try.func8
    (ChangeSpec.witness6 (enc := enc) (C := Try.checked) false ⟨#[], #[.slice none 0 0], []⟩ 8 (by kernel_rfl) (by kernel_rfl) (by kernel_rfl) (by kernel_rfl)) ?_
  intro W base args ds gs before hval0 hW _ _
  have hval : ∀ (j : Nat) t v, Try.f8.params[j]? = some t → args[j]? = some v → Value.okWide Try.prog W .any base t v := hval0
  have hW' := hW
  obtain ⟨p, q, hA0, hV, rfl, _, _⟩ := hW
  have hA : DataW.TrodAll enc Try.prog W 0 (fun _ => true) true Try.f8.params.toList args.toList ds p := hA0
  rw [Try.params8] at hA hval
  obtain ⟨v0, vs0, d0, ds0, p0, q0, hargs, rfl, rfl, h0, r0⟩ := trodAll_cons hA
  obtain ⟨rfl, rfl, rfl⟩ := trodAll_nil r0
  obtain rfl : args = #[v0] := by cases args; simp_all
  obtain ⟨rfl, rfl⟩ := trodVars_none hV
  obtain ⟨xs0, hI0⟩ := open_bytes (hval 0 _ v0 rfl rfl) h0
  refine (FnSetAt_walk v0 xs0 W hI0).mono fun e W' ⟨he, hb⟩ => ⟨_, he, ?_⟩
  exact law_end rfl (by rw [Try.params8]; decide +kernel) rfl hW' rfl rfl rfl hb

theorem FnSetAt_facts : joinedFacts Try.prog 8 Try.f8 Rows.fnSetAtSpec Rows.fnSetAtRow = true :=
  facts_of (by kernel_rfl) q2 q3 (by kernel_rfl) (by kernel_rfl) (by kernel_rfl) q7 (by kernel_rfl) q9 (by kernel_rfl) (by kernel_rfl) (by kernel_rfl) (by kernel_rfl) (by kernel_rfl) (by kernel_rfl) (by kernel_rfl) (by kernel_rfl) (by kernel_rfl) (by kernel_rfl) (by kernel_rfl) (by kernel_rfl) (by kernel_rfl)
    (by rw [q22]; kernel_rfl) (by kernel_rfl) q23 head_enter (by kernel_rfl) head_lifts head_make (by kernel_rfl) (by kernel_rfl) (by kernel_rfl) (by kernel_rfl) (by kernel_rfl)

theorem FnSetAt_holds : Rows.FnSetAtSaid :=
  OpenClaim.holds_of_wide 8 Try.f8 rfl rfl rfl rfl rfl rfl rfl ⟨rfl, rfl, rfl, rfl, rfl⟩ rfl rfl rfl rfl rfl (by kernel_rfl) Try.func8 FnSetAt_facts
    (of_decide_eq_true (by kernel_rfl)) (by unfold Func.isWrapper; first | (rw [if_pos (by decide +kernel)]; kernel_rfl) | (rw [if_neg (by decide +kernel)]; exact ⟨rfl, rfl⟩))
    (fun os started H enc _ => FnSetAt_lifted os started H enc)
end Go.Proofs.Ythblobjemaooeaa
