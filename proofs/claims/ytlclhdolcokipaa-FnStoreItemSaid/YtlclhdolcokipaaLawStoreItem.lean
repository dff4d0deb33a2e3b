/-
  FnStoreItem: true, for every code.
-/
import Derived.Test.YtlclhdolcokipaaD5
import Derived.Test.YtlclhdolcokipaaD11
import Derived.Test.YtlclhdolcokipaaD15
import Derived.Test.YtlclhdolcokipaaD16
import Derived.Test.YtlclhdolcokipaaD18
import Derived.Test.YtlclhdolcokipaaD20
import Derived.Test.YtlclhdolcokipaaD21
namespace Go.Proofs.Ytlclhdolcokipaa
open Go.RowKit
open Go.ChangeShapes Go.WideShapes Go.ChangeAt Go.Deep

theorem plc_has2 {l : List Itm} {s : ByteArray} (hv : validI l = true) (h : hasI l s = true) : 0 ≤ plcN l s := by
  unfold plcN
  rw [hv, if_pos rfl]
  obtain ⟨k, _, h1, _⟩ := plcI_yes (l := l) (s := s) 0 h
  rw [h1]
  omega
theorem plc_hasnt2 {l : List Itm} {s : ByteArray} (h : hasI l s = false) : plcN l s = -1 := by
  unfold plcN
  rw [plcI_no 0 h]
  split <;> rfl
theorem st_keeps {xs : List Itm} {m g s : Int} {t : ByteArray} {n : Int} (h : vcB xs m g s = true) {j : Nat} (hj : j < xs.length) : hasI (stI xs m t n) xs[j].1 = true ∨ (j = 0 ∧ (xs.length : Int) = m ∧ hasI xs t = false) := by
  obtain ⟨hv, hm, hl, _, _⟩ := vc_yes h
  have hin : hasI xs xs[j].1 = true := hasI_mem.2 ⟨_, List.getElem_mem hj, rfl⟩
  cases hh : hasI xs t
  · rw [st_none hh]
    by_cases hlm : (xs.length : Int) = m
    · by_cases hj0 : j = 0
      · exact .inr ⟨hj0, hlm, rfl⟩
      · left
        have e : xs.length + 1 - m.toNat = 1 := by omega
        rw [e, hasI_mem]
        refine ⟨xs[j], ?_, rfl⟩
        obtain ⟨i, rfl⟩ : ∃ i, j = i + 1 := ⟨j - 1, by omega⟩
        refine List.mem_iff_getElem.2 ⟨i, by simp; omega, ?_⟩
        rw [List.getElem_drop, List.getElem_append_left (by omega)]
        congr 1
        omega
    · left
      have e : xs.length + 1 - m.toNat = 0 := by omega
      rw [e, List.drop_zero, hasI_mem]
      exact ⟨xs[j], List.mem_append_left _ (List.getElem_mem hj), rfl⟩
  · left
    rw [(st_has (n := n) hh hl).1]
    by_cases hk : t = xs[j].1
    · rw [hasI_mem]
      exact ⟨(t, n), by simp, hk⟩
    · have hu := ((validI_iff _).1 hv).2.1
      have hd : hasI (delI xs t) xs[j].1 = true := by rw [hasI_delI t _ hu, hin]; simp [hk]
      obtain ⟨x, hx, hxe⟩ := hasI_mem.1 hd
      exact hasI_mem.2 ⟨x, List.mem_append_left _ hx, hxe⟩
theorem lostN_ex (xs G : List Itm) : ∃ Z : Int, (Z = 0 ∨ Z = 1) ∧ (xs = [] → Z = 0) ∧ ∀ h : 0 < xs.length, (Z = 0 ↔ hasI G xs[0].1 = true) := by
  cases xs with
  | nil => exact ⟨0, .inl rfl, fun _ => rfl, fun h => by simp at h⟩
  | cons x r =>
    cases hh : hasI G x.1
    · exact ⟨1, .inr rfl, fun h => by simp at h, fun _ => by simp [hh]⟩
    · exact ⟨0, .inl rfl, fun _ => rfl, fun _ => by simp [hh]⟩
theorem cnt_last {r : List Itm} {t : ByteArray} {n : Int} (h : hasI r t = false) : cnt (r ++ [(t, n)]) t = n := by
  induction r with
  | nil => simp [cnt]
  | cons x r ih =>
    have h' : ¬ x.1 = t ∧ hasI r t = false := by simpa [hasI] using h
    simp only [List.cons_append, cnt]
    rw [if_neg h'.1]
    exact ih h'.2
theorem st_end {xs : List Itm} {m g s : Int} {t : ByteArray} {n : Int} (h : vcB xs m g s = true) (hv : validI (stI xs m t n) = true) : ∃ p, ∃ hp : p < (stI xs m t n).length, (stI xs m t n).length = p + 1 ∧ (stI xs m t n)[p].1 = t ∧ hasI (stI xs m t n) t = true ∧ cnt (stI xs m t n) t = n := by
  obtain ⟨_, hm, _, _, _⟩ := vc_yes h
  obtain ⟨r, e⟩ := stI_last xs m t n hm.1
  rw [e] at hv ⊢
  have hr : hasI r t = false := by
    have hu := uniq_nodup.1 ((validI_iff _).1 hv).2.1
    cases hh : hasI r t
    · rfl
    · obtain ⟨x, hx, hxe⟩ := hasI_mem.1 hh
      unfold keysL at hu
      rw [List.map_append, List.nodup_append] at hu
      exact absurd rfl (hu.2.2 t (List.mem_map.2 ⟨x, hx, hxe⟩) t (by simp))
  exact ⟨r.length, by simp, by simp, by simp, hasI_mem.2 ⟨(t, n), by simp, rfl⟩, cnt_last hr⟩

set_option maxHeartbeats 4000000 in
set_option maxRecDepth 100000 in
theorem FnStoreItem_walk (v : Value) (bs : List Int) (w : World) (h : Bytes w v bs) :
    Calls Try.prog 5 #[v] w fun e w' => e = .returned (.bool true) ∧ Below w.heap.size w w' := by
  have h0 := h
  obtain ⟨ao, cap, rfl, hl, hc, hok, hcell⟩ := h0
  clear hcell hok
  go_enter Try.func5, Try.ntmps5
  by_cases hbig : (1048576 : Int) < (bs.length : Int)
  · go_wp2
    go_ret
    exact ⟨rfl, Below.refl _ _⟩
  go_wp2_with fail
  refine (DrawStoreItem_any _ bs w h).mono ?_
  rintro e w1 ⟨vc, xs, m, g, s, t, n, rfl, hbd, hts, hit, hik, hbl⟩
  have H1 := (Things.nil w).new (t := readT w.heap.size w1.heap.size vc xs) (Nat.le_refl _) (Nat.le_refl _) ⟨hit, hik⟩ hbl
  obtain ⟨cp, cc, rfl, hcc, hcm⟩ := Items.shape0 (H1.ritems 0 rfl)
  have H2 := H1.boxed 25 [.slice cp xs.length cc, .int .i64 m, .int .i64 g, .int .i64 s]
  clear hit hik hbl H1 h
  obtain ⟨hts, hn1, hn2⟩ := hts
  obtain ⟨G, hG⟩ : ∃ G, Hid (G = soL xs m g s t n) := ⟨_, Lib.hid rfl⟩
  obtain ⟨gm, hgm⟩ : ∃ gm, Hid (gm = soM xs m g s t n m) := ⟨_, Lib.hid rfl⟩
  obtain ⟨gg, hgg⟩ : ∃ gg, Hid (gg = soM xs m g s t n g) := ⟨_, Lib.hid rfl⟩
  obtain ⟨gs, hgs⟩ : ∃ gs, Hid (gs = soM xs m g s t n s) := ⟨_, Lib.hid rfl⟩
  obtain ⟨B, hB⟩ : ∃ B, Hid (B = soB xs m g s t n) := ⟨_, Lib.hid rfl⟩
  have cI := Lib.hid (fun (v0 : Value) (w : World) (h0 : Items w v0 xs) => (show Calls Try.prog 25 #[.agg #[v0, .int .i64 m, .int .i64 g, .int .i64 s], .string t, .int .i64 n] w (NewL (fun v => .tuple #[.agg #[v, .int .i64 gm, .int .i64 gg, .int .i64 gs], .bool B]) G w) by rw [hG.out, hgm.out, hgg.out, hgs.out, hB.out]; exact StoreItem_any v0 xs m g s t n w h0 hts (by omega)))
  have cS := Lib.hid (fun (v0 : Value) (w : World) (h0 : Items w v0 xs) => (show Calls Try.prog 26 #[.agg #[v0, .int .i64 m, .int .i64 g, .int .i64 s], .string t, .int .i64 n] w (NewW (fun v => .tuple #[.agg #[v, .int .i64 gm, .int .i64 gg, .int .i64 gs], .bool B]) G w) by rw [hG.out, hgm.out, hgg.out, hgs.out, hB.out]; exact sStoreItem_any v0 xs m g s t n w h0 hts (by omega)))
  obtain ⟨c0_, c1_, c2_, c3_⟩ := H2.box4 0 rfl
  go_wp2_with fail
  refine (cI.out _ _ (H2.ritems 1 rfl)).mono ?_
  rintro e w3 ⟨vo, rfl, ho, hbl⟩
  have H3 := H2.newI ho hbl
  obtain ⟨op, oc, rfl, hoc, hom⟩ := Items.shape0 (H3.items 0 rfl)
  clear c0_ c1_ c2_ c3_
  have H4 := H3.boxed 25 [.slice op G.length oc, .int .i64 gm, .int .i64 gg, .int .i64 gs]
  clear H2 H3 ho hbl
  obtain ⟨c0_, c1_, c2_, c3_⟩ := H4.box4 2 rfl
  go_wp2_with fail
  refine (cS.out _ _ (H4.ritems 3 rfl)).mono ?_
  rintro e w5 ⟨vw, Vw, ysw, rfl, ho, huw, hbl⟩
  have H5 := H4.newI ho hbl
  obtain ⟨wp, wc, rfl, hwc, hwm⟩ := Items.shape0 (huw.out _ (H5.items 0 rfl))
  clear c0_ c1_ c2_ c3_
  have H6 := H5.boxed 25 [.slice wp G.length wc, .int .i64 gm, .int .i64 gg, .int .i64 gs]
  clear H4 H5 ho hbl
  clear cI cS
  obtain ⟨o0_, o1_, o2_, o3_⟩ := H6.box4 2 rfl
  obtain ⟨w0_, w1_, w2_, w3_⟩ := H6.box4 0 rfl
  go_wp2_with fail
  refine (equalK_T H6 (H6.items 3 rfl) (huw.out _ (H6.items 1 rfl))).mono ?_
  rintro e w7 ⟨rfl, H7⟩
  clear o0_ o1_ o2_ o3_ w0_ w1_ w2_ w3_
  clear H6
  cases B
  · skip
    obtain ⟨o0_, o1_, o2_, o3_⟩ := H7.box4 2 rfl
    obtain ⟨w0_, w1_, w2_, w3_⟩ := H7.box4 0 rfl
    go_wp2_with fail
    refine (equalK_T H7 (H7.items 3 rfl) (huw.out _ (H7.items 1 rfl))).mono ?_
    rintro e w8 ⟨rfl, H8⟩
    clear o0_ o1_ o2_ o3_ w0_ w1_ w2_ w3_
    clear H7
    go_wp2
    go_ret
    exact ⟨rfl, H8.below⟩
  · have hb := hB.out.symm
    have hso := so_yes hb
    have hvc : vcB xs m g s = true := by unfold soB at hb; rw [Bool.and_eq_true] at hb; exact hb.1
    have hkn : (keyB t && numB n) = true := by unfold soB at hb; rw [Bool.and_eq_true] at hb; exact hb.2
    have hGe : G = stI xs m t n := by rw [hG.out, hso.1]
    obtain rfl : gm = m := by rw [hgm.out, hso.2]
    obtain rfl : gg = g := by rw [hgg.out, hso.2]
    obtain rfl : gs = s := by rw [hgs.out, hso.2]
    have hvG : vcB G gm gg gs = true := by rw [hGe, st_valid hvc, hkn]
    have hvi := (vc_yes hvG).1
    obtain ⟨p, hp, hpl, hpk, hpt, hpn⟩ : ∃ p, ∃ hp : p < G.length, G.length = p + 1 ∧ G[p].1 = t ∧ hasI G t = true ∧ cnt G t = n := by rw [hGe]; exact st_end hvc (by rw [← hGe]; exact hvi)
    obtain ⟨Z, hZ, hZ0, hZ1⟩ := lostN_ex xs G
    have hlost : Hid (Z = 1 → (xs.length : Int) = gm ∧ plcN xs t = -1) := fun hz => by
      have h0 : 0 < xs.length := by
        rcases Nat.eq_zero_or_pos xs.length with h | h
        · have := hZ0 (List.eq_nil_of_length_eq_zero h); omega
        · exact h
      have h1 := st_keeps (t := t) (n := n) hvc h0
      rw [← hGe] at h1
      rcases h1 with h1 | ⟨_, h2, h3⟩
      · have := (hZ1 h0).2 h1; omega
      · exact ⟨h2, plc_hasnt2 h3⟩
    have hP0 : Hid (∀ h : 0 < xs.length, (Z = 0 → 0 ≤ plcN G xs[0].1) ∧ (Z = 1 → plcN G xs[0].1 = -1)) := fun h => ⟨fun hz => plc_has2 hvi ((hZ1 h).1 hz), fun hz => plc_hasnt2 (by cases hh : hasI G xs[0].1; rfl; exact absurd ((hZ1 h).2 hh) (by omega))⟩
    have hPk : Hid (∀ (k : Nat) (h : k < xs.length), 0 < k → 0 ≤ plcN G xs[k].1) := fun k h hk => by
      have h1 := st_keeps (t := t) (n := n) hvc h
      rw [← hGe] at h1
      rcases h1 with h1 | ⟨h2, _⟩
      · exact plc_has2 hvi h1
      · omega
    have hZe : Hid (xs.length = 0 → Z = 0) := fun h => hZ0 (List.eq_nil_of_length_eq_zero h)
    have cL := Lib.hid (fun (v0 : Value) (w : World) (h0 : Items w v0 G) => (show Calls Try.prog 18 #[.agg #[v0, .int .i64 gm, .int .i64 gg, .int .i64 gs], .string t] w (NewL (fun v => .tuple #[.agg #[v, .int .i64 gm, .int .i64 (lkG G t gg), .int .i64 (lkS G t gs)], .int .i64 n, .bool true]) (lkI G t) w) by have h1 := LookUp_any v0 G gm gg gs t w h0; obtain ⟨l1, l2, l3, l4, l5, l6⟩ := lu_yes (k := t) hvG; rw [l1, l2, l3, l4, l5, l6, hpt, show lkN G t = n by unfold lkN; rw [hpt, if_pos rfl, hpn]] at h1; exact h1))
    have cV := Lib.hid (fun (v0 : Value) (w : World) (h0 : Items w v0 G) => (show Calls Try.prog 15 #[.agg #[v0, .int .i64 gm, .int .i64 gg, .int .i64 gs]] w (RetQ (.bool true) w) by exact VC_v w h0 hvG))
    have cP := Lib.hid (fun (v0 : Value) (w : World) (h0 : Items w v0 xs) => (show Calls Try.prog 27 #[v0, .string t] w (RetQ (.int .i64 (plcN xs t)) w) by exact PlaceOf_any v0 xs t w h0))
    have hGle : G.length ≤ 8 := ((validI_iff _).1 hvi).2.2
    have HPL := Lib.hid hpl
    clear hpl
    have hx9 := hbd.1
    obtain ⟨A, hA⟩ : ∃ A, Hid (A = lkI G t) := ⟨_, Lib.hid rfl⟩
    obtain ⟨a1, ha1⟩ : ∃ a1, Hid (a1 = lkG G t gg) := ⟨_, Lib.hid rfl⟩
    obtain ⟨a2, ha2⟩ : ∃ a2, Hid (a2 = lkS G t gs) := ⟨_, Lib.hid rfl⟩
    rw [← hA.out, ← ha1.out, ← ha2.out] at cL
    clear hG hgm hgg hgs hB hb hso hvc hkn hGe hvG hvi hpt hpn hZ0 hZ1 hbd hA ha1 ha2
    obtain ⟨o0_, o1_, o2_, o3_⟩ := H7.box4 2 rfl
    go_wp2_with fail
    refine (cL.out _ _ (H7.items 3 rfl)).mono ?_
    rintro e w8 ⟨vk, rfl, ho, hbl⟩
    have H8 := H7.newI ho hbl
    obtain ⟨kp, kc, rfl, hkc, hkm⟩ := Items.shape0 (H8.items 0 rfl)
    clear o0_ o1_ o2_ o3_
    have H9 := H8.boxed 25 [.slice kp A.length kc, .int .i64 gm, .int .i64 a1, .int .i64 a2]
    clear H7 H8 ho hbl
    clear cL
    have HW := H9.quiet (Below.refl _ _)
    obtain ⟨wB, hwB⟩ : ∃ wB, wB = w8.alloc (.cells #[.slice kp A.length kc, .int .i64 gm, .int .i64 a1, .int .i64 a2] 25) := ⟨_, rfl⟩
    go_wp2
    rw [← hwB] at H9 ⊢
    clear HW
    go_loopw [13, 14] (fun l i wr => ∃ (k : Nat) (e : Int), i = .int .i64 k ∧ l = .int .i64 e ∧ k ≤ xs.length ∧ ((k = 0 → e = 0) ∧ (0 < k → e = Z)) ∧ Below wB.heap.size wB wr) (fun _ i _ => xs.length - (intOf i).toNat)
    case atStart => exact ⟨0, 0, rfl, rfl, Nat.zero_le _, ⟨fun _ => rfl, fun h => absurd h (by omega)⟩, Below.refl _ _⟩
    case round =>
      obtain ⟨k, e, rfl, rfl, hk, hek, hbl⟩ := hrel
      have R := H9.quiet hbl
      obtain ⟨c0_, c1_, c2_, c3_⟩ := R.box4 6 rfl
      obtain ⟨o0_, o1_, o2_, o3_⟩ := R.box4 4 rfl
      have HRo := Lib.hid (R.items 5 rfl)
      have HRc := Lib.hid (R.ritems 7 rfl)
      by_cases hlt : k < xs.length
      · obtain ⟨b, o, hce, hb, y0, y1⟩ := Items.cellAt HRc.out hlt
        subst hce
        obtain ⟨P, hP⟩ : ∃ P, Hid (P = plcN G xs[k].1) := ⟨_, Lib.hid rfl⟩
        obtain ⟨u, hu⟩ : ∃ u, Hid (u = xs[k].1) := ⟨_, Lib.hid rfl⟩
        rw [← hu.out] at y0
        have cQ := Lib.hid (fun (v0 : Value) (w : World) (h0 : Items w v0 G) => (show Calls Try.prog 27 #[v0, .string u] w (RetQ (.int .i64 P) w) by rw [hP.out, hu.out]; exact PlaceOf_any v0 G _ w h0))
        have hki : (0 : Int) ≤ (k : Int) := by omega
        have hkl : (k : Int) < (xs.length : Int) := by omega
        have c0f := fresh_cell c0_
        have o0f := fresh_cell o0_
        have y0f := fresh_cell y0
        have HF := Lib.hid (fun q : Fresh wr => (HRo.out).mono q.is (Nat.le_refl _))
        go_wp2_with fail
        clear c0_ c1_ c2_ c3_ o0_ o1_ o2_ o3_ y0 y1 R
        refine region_fresh (by kernel_rfl) (by kernel_rfl) ?_
        repeat (with_reducible refine wpQuiet_step ?_; intro K hK; go_simp; first | (refine hK _ ?_; clear hK K) | (apply Exists.intro; refine ⟨fun _ => ?_, hK _ ?_⟩; (go_at_call 27; exact fresh_Q (cQ.out _ _ (HF.out _))); clear hK K))
        with_reducible refine wpQuiet_nil ?_
        intro _ hw'
        obtain ⟨⟨wq, hq⟩, hw''⟩ := hw'
        subst hw''
        have hblq := hbl.trans (hq.mono hbl.size)
        clear c0f o0f y0f HF cQ hu
        by_cases hk0 : k = 0
        · subst hk0
          obtain rfl : e = 0 := hek.1 rfl
          rcases hZ with hz | hz
          · have hPn : ¬ P < 0 := by have := (hP0.out hlt).1 hz; rw [hP.out]; omega
            have hPn2 : 0 ≤ P := by omega
            clear hP
            go_wp2
            go_roundw
            case rel => exact ⟨1, 0, by go_num, rfl, by omega, ⟨fun h => absurd h (by omega), fun _ => hz.symm⟩, hblq⟩
            case measure => simp [intOf]; omega
          · have hPn : P < 0 := by have := (hP0.out hlt).2 hz; rw [hP.out]; omega
            clear hP
            go_wp2
            go_roundw
            case rel => exact ⟨1, 1, by go_num, by go_num, by omega, ⟨fun h => absurd h (by omega), fun _ => hz.symm⟩, hblq⟩
            case measure => simp [intOf]; omega
        · have hPn2 : 0 ≤ P := by have := hPk.out k hlt (by omega); rw [hP.out]; omega
          have hPn : ¬ P < 0 := by omega
          clear hP
          go_wp2
          go_roundw
          case rel => exact ⟨k + 1, e, by go_num, rfl, by omega, ⟨fun h => absurd h (by omega), fun _ => hek.2 (by omega)⟩, hblq⟩
          case measure => simp [intOf]; omega
      · obtain rfl : k = xs.length := by omega
        obtain rfl : e = Z := by
          rcases Nat.eq_zero_or_pos xs.length with h | h
          · rw [hek.1 h, hZe.out h]
          · exact hek.2 h
        obtain ⟨b4, o4, hoe, hb4, y0, y1⟩ := Items.cellAt HRo.out hp
        subst hoe
        rw [hpk] at y0
        have hwr : IntKind.i64.wrap ((G.length : Int) - 1) = (p : Int) := by have hpl := HPL.out; rw [IntWalk.i64_in _ (by omega)]; omega
        have hp0 : (0 : Int) ≤ (p : Int) := by omega
        have hp1 : (p : Int) < (G.length : Int) := by omega
        clear hpk y1 R
        go_wp2_with fail
        refine (cV.out _ _ HRo.out).mono ?_
        rintro e w17 ⟨rfl, hb⟩
        have R := H9.quiet (hbl.trans (hb.mono hbl.size))
        clear c0_ c1_ c2_ c3_ o0_ o1_ o2_ o3_ y0
        obtain ⟨c0_, c1_, c2_, c3_⟩ := R.box4 6 rfl
        rcases hZ with rfl | rfl
        · go_wp2
          go_ret
          exact ⟨rfl, R.below⟩
        · obtain ⟨z1, z2⟩ := hlost.out rfl
          have hlm : ((xs.length : Int) == gm) = true := by rw [z1]; exact beq_self_eq_true _
          rw [z2] at cP
          clear z1 z2
          go_wp2_with fail
          refine (cP.out _ _ (R.ritems 7 rfl)).mono ?_
          rintro e w18 ⟨rfl, hb9⟩
          have R9 := R.quiet hb9
          go_wp2
          go_ret
          exact ⟨rfl, R9.below⟩

set_option maxRecDepth 100000 in
theorem FnStoreItem_lifted (os : Os) (started : os.Started) (H : Type) (enc : TypeId × Value → H) :
    ReturnsInHanded {} Try.checked os 5 .any (Rows.fnStoreItemSpec.pre6 enc Try.prog Try.f5 Rows.fnStoreItemRow.domain false) (Rows.fnStoreItemSpec.post enc Try.prog Try.f5 false true false false) := by
  refine returnsInHanded_of_change (C := Try.checked) own started (by kernel_rfl) Try.func5
    (ChangeSpec.witness6 (enc := enc) (C := Try.checked) false ⟨#[], #[.slice none 0 0], []⟩ 8 (by kernel_rfl) (by kernel_rfl) (by kernel_rfl) (by kernel_rfl)) ?_
  intro W base args ds gs before hval0 hW _ _
  have hval : ∀ (j : Nat) t v, Try.f5.params[j]? = some t → args[j]? = some v → Value.okWide Try.prog W .any base t v := hval0
  have hW' := hW
  obtain ⟨p, q, hA0, hV, rfl, _, _⟩ := hW
  have hA : DataW.TrodAll enc Try.prog W 0 (fun _ => true) true Try.f5.params.toList args.toList ds p := hA0
  rw [Try.params5] at hA hval
  obtain ⟨v0, vs0, d0, ds0, p0, q0, hargs, rfl, rfl, h0, r0⟩ := trodAll_cons hA
  obtain ⟨rfl, rfl, rfl⟩ := trodAll_nil r0
  obtain rfl : args = #[v0] := by cases args; simp_all
  obtain ⟨rfl, rfl⟩ := trodVars_none hV
  obtain ⟨xs0, hI0⟩ := open_bytes (hval 0 _ v0 rfl rfl) h0
  refine (FnStoreItem_walk v0 xs0 W hI0).mono fun e W' ⟨he, hb⟩ => ⟨_, he, ?_⟩
  exact law_end rfl (by rw [Try.params5]; decide +kernel) rfl hW' rfl rfl rfl hb

theorem FnStoreItem_facts : joinedFacts Try.prog 5 Try.f5 Rows.fnStoreItemSpec Rows.fnStoreItemRow = true :=
  facts_of (by kernel_rfl) q2 q3 (by kernel_rfl) (by kernel_rfl) (by kernel_rfl) q7 (by kernel_rfl) q9 (by kernel_rfl) (by kernel_rfl) (by kernel_rfl) (by kernel_rfl) (by kernel_rfl) (by kernel_rfl) (by kernel_rfl) (by kernel_rfl) (by kernel_rfl) (by kernel_rfl) (by kernel_rfl) (by kernel_rfl) (by kernel_rfl)
    (by rw [q22]; kernel_rfl) (by kernel_rfl) q23 head_enter (by kernel_rfl) head_lifts head_make (by kernel_rfl) (by kernel_rfl) (by kernel_rfl) (by kernel_rfl) (by kernel_rfl)

theorem FnStoreItem_holds : Rows.FnStoreItemSaid :=
  OpenClaim.holds_of_wide 5 Try.f5 rfl rfl rfl rfl rfl rfl rfl ⟨rfl, rfl, rfl, rfl, rfl⟩ rfl rfl rfl rfl rfl (by kernel_rfl) Try.func5 FnStoreItem_facts
    (of_decide_eq_true (by kernel_rfl)) (by unfold Func.isWrapper; first | (rw [if_pos (by decide +kernel)]; kernel_rfl) | (rw [if_neg (by decide +kernel)]; exact ⟨rfl, rfl⟩))
    (fun os started H enc _ => FnStoreItem_lifted os started H enc)
end Go.Proofs.Ytlclhdolcokipaa
