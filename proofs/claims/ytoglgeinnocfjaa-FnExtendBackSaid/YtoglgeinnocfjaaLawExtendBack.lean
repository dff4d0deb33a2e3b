/-
  FnExtendBack: true, for every code.
-/
import Derived.Deep.RegionHeld3
import Derived.Test.YtoglgeinnocfjaaG7
import Derived.Test.YtoglgeinnocfjaaG11
import Derived.Test.YtoglgeinnocfjaaG13
import Derived.Test.YtoglgeinnocfjaaG16
import Derived.Test.YtoglgeinnocfjaaG17
namespace Go.Proofs.Ytoglgeinnocfjaa
open Go.RowKit
open Go.ChangeShapes Go.WideShapes Go.ChangeAt Go.Deep

theorem exb_parts {xs ys : List Int} {m : Int} (h : extB xs ys m = true) : validD xs m = true ∧ areN ys = true ∧ validD (extL xs ys m) m = true := by
  unfold extB at h
  rw [Bool.and_eq_true, Bool.and_eq_true] at h
  exact ⟨h.1.1, h.1.2, h.2⟩
theorem fitB_app (xs ys : List Int) (m : Int) : fitB (fitB xs m ++ ys) m = fitB (xs ++ ys) m := by
  unfold fitB
  by_cases h1 : 0 ≤ m ∧ m < (xs.length : Int)
  · rw [if_pos h1]
    have hl : (xs.drop (xs.length - m.toNat)).length = m.toNat := by rw [List.length_drop]; omega
    rw [if_pos (show 0 ≤ m ∧ m < ((xs ++ ys).length : Int) by simp; omega)]
    have e : xs.drop (xs.length - m.toNat) ++ ys = (xs ++ ys).drop (xs.length - m.toNat) := by rw [List.drop_append_of_le_length (by omega)]
    by_cases h2 : 0 ≤ m ∧ m < ((xs.drop (xs.length - m.toNat) ++ ys).length : Int)
    · rw [if_pos h2, e, List.drop_drop]
      congr 1
      simp
      omega
    · rw [if_neg h2, e]
      congr 1
      have := h2
      simp only [List.length_append, hl] at this
      simp
      omega
  · rw [if_neg h1]
theorem ext_step {xs ys : List Int} {m : Int} {k : Nat} (hk : k < ys.length) : extL (extL xs (ys.take k) m) [ys[k]] m = extL xs (ys.take (k + 1)) m := by
  unfold extL
  rw [fitB_app, List.append_assoc, List.take_succ_eq_append_getElem hk]
theorem fit_len (zs : List Int) (m : Int) : ((fitB zs m).length : Int) = if 0 ≤ m ∧ m < (zs.length : Int) then m else zs.length := by
  unfold fitB
  split
  · rw [List.length_drop]; omega
  · rfl
theorem ext_valid {xs ys : List Int} {m : Int} (h : extB xs ys m = true) (k : Nat) : validD (extL xs (ys.take k) m) m = true := by
  obtain ⟨h1, h2, h3⟩ := exb_parts h
  have v1 := validD_iff.1 h1
  have v3 := validD_iff.1 h3
  have hy := (areN_iff.1 h2).2
  have l3 : ((extL xs ys m).length : Int) = if 0 ≤ m ∧ m < ((xs ++ ys).length : Int) then m else (xs ++ ys).length := fit_len _ _
  have lk : ((extL xs (ys.take k) m).length : Int) = if 0 ≤ m ∧ m < ((xs ++ ys.take k).length : Int) then m else (xs ++ ys.take k).length := fit_len _ _
  have hsub : ∀ z ∈ extL xs (ys.take k) m, z ∈ xs ∨ z ∈ ys := by
    intro z hz
    have hz2 : z ∈ xs ++ ys.take k := by
      unfold extL fitB at hz
      split at hz
      · exact List.mem_of_mem_drop hz
      · exact hz
    rcases List.mem_append.1 hz2 with h | h
    · exact .inl h
    · exact .inr (List.mem_of_mem_take h)
  simp only [List.length_append, List.length_take] at l3 lk
  refine validD_iff.2 ⟨allN_iff.2 fun z hz => (hsub z hz).elim (allN_iff.1 v1.1 z) (allN_iff.1 hy z), v1.2.1, ?_, ?_⟩
  · split at l3 <;> split at lk <;> omega
  · split at l3 <;> split at lk <;> omega
theorem ext_one {xs ys : List Int} {m : Int} (h : extB xs ys m = true) {k : Nat} (hk : k < ys.length) : extB (extL xs (ys.take k) m) [ys[k]] m = true := by
  have h1 := ext_valid h k
  have h2 := ext_valid h (k + 1)
  have hy := allN_iff.1 (areN_iff.1 (exb_parts h).2.1).2 _ (List.getElem_mem hk)
  unfold extB
  rw [ext_step hk, h1, h2, areN_iff.2 ⟨by simp, allN_iff.2 fun z hz => by rw [List.mem_singleton.1 hz]; exact hy⟩]
  rfl
theorem ext_zero {xs ys : List Int} {m : Int} (h : extB xs ys m = true) : extL xs (ys.take 0) m = xs := by
  have v1 := validD_iff.1 (exb_parts h).1
  unfold extL fitB
  rw [List.take_zero, List.append_nil, if_neg (by omega)]
theorem OwnN.ink {lo hi : Nat} {w : World} {v : Value} {xs : List Int} (h : OwnN lo hi w v xs) : InK (In lo hi) v := by
  intro a n c e hn
  subst e
  rcases h with ⟨_, ao, c', e, _⟩ | ⟨g, o, c', T, e, _, _, _, h1, h2, _⟩
  · simp only [Value.slice.injEq] at e
    omega
  · simp only [Value.slice.injEq, Option.some.injEq] at e
    rw [e.1]
    exact ⟨h1, h2⟩
theorem tri_below {w w' : World} {p b q B : Nat} {a c y : Value} (h : (w.cell? ⟨p, 0, none⟩ = some a ∧ w.cell? ⟨p, 1, none⟩ = some c) ∧ w.cell? ⟨b, q, none⟩ = some y) (hb : Below B w w') (hp : p < B) (hq : b < B) : (w'.cell? ⟨p, 0, none⟩ = some a ∧ w'.cell? ⟨p, 1, none⟩ = some c) ∧ w'.cell? ⟨b, q, none⟩ = some y :=
  ⟨⟨(hb.cell (p := ⟨p, 0, none⟩) hp).trans h.1.1, (hb.cell (p := ⟨p, 1, none⟩) hp).trans h.1.2⟩, (hb.cell (p := ⟨b, q, none⟩) hq).trans h.2⟩
theorem tri_set {w : World} {p b q z i : Nat} {a c y : Value} (h : (w.cell? ⟨p, 0, none⟩ = some a ∧ w.cell? ⟨p, 1, none⟩ = some c) ∧ w.cell? ⟨b, q, none⟩ = some y) (hp : z ≠ p) (hb : z ≠ b) (x : Value) : ((w.setCell ⟨z, i, none⟩ x).cell? ⟨p, 0, none⟩ = some a ∧ (w.setCell ⟨z, i, none⟩ x).cell? ⟨p, 1, none⟩ = some c) ∧ (w.setCell ⟨z, i, none⟩ x).cell? ⟨b, q, none⟩ = some y :=
  ⟨⟨(World.cell?_setCell_far _ _ _ _ hp).trans h.1.1, (World.cell?_setCell_far _ _ _ _ hp).trans h.1.2⟩, (World.cell?_setCell_far _ _ _ _ hb).trans h.2⟩
theorem ext_bd {ys : List Int} (h : areN ys = true) {k : Nat} (hk : k < ys.length) : -9223372036854775808 ≤ ys[k] ∧ ys[k] ≤ 9223372036854775807 := by
  have := allN_iff.1 (areN_iff.1 h).2 _ (List.getElem_mem hk)
  omega

set_option linter.unusedSimpArgs false in
set_option maxHeartbeats 1600000 in
theorem DrawExtendBack_any (v : Value) (bs : List Int) (w : World) (h : Bytes w v bs) :
    Calls Try.prog 22 #[v] w fun e w' => ∃ v' xs m u ys, e = .returned (.tuple #[.agg #[v', .int .i64 m], u]) ∧ OwnN w.heap.size w'.heap.size w' v' xs ∧ OwnN w.heap.size w'.heap.size w' u ys ∧ (xs.length ≤ 11 ∧ ys.length ≤ 11) ∧ Below w.heap.size w w' := by
  have hb0 : Below w.heap.size w (w.alloc (.cells #[.slice none 0 0, .int .i64 0] 25)) := (Below.refl _ _).alloc (Nat.le_refl _) _
  have HR := Lib.hid (heap_new w (.cells #[.slice none 0 0, .int .i64 0] 25))
  go_enter Try.func22, Try.ntmps22
  go_wp2_with fail
  refine (newReader_any v bs _ (h.below hb0)).mono ?_
  rintro e w1 ⟨r, rfl, hr, hR1, hb1⟩
  have hs1 := hb1.size
  simp at hs1 hb1 hr
  go_wp2_with fail
  refine (someDeque_any r 0 w1 hR1 (by omega)).mono ?_
  rintro e w2 ⟨v2, xs, m, rfl, hb, hown, hR2, hk2⟩
  obtain ⟨xo, xcap, rfl, _, _⟩ := hown.nums.slice
  have hlt := hR1.lt
  have hs2 := hk2.size
  go_wp2_with fail
  refine (someInts_any r _ w2 hR2 (by omega)).mono ?_
  rintro e w3 ⟨u3, ys, rfl, hly, hny, howny, hR3, hk3⟩
  obtain ⟨yo, ycap, rfl, _, _⟩ := howny.nums.slice
  have hk23 := RK.trans hk2 hk3
  have hs3 := hk3.size
  have hown3 := hown.keeps (hk3.mono fun j hj => ⟨hj.2, by have := hj.1; omega⟩)
  have R2 := (hk23.block _ ⟨by omega, by omega⟩).trans ((hb1.block _ (by omega)).trans HR.out)
  have HBB : Hid (Below w.heap.size w w3) := (hb0.trans (hb1.mono (by omega))).trans (Keeps.below hk23 (fun k hk => ⟨by omega, by omega⟩))
  have HO := Lib.hid hown3
  have HY := Lib.hid howny
  have s0 := two_cell0 R2
  have s1 := two_cell1 R2
  have t0 := two_free R2
  have hx := hb.1
  clear R2 hk23 hk3 hk2 hown3 hown howny hb1 hR1
  go_wp2
  exact bodyPost_ret (v := .tuple #[.agg #[.slice xo xs.length xcap, .int .i64 m], .slice yo ys.length ycap]) (by simp [results, Try.results22, go_sem, s0, s1]) rfl ⟨_, _, _, _, _, rfl, (HO.out.keeps (((Keeps.refl _ _).setCell (by simp [In]; omega) _).setCell (by simp [In]; omega) _)).wide (by omega) (by simp <;> omega), (HY.out.keeps (((Keeps.refl _ _).setCell (by simp [In]; omega) _).setCell (by simp [In]; omega) _)).wide (by omega) (by simp <;> omega), ⟨hx, hly⟩, (HBB.out.setCell (by simp) _).setCell (by simp) _⟩

set_option maxHeartbeats 4000000 in
set_option maxRecDepth 100000 in
theorem FnExtendBack_walk (v : Value) (bs : List Int) (w : World) (h : Bytes w v bs) :
    Calls Try.prog 4 #[v] w fun e w' => e = .returned (.bool true) ∧ Below w.heap.size w w' := by
  have h0 := h
  obtain ⟨ao, cap, rfl, hl, hc, hok, hcell⟩ := h0
  clear hcell hok
  go_enter Try.func4, Try.ntmps4
  by_cases hbig : (1048576 : Int) < (bs.length : Int)
  · go_wp2
    go_ret
    exact ⟨rfl, Below.refl _ _⟩
  go_wp2_with fail
  refine (DrawExtendBack_any _ bs w h).mono ?_
  rintro e w1 ⟨vd, xs, m, vl, ys, rfl, hox, hoy, hbnd, hb1⟩
  have NX := hox.nums
  have NY := hoy.nums
  obtain ⟨dp, dc, rfl, hdc, hdm⟩ := NX.slice
  obtain ⟨yp, yc, rfl, hyc, hym⟩ := NY.slice
  have HXd := Lib.hid NX
  have HXy := Lib.hid NY
  have H1 := Things.nil w1
  have H2 := H1.boxed 25 [.slice dp xs.length dc, .int .i64 m]
  clear H1 h hox hoy NX NY
  obtain ⟨G, hG⟩ : ∃ G, Hid (G = ifN (extB xs ys m) (extL xs ys m)) := ⟨_, Lib.hid rfl⟩
  obtain ⟨g, hg⟩ : ∃ g, Hid (g = ifI (extB xs ys m) m) := ⟨_, Lib.hid rfl⟩
  obtain ⟨K, hK⟩ : ∃ K, Hid (K = extB xs ys m) := ⟨_, Lib.hid rfl⟩
  have cI := Lib.hid (fun (v0 v1 : Value) (w : World) (h0 : Nums w v0 xs) (h1 : Nums w v1 ys) => (show Calls Try.prog 23 #[.agg #[v0, .int .i64 m], v1] w (NewD G g K w) by rw [hG.out, hg.out, hK.out]; exact ExtendBack_any v0 v1 xs ys m w h0 h1))
  have cS := Lib.hid (fun (v0 v1 : Value) (w : World) (h0 : Nums w v0 xs) (h1 : Nums w v1 ys) => (show Calls Try.prog 24 #[.agg #[v0, .int .i64 m], v1] w (NewD G g K w) by rw [hG.out, hg.out, hK.out]; exact sExtendBack_any v0 v1 xs ys m w h0 h1))
  obtain ⟨d0_, d1_⟩ := H2.box2 0 rfl
  go_wp2_with fail
  refine (cI.out _ _ _ (H2.argN HXd.out) (H2.argN HXy.out)).mono ?_
  rintro e w3 ⟨vo, rfl, ho, hbl⟩
  have H3 := H2.newN ho hbl
  obtain ⟨op, oc, rfl, hoc, hom⟩ := (H3.nums 0 rfl).slice
  have H4 := H3.boxed 25 [.slice op G.length oc, .int .i64 g]
  clear d0_ d1_
  clear H2 H3 ho hbl
  obtain ⟨d0_, d1_⟩ := H4.box2 2 rfl
  go_wp2_with fail
  refine (cS.out _ _ _ (H4.argN HXd.out) (H4.argN HXy.out)).mono ?_
  rintro e w5 ⟨vw, rfl, ho, hbl⟩
  have H5 := H4.newN ho hbl
  obtain ⟨wp, wc, rfl, hwc, hwm⟩ := (H5.nums 0 rfl).slice
  have H6 := H5.boxed 25 [.slice wp G.length wc, .int .i64 g]
  clear d0_ d1_
  clear H4 H5 ho hbl
  clear cI cS
  obtain ⟨o0_, o1_⟩ := H6.box2 2 rfl
  obtain ⟨w0_, w1_⟩ := H6.box2 0 rfl
  go_wp2_with fail
  refine (equalD_T H6 (H6.nums 3 rfl) (H6.nums 1 rfl)).mono ?_
  rintro e w7 ⟨rfl, H7⟩
  clear o0_ o1_ w0_ w1_
  clear H6
  cases K
  · skip
    obtain ⟨o0_, o1_⟩ := H7.box2 2 rfl
    obtain ⟨w0_, w1_⟩ := H7.box2 0 rfl
    go_wp2_with fail
    refine (equalD_T H7 (H7.nums 3 rfl) (H7.nums 1 rfl)).mono ?_
    rintro e w8 ⟨rfl, H8⟩
    clear o0_ o1_ w0_ w1_
    clear H7
    go_wp2
    go_ret
    exact ⟨rfl, hb1.trans (H8.below.mono hb1.size)⟩
  · have hk := hK.out.symm
    have hGe : G = extL xs ys m := by rw [hG.out, ← hK.out]; rfl
    obtain rfl : g = m := by rw [hg.out, ← hK.out]; rfl
    obtain ⟨hv, hay, hvG⟩ := exb_parts hk
    have hstep : Hid (∀ k (h : k < ys.length), extL (extL xs (ys.take k) g) [ys[k]] g = extL xs (ys.take (k + 1)) g ∧ extB (extL xs (ys.take k) g) [ys[k]] g = true ∧ -9223372036854775808 ≤ ys[k] ∧ ys[k] ≤ 9223372036854775807) := fun k h => ⟨ext_step h, ext_one hk h, ext_bd hay h⟩
    have hend : Hid (extL xs (ys.take ys.length) g = G) := by unfold Hid; rw [List.take_length, hGe]
    have hzero : Hid (extL xs (ys.take 0) g = xs) := ext_zero hk
    have hMb : Below w7.heap.size w7 (w7.alloc (.cells #[.slice dp xs.length dc, .int .i64 g] 25)) := (Below.refl _ _).alloc (Nat.le_refl _) _
    have HN := H7.boxed 25 [.slice dp xs.length dc, .int .i64 g]
    have MX : Nums (w7.alloc (.cells #[.slice dp xs.length dc, .int .i64 g] 25)) (.slice dp xs.length dc) xs := HN.argN HXd.out
    have hnlt : w1.heap.size ≤ w7.heap.size := H7.below.size
    have HIK : InK (fun b => b ≠ w7.heap.size) (.slice dp xs.length dc) := HXd.out.inK.mono fun b hb => by omega
    obtain ⟨d0_, d1_⟩ := H7.box2 4 rfl
    obtain ⟨L0, lo0, hi0, HB, e1, e2⟩ : ∃ L0 lo0 hi0, Things w1 (w7.alloc (.cells #[.slice dp xs.length dc, .int .i64 g] 25)) (boxT w7.heap.size 25 [.slice dp xs.length dc, .int .i64 g] :: L0) ∧ L0[2]? = some (boxT w3.heap.size 25 [.slice op G.length oc, .int .i64 g]) ∧ L0[3]? = some (numT lo0 hi0 (.slice op G.length oc) G) := ⟨_, _, _, HN, rfl, rfl⟩
    clear hG hg hK hk hGe hv hay hvG hbnd HN H7
    go_wp2
    go_loopw [10] (fun i wr => ∃ (k : Nat) (zs : List Int) (v : Value), i = .int .i64 k ∧ k ≤ ys.length ∧ Hid (zs = extL xs (ys.take k) g) ∧ Hid (Things w1 wr (boxT w7.heap.size 25 [v, .int .i64 g] :: L0)) ∧ Hid (Nums wr v zs ∧ InK (fun b => b ≠ w7.heap.size) v)) (fun i _ => ys.length - (intOf i).toNat)
    case atStart => exact ⟨0, xs, _, rfl, Nat.zero_le _, hzero.out.symm, HB, MX, HIK⟩
    case round =>
      clear HB MX d0_ d1_ hMb hzero HIK
      obtain ⟨k, zs, v, rfl, hk, HZ, HR, HM⟩ := hrel
      obtain ⟨rp, rc, rfl, _, _⟩ := HM.out.1.slice
      obtain ⟨r0_, r1_⟩ := HR.out.box2 0 rfl
      by_cases hlt : k < ys.length
      · obtain ⟨p1, p2, p3, p4⟩ := hstep.out k hlt
        obtain ⟨t, ht⟩ : ∃ t, Hid (t = ys[k]) := ⟨_, Lib.hid rfl⟩
        rw [← ht.out] at p1 p2 p3 p4
        rw [← HZ.out] at p1 p2
        obtain ⟨ns, hns⟩ : ∃ ns, Hid (ns = extL zs [t] g) := ⟨_, Lib.hid rfl⟩
        have HZ2 : Hid (ns = extL xs (ys.take (k + 1)) g) := by unfold Hid; rw [hns.out, p1]
        have cP := Lib.hid (fun (v0 : Value) (w : World) (h0 : Nums w v0 zs) => (show Calls Try.prog 19 #[.agg #[v0, .int .i64 g], .int .i64 t] w (NewD ns g true w) by have h1 := PushBack_any v0 zs g t w h0 ⟨p3, p4⟩; rw [p2, ← hns.out] at h1; exact h1))
        obtain ⟨b, o, hye, hb, y0⟩ := Nums.cellAt (HR.out.argN HXy.out) hlt
        subst hye
        rw [← ht.out] at y0
        have hbw : b < wr.heap.size := World.block_lt_of_cell? wr ⟨b, o + k, none⟩ y0
        have hnw : w7.heap.size < wr.heap.size := World.block_lt_of_cell? wr ⟨w7.heap.size, 0, none⟩ r0_
        have hki : (0 : Int) ≤ (k : Int) := by omega
        have hkl : (k : Int) < (ys.length : Int) := by omega
        have hwn : w7.heap.size ≠ wr.heap.size := by omega
        have hwn2 : wr.heap.size ≠ w7.heap.size := by omega
        have hwb : b ≠ wr.heap.size := by omega
        have hwb2 : wr.heap.size ≠ b := by omega
        have HS : Hid ((wr.drew.cell? ⟨w7.heap.size, 0, none⟩ = some (.slice rp zs.length rc) ∧ wr.drew.cell? ⟨w7.heap.size, 1, none⟩ = some (.int .i64 g)) ∧ wr.drew.cell? ⟨b, o + k, none⟩ = some (.int .i64 t)) := ⟨⟨r0_, r1_⟩, y0⟩
        have hMd : Nums wr.drew (.slice rp zs.length rc) zs := HM.out.1.mono (Below.refl wr.heap.size wr).drew (Nat.le_refl _)
        have hbA : ∀ ob : Go.Obj, Below wr.heap.size wr.drew (wr.drew.alloc ob) := fun ob => (show Below wr.drew.heap.size wr.drew (wr.drew.alloc ob) from (Below.refl _ _).alloc (Nat.le_refl _) ob)
        have hSA := fun ob : Go.Obj => tri_below HS.out (hbA ob) hnw hbw
        have hMA : ∀ ob : Go.Obj, Nums (wr.drew.alloc ob) (.slice rp zs.length rc) zs := fun ob => hMd.mono (hbA ob) (Nat.le_refl _)
        have hfin : Hid (∀ (Wn : World) (u : Value), Below wr.heap.size wr Wn → Nums Wn u ns → InK (fun b => b ≠ w7.heap.size) u → Hid (Things w1 ((Wn.setCell ⟨w7.heap.size, 0, none⟩ u).setCell ⟨w7.heap.size, 1, none⟩ (.int .i64 g)) (boxT w7.heap.size 25 [u, .int .i64 g] :: L0)) ∧ Hid (Nums ((Wn.setCell ⟨w7.heap.size, 0, none⟩ u).setCell ⟨w7.heap.size, 1, none⟩ (.int .i64 g)) u ns ∧ InK (fun b => b ≠ w7.heap.size) u) ∧ (Wn.cell? ⟨w7.heap.size, 0, none⟩ = some (.slice rp zs.length rc) ∧ Wn.cell? ⟨w7.heap.size, 1, none⟩ = some (.int .i64 g)) ∧ Wn.frozen? ⟨w7.heap.size, 0, none⟩ = false ∧ Wn.frozen? ⟨w7.heap.size, 1, none⟩ = false) := fun Wn u h1 h2 h3 =>
          ⟨(HR.out.quiet h1).store2 u (.int .i64 g), ⟨h2.keeps (K := fun b => b ≠ w7.heap.size) (((Keeps.refl _ _).setCell (fun h => h rfl) _).setCell (fun h => h rfl) _) h3, h3⟩, (HR.out.quiet h1).box2 0 rfl, (HR.out.quiet h1).boxfree 0 rfl 0, (HR.out.quiet h1).boxfree 0 rfl 1⟩
        clear p1 p2 p3 p4 ht hns HZ r0_ r1_ y0
        go_wp2_with fail
        clear HR HM
        go_region_held3 (fun w' : World => (w'.cell? ⟨w7.heap.size, 0, none⟩ = some (.slice rp zs.length rc) ∧ w'.cell? ⟨w7.heap.size, 1, none⟩ = some (.int .i64 g)) ∧ w'.cell? ⟨b, o + k, none⟩ = some (.int .i64 t))
          (first | exact HS.out | assumption | exact hSA _ | exact hS1 | exact hS1a _ | exact tri_set (tri_set (hS1a _) hx1 hx2 _) hx1 hx2 _ | exact hS2 | exact tri_set (tri_set hS2 hwn2 hwb2 _) hwn2 hwb2 _)
          (first
            | (go_at_call 19; (with_reducible refine (cP.out _ wr.drew hMd).mono ?_); rintro e wq ⟨vx, rfl, ho, hbl⟩; have mkA : (0 : Nat) = 0 := rfl; have hS1 := tri_below HS.out hbl hnw hbw; have hsq : wr.heap.size ≤ wq.heap.size := hbl.size; have hS1a := (fun ob : Go.Obj => tri_below hS1 ((Below.refl wq.heap.size wq).alloc (Nat.le_refl _) ob) (by omega) (by omega)); have hx1 : wq.heap.size ≠ w7.heap.size := (by omega); have hx2 : wq.heap.size ≠ b := (by omega); obtain ⟨xp, xc, rfl, _, _⟩ := ho.nums.slice)
            | (go_at_call 19; refine (cP.out _ _ (hMA _)).mono ?_; rintro e wq ⟨vx, rfl, ho, hbl⟩; have mkB : (0 : Nat) = 0 := rfl; have hS2 := tri_below (hSA _) hbl (by simp; omega) (by simp; omega); have XB := two_below (heap_at (n := wr.heap.size) wr.drew (.cells #[.slice none 0 0, .int .i64 0] 25) (by simp)) hbl (by simp); have xb0 := two_cell0 XB; have xb1 := two_cell1 XB; have xbf := two_free XB; clear XB; obtain ⟨xp, xc, rfl, _, _⟩ := ho.nums.slice))
        · clear mkA
          have hBn := (undrewB hbl).alloc hsq (.cells #[.slice xp ns.length xc, .int .i64 g] 25)
          have hN := ho.nums.mono ((Below.refl wq.heap.size wq).alloc (Nat.le_refl _) (.cells #[.slice xp ns.length xc, .int .i64 g] 25)) (Nat.le_refl _)
          have hI : InK (fun b => b ≠ w7.heap.size) (.slice xp ns.length xc) := ho.ink.mono fun z hz => by have h1 : wr.heap.size ≤ z := hz.1; omega
          obtain ⟨h1, h2, ⟨n0, n1⟩, f0, f1⟩ := hfin.out _ _ hBn hN hI
          clear hBn hN hI ho hbl hS1 hS1a hSA hMA hMd hbA HS hfin cP
          go_wp2
          go_roundw
          case rel => exact ⟨k + 1, ns, _, by go_num, by omega, HZ2, h1, h2⟩
          case measure => simp [intOf]; omega
        · clear mkB
          have hB0 : Below wr.heap.size wr wq := undrewB ((hbA _).trans (hbl.mono (by simp)))
          have hBn : Below wr.heap.size wr ((wq.setCell ⟨wr.heap.size, 0, none⟩ (.slice xp ns.length xc)).setCell ⟨wr.heap.size, 1, none⟩ (.int .i64 g)) := (hB0.setCell (Nat.le_refl _) _).setCell (Nat.le_refl _) _
          have hi0 := ho.ink
          simp at hi0
          have hN := ho.nums.keeps (K := fun z => z ≠ wr.heap.size) (((Keeps.refl _ wq).setCell (a := ⟨wr.heap.size, 0, none⟩) (fun h => h rfl) (.slice xp ns.length xc)).setCell (a := ⟨wr.heap.size, 1, none⟩) (fun h => h rfl) (.int .i64 g)) (hi0.mono fun z hz => by have h1 : wr.heap.size + 1 ≤ z := hz.1; omega)
          have hI : InK (fun b => b ≠ w7.heap.size) (.slice xp ns.length xc) := hi0.mono fun z hz => by have h1 : wr.heap.size + 1 ≤ z := hz.1; omega
          obtain ⟨h1, h2, ⟨n0, n1⟩, f0, f1⟩ := hfin.out _ _ hBn hN hI
          clear hBn hN hI ho hbl hS2 hSA hMA hMd hbA HS hfin cP hB0 hi0
          go_wp2
          go_roundw
          case rel => exact ⟨k + 1, ns, _, by go_num, by omega, HZ2, h1, h2⟩
          case measure => simp [intOf]; omega
      · obtain rfl : k = ys.length := by omega
        obtain rfl : zs = G := by rw [HZ.out, hend.out]
        obtain ⟨o0_, o1_⟩ := HR.out.box2 3 (show _ from e1)
        have HO := Lib.hid (HR.out.nums 4 (show _ from e2))
        go_wp2_with fail
        refine (equalD_T HR.out HM.out.1 HO.out).mono ?_
        rintro e wz ⟨rfl, HZZ⟩
        go_wp2
        go_ret
        exact ⟨rfl, hb1.trans (HZZ.below.mono hb1.size)⟩

set_option maxRecDepth 100000 in
theorem FnExtendBack_lifted (os : Os) (started : os.Started) (H : Type) (enc : TypeId × Value → H) :
    ReturnsInHanded {} Try.checked os 4 .any (Rows.fnExtendBackSpec.pre6 enc Try.prog Try.f4 Rows.fnExtendBackRow.domain false) (Rows.fnExtendBackSpec.post enc Try.prog Try.f4 false true false false) := by
  refine returnsInHanded_of_change (C := Try.checked) own started (by kernel_rfl) Try.func4
    (ChangeSpec.witness6 (enc := enc) (C := Try.checked) false ⟨#[], #[.slice none 0 0], []⟩ 8 (by kernel_rfl) (by kernel_rfl) (by kernel_rfl) (by kernel_rfl)) ?_
  intro W base args ds gs before hval0 hW _ _
  have hval : ∀ (j : Nat) t v, Try.f4.params[j]? = some t → args[j]? = some v → Value.okWide Try.prog W .any base t v := hval0
  have hW' := hW
  obtain ⟨p, q, hA0, hV, rfl, _, _⟩ := hW
  have hA : DataW.TrodAll enc Try.prog W 0 (fun _ => true) true Try.f4.params.toList args.toList ds p := hA0
  rw [Try.params4] at hA hval
  obtain ⟨v0, vs0, d0, ds0, p0, q0, hargs, rfl, rfl, h0, r0⟩ := trodAll_cons hA
  obtain ⟨rfl, rfl, rfl⟩ := trodAll_nil r0
  obtain rfl : args = #[v0] := by cases args; simp_all
  obtain ⟨rfl, rfl⟩ := trodVars_none hV
  obtain ⟨xs0, hI0⟩ := open_bytes (hval 0 _ v0 rfl rfl) h0
  refine (FnExtendBack_walk v0 xs0 W hI0).mono fun e W' ⟨he, hb⟩ => ⟨_, he, ?_⟩
  exact law_end rfl (by rw [Try.params4]; decide +kernel) rfl hW' rfl rfl rfl hb

theorem FnExtendBack_facts : joinedFacts Try.prog 4 Try.f4 Rows.fnExtendBackSpec Rows.fnExtendBackRow = true :=
  facts_of (by kernel_rfl) q2 q3 (by kernel_rfl) (by kernel_rfl) (by kernel_rfl) q7 (by kernel_rfl) q9 (by kernel_rfl) (by kernel_rfl) (by kernel_rfl) (by kernel_rfl) (by kernel_rfl) (by kernel_rfl) (by kernel_rfl) (by kernel_rfl) (by kernel_rfl) (by kernel_rfl) (by kernel_rfl) (by kernel_rfl) (by kernel_rfl)
    (by rw [q22]; kernel_rfl) (by kernel_rfl) q23 head_enter (by kernel_rfl) head_lifts head_make (by kernel_rfl) (by kernel_rfl) (by kernel_rfl) (by kernel_rfl) (by kernel_rfl)

theorem FnExtendBack_holds : Rows.FnExtendBackSaid :=
  OpenClaim.holds_of_wide 4 Try.f4 rfl rfl rfl rfl rfl rfl rfl ⟨rfl, rfl, rfl, rfl, rfl⟩ rfl rfl rfl rfl rfl (by kernel_rfl) Try.func4 FnExtendBack_facts
    (of_decide_eq_true (by kernel_rfl)) (by unfold Func.isWrapper; first | (rw [if_pos (by decide +kernel)]; kernel_rfl) | (rw [if_neg (by decide +kernel)]; exact ⟨rfl, rfl⟩))
    (fun os started H enc _ => FnExtendBack_lifted os started H enc)
end Go.Proofs.Ytoglgeinnocfjaa
