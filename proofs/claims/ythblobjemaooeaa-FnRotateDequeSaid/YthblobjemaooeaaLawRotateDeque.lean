/-
  FnRotateDeque: true, for every code.
-/
import Derived.Deep.RegionHeld3
import Derived.Test.YthblobjemaooeaaR11
import Derived.Test.YthblobjemaooeaaR13
import Derived.Test.YthblobjemaooeaaR16
import Derived.Test.YthblobjemaooeaaR17
namespace Go.Proofs.Ythblobjemaooeaa
open Go.RowKit
open Go.ChangeShapes Go.WideShapes Go.ChangeAt Go.Deep

set_option maxRecDepth 100000 in
theorem sRot_no {v : Value} {xs : List Int} {m n : Int} (w : World) (h : Nums w v xs) (hv : validD xs m = false) :
    Calls Try.prog 31 #[.agg #[v, .int .i64 m], .int .i64 n] w (RetN (.agg #[.slice none 0 0, .int .i64 0]) w) := by
  have HX := Lib.hid h
  have HV := Lib.hid hv
  obtain ⟨ao, cap, rfl, hlc, hcm⟩ := h.slice
  clear h hv
  go_enter Try.func31, Try.ntmps31
  have D := DFrame.new w (.slice ao xs.length cap) m
  have c0 := D.c0
  have c1 := D.c1
  go_wp2_with fail
  refine (svD_v _ (D.nums HX.out) HV.out).mono ?_
  rintro e w2 ⟨rfl, hb⟩
  have D2 := D.step hb
  clear hb c0 c1
  have c0 := D2.c0
  have c1 := D2.c1
  have r0 := D2.r0
  have r1 := D2.r1
  have f0 := D2.free 0
  have f1 := D2.free 1
  go_wp2
  exact bodyPost_ret (v := .agg #[.slice none 0 0, .int .i64 0]) (by simp [results, Try.results31, go_sem, r0, r1]) rfl ⟨rfl, D2.done _ _⟩

set_option maxHeartbeats 8000000 in
set_option maxRecDepth 100000 in
theorem FnRotateDeque_walk (v : Value) (bs : List Int) (w : World) (h : Bytes w v bs) :
    Calls Try.prog 6 #[v] w fun e w' => e = .returned (.bool true) ∧ Below w.heap.size w w' := by
  have h0 := h
  obtain ⟨ao, cap, rfl, hl, hc, hok, hcell⟩ := h0
  clear hcell hok
  go_enter Try.func6, Try.ntmps6
  by_cases hbig : (1048576 : Int) < (bs.length : Int)
  · go_wp2
    go_ret
    exact ⟨rfl, Below.refl _ _⟩
  go_wp2_with fail
  refine (DrawRotateDeque_any _ bs w h).mono ?_
  rintro e w1 ⟨vd, xs, m, n, rfl, ho, hbnd, hnb, hbl⟩
  have H1 := (Things.nil w).new (t := numT w.heap.size w1.heap.size vd xs) (Nat.le_refl _) (Nat.le_refl _) ho hbl
  obtain ⟨dp, dc, rfl, hdc, hdm⟩ := (H1.nums 0 rfl).slice
  have H2 := H1.boxed 25 [.slice dp xs.length dc, .int .i64 m]
  clear ho hbl H1 h
  obtain ⟨G, hG⟩ : ∃ G, Hid (G = ifN (tdB xs m) (rdL xs n)) := ⟨_, Lib.hid rfl⟩
  obtain ⟨g, hg⟩ : ∃ g, Hid (g = ifI (tdB xs m) m) := ⟨_, Lib.hid rfl⟩
  have cI := Lib.hid (fun (v0 : Value) (w : World) (h0 : Nums w v0 xs) => (show Calls Try.prog 30 #[.agg #[v0, .int .i64 m], .int .i64 n] w (NewE G g w) by rw [hG.out, hg.out]; exact RotateDeque_any v0 xs m n w h0 hnb))
  have cS := Lib.hid (fun (v0 : Value) (w : World) (h0 : Nums w v0 xs) => (show Calls Try.prog 31 #[.agg #[v0, .int .i64 m], .int .i64 n] w (NewE G g w) by rw [hG.out, hg.out]; exact sRotateDeque_any v0 xs m n w h0 hnb))
  obtain ⟨d0_, d1_⟩ := H2.box2 0 rfl
  go_wp2_with fail
  refine (cI.out _ _ (H2.nums 1 rfl)).mono ?_
  rintro e w3 ⟨vo, rfl, ho, hbl⟩
  have H3 := H2.newN ho hbl
  obtain ⟨op, oc, rfl, hoc, hom⟩ := (H3.nums 0 rfl).slice
  have H4 := H3.boxed 25 [.slice op G.length oc, .int .i64 g]
  clear d0_ d1_
  clear H2 H3 ho hbl
  cases hv : validD xs m
  · obtain rfl : G = [] := by rw [hG.out]; unfold ifN tdB; rw [hv]; rfl
    obtain rfl : g = 0 := by rw [hg.out]; unfold ifI tdB; rw [hv]; rfl
    have cN := Lib.hid (fun (v0 : Value) (w : World) (h0 : Nums w v0 xs) => (show Calls Try.prog 31 #[.agg #[v0, .int .i64 m], .int .i64 n] w (RetN (.agg #[.slice none 0 0, .int .i64 0]) w) by exact sRot_no w h0 hv))
    have cV := Lib.hid (fun (v0 : Value) (w : World) (h0 : Nums w v0 xs) => (show Calls Try.prog 32 #[.agg #[v0, .int .i64 m]] w (RetN (.bool false) w) by exact VD_v w h0 hv))
    clear cI cS hG hg hv hbnd hnb
    obtain ⟨d0_, d1_⟩ := H4.box2 2 rfl
    obtain ⟨o0_, o1_⟩ := H4.box2 0 rfl
    have d0f := fresh_cell d0_
    have d1f := fresh_cell d1_
    have o0f := fresh_cell o0_
    have o1f := fresh_cell o1_
    go_wp2_with fail
    refine region_fresh (by kernel_rfl) (by kernel_rfl) ?_
    repeat (with_reducible refine wpQuiet_step ?_; intro K hK; go_simp; (try rw [if_neg (by simp [undef])]); first | (refine hK _ ?_; clear hK K) | (apply Exists.intro; refine ⟨fun _ => ?_, hK _ ?_⟩; (first | (go_at_call 31; exact fresh_N (cN.out _ _ ((Things.quiet H4 (Fresh.is _)).nums 3 rfl))) | (go_at_call 18; exact fresh_N (equalD_q ((Things.quiet H4 (Fresh.is _)).nums 1 rfl) (Nums.nil _))) | (go_at_call 32; exact fresh_N (cV.out _ _ ((Things.quiet H4 (Fresh.is _)).nums 3 rfl)))); clear hK K))
    with_reducible refine wpQuiet_nil ?_
    intro _ hw'
    obtain ⟨⟨wq4, hq4⟩, hw''⟩ := hw'
    subst hw''
    have H5 := H4.quiet hq4
    clear d0_ d1_ o0_ o1_
    obtain ⟨d0_, d1_⟩ := H5.box2 2 rfl
    obtain ⟨o0_, o1_⟩ := H5.box2 0 rfl
    have d0f := fresh_cell d0_
    have d1f := fresh_cell d1_
    have o0f := fresh_cell o0_
    have o1f := fresh_cell o1_
    go_wp2_with fail
    refine region_fresh (by kernel_rfl) (by kernel_rfl) ?_
    repeat (with_reducible refine wpQuiet_step ?_; intro K hK; go_simp; (try rw [if_neg (by simp [undef])]); first | (refine hK _ ?_; clear hK K) | (apply Exists.intro; refine ⟨fun _ => ?_, hK _ ?_⟩; (first | (go_at_call 31; exact fresh_N (cN.out _ _ ((Things.quiet H5 (Fresh.is _)).nums 3 rfl))) | (go_at_call 18; exact fresh_N (equalD_q ((Things.quiet H5 (Fresh.is _)).nums 1 rfl) (Nums.nil _)))); clear hK K))
    with_reducible refine wpQuiet_nil ?_
    intro _ hw'
    obtain ⟨⟨wq5, hq5⟩, hw''⟩ := hw'
    subst hw''
    have H6 := H5.quiet hq5
    go_wp2
    go_ret
    exact ⟨rfl, H6.below⟩
  · have hGe : G = rdL xs n := by rw [hG.out]; unfold ifN tdB; rw [hv, if_pos rfl]
    obtain rfl : g = m := by rw [hg.out]; unfold ifI tdB; rw [hv, if_pos rfl]
    have cV := Lib.hid (fun (v0 : Value) (w : World) (h0 : Nums w v0 xs) => (show Calls Try.prog 32 #[.agg #[v0, .int .i64 g]] w (RetN (.bool true) w) by exact VD_v w h0 hv))
    have cR := Lib.hid (fun (r : Int) (Q : List Int) (hr : rdL xs r = Q) (hb : -9223372036854775808 ≤ r ∧ r ≤ 9223372036854775807) (v0 : Value) (w : World) (h0 : Nums w v0 xs) => (show Calls Try.prog 30 #[.agg #[v0, .int .i64 g], .int .i64 r] w (NewE Q g w) by have h1 := RotateDeque_any v0 xs g r w h0 hb; rw [show tdB xs g = true from hv, hr] at h1; exact h1))
    have cG := Lib.hid (fun (r : Int) (Q : List Int) (hr : rdL (rdL xs n) r = Q) (hb : -9223372036854775808 ≤ r ∧ r ≤ 9223372036854775807) (v0 : Value) (w : World) (h0 : Nums w v0 G) => (show Calls Try.prog 30 #[.agg #[v0, .int .i64 g], .int .i64 r] w (NewE Q g w) by subst hGe; have h1 := RotateDeque_any v0 (rdL xs n) g r w h0 hb; rw [show tdB (rdL xs n) g = true from rd_valid hv n, hr] at h1; exact h1))
    have hlen : xs.length ≤ 10 := validD_len hv
    have D4 := H4.quiet (Below.refl _ _).drew
    have hnd : Hid (-9223372036854775808 ≤ n ∧ n ≤ 9223372036854775807) := hnb
    clear hnb
    have hGd := Lib.hid hGe
    clear cI hG hg hGe hbnd
    have hv2 := Lib.hid hv
    clear hv
    go_wp2_with fail
    go_region_held3 (fun w' : World => (w'.cell? ⟨w3.heap.size, 0, none⟩ = some (.slice op G.length oc) ∧ w'.cell? ⟨w3.heap.size, 1, none⟩ = some (.int .i64 g)) ∧ (w'.cell? ⟨w1.heap.size, 0, none⟩ = some (.slice dp xs.length dc) ∧ w'.cell? ⟨w1.heap.size, 1, none⟩ = some (.int .i64 g)))
      (first | exact ⟨H4.box2 0 rfl, H4.box2 2 rfl⟩ | assumption | exact hS5 | exact hS6 | exact hS7)
      (first
        | (go_at_call 31; refine (cS.out _ _ ((D4).nums 3 rfl)).mono ?_; rintro e w5 ⟨v5, rfl, ho, hbl⟩; have H5 := (D4).newN ho hbl; clear ho hbl ; have hS5 := And.intro (H5.box2 1 rfl) (H5.box2 3 rfl))
        | (go_at_call 18; refine (equalD_T H5 (H5.nums 2 rfl) (H5.nums 0 rfl)).mono ?_; rintro e w6 ⟨rfl, H6⟩; have hS6 := And.intro (H6.box2 1 rfl) (H6.box2 3 rfl); clear H5)
        | (go_at_call 32; refine (cV.out _ _ (H6.nums 4 rfl)).mono ?_; rintro e w7 ⟨rfl, hb7⟩; have H7 := H6.quiet hb7; clear hb7 H6 cV; have hS7 := And.intro (H7.box2 1 rfl) (H7.box2 3 rfl)))
    clear H4 D4 hS5 hS6 hS7 cS
    have D7 := H7.quiet (Below.refl _ _).drew
    by_cases hs : -1000 ≤ n ∧ n ≤ 1000
    · obtain ⟨hs1, hs2⟩ := hs
      have k1 : ¬ n < -1000 := by omega
      have k2 : ¬ 1000 < n := by omega
      obtain ⟨M, hM⟩ : ∃ M, M = rdL xs (n + 1) := ⟨_, rfl⟩
      have c1 := Lib.hid (cG.out 1 M (by rw [rd_add, hM]) (by omega))
      have c2 := Lib.hid (cR.out (n + 1) M hM.symm (by omega))
      have c3 := Lib.hid (cG.out (-n) xs (rd_back xs n) (by omega))
      have c4 := Lib.hid (cR.out xs.length xs (rd_self xs) (by omega))
      have hw1 : IntKind.i64.wrap (n + 1) = n + 1 := IntWalk.i64_in _ (by omega)
      have hw2 : IntKind.i64.wrap (-n) = -n := IntWalk.i64_in _ (by omega)
      clear cR cG hM hGd hnd hv2
      go_wp2_with fail
      go_region_held3 (fun w' : World => (w'.cell? ⟨w3.heap.size, 0, none⟩ = some (.slice op G.length oc) ∧ w'.cell? ⟨w3.heap.size, 1, none⟩ = some (.int .i64 g)) ∧ (w'.cell? ⟨w1.heap.size, 0, none⟩ = some (.slice dp xs.length dc) ∧ w'.cell? ⟨w1.heap.size, 1, none⟩ = some (.int .i64 g)))
        (first | exact ⟨H7.box2 1 rfl, H7.box2 3 rfl⟩ | assumption | exact hS8 | exact hS9 | exact hS10 | exact hS11 | exact hS12 | exact hS13 | exact hS14)
        (first
          | (go_at_call 30; refine (c1.out _ _ ((D7).nums 2 rfl)).mono ?_; rintro e w8 ⟨v8, rfl, ho, hbl⟩; have H8 := (D7).newN ho hbl; clear ho hbl c1; have hS8 := And.intro (H8.box2 2 rfl) (H8.box2 4 rfl))
          | (go_at_call 30; refine (c2.out _ _ ((H8).nums 5 rfl)).mono ?_; rintro e w9 ⟨v9, rfl, ho, hbl⟩; have H9 := (H8).newN ho hbl; clear ho hbl c2; have hS9 := And.intro (H9.box2 3 rfl) (H9.box2 5 rfl))
          | (go_at_call 18; refine (equalD_T H9 (H9.nums 1 rfl) (H9.nums 0 rfl)).mono ?_; rintro e w10 ⟨rfl, H10⟩; have hS10 := And.intro (H10.box2 3 rfl) (H10.box2 5 rfl); clear H9)
          | (go_at_call 30; refine (c3.out _ _ ((H10).nums 4 rfl)).mono ?_; rintro e w11 ⟨v11, rfl, ho, hbl⟩; have H11 := (H10).newN ho hbl; clear ho hbl c3; have hS11 := And.intro (H11.box2 4 rfl) (H11.box2 6 rfl))
          | (go_at_call 18; refine (equalD_T H11 (H11.nums 0 rfl) (H11.nums 7 rfl)).mono ?_; rintro e w12 ⟨rfl, H12⟩; have hS12 := And.intro (H12.box2 4 rfl) (H12.box2 6 rfl); clear H11)
          | (go_at_call 30; refine (c4.out _ _ ((H12).nums 7 rfl)).mono ?_; rintro e w13 ⟨v13, rfl, ho, hbl⟩; have H13 := (H12).newN ho hbl; clear ho hbl c4; have hS13 := And.intro (H13.box2 5 rfl) (H13.box2 7 rfl))
          | (go_at_call 18; refine (equalD_T H13 (H13.nums 0 rfl) (H13.nums 8 rfl)).mono ?_; rintro e w14 ⟨rfl, H14⟩; have hS14 := And.intro (H14.box2 5 rfl) (H14.box2 7 rfl); clear H13))
      go_wp2
      go_ret
      exact ⟨rfl, H14.below⟩
    · have k3 : n < -1000 ∨ 1000 < n := by omega
      clear hs
      rcases Nat.eq_zero_or_pos xs.length with hz | hz
      · have e8 : rdL xs 0 = G := by rw [hGd.out, List.eq_nil_of_length_eq_zero hz, rd_nil, rd_nil]
        have c8 := Lib.hid (cR.out 0 G e8 (by omega))
        have hm1 : max (xs.length : Int) 1 = 1 := by omega
        have hz0 : (xs.length : Int) = 0 := by omega
        have hz1 : (xs.length : Int) < 1 := by omega
        clear cR cG hGd hnd hv2 e8 hz
        rcases k3 with k3 | k3
        · skip
          go_wp2_with fail
          clear k3 hlen
          go_region_held3 (fun w' : World => (w'.cell? ⟨w3.heap.size, 0, none⟩ = some (.slice op G.length oc) ∧ w'.cell? ⟨w3.heap.size, 1, none⟩ = some (.int .i64 g)) ∧ (w'.cell? ⟨w1.heap.size, 0, none⟩ = some (.slice dp xs.length dc) ∧ w'.cell? ⟨w1.heap.size, 1, none⟩ = some (.int .i64 g)))
            (first | exact ⟨H7.box2 1 rfl, H7.box2 3 rfl⟩ | assumption | exact hS8 | exact hS9)
            (first
              | (go_at_call 30; refine (c8.out _ _ ((D7).nums 4 rfl)).mono ?_; rintro e w8 ⟨v8, rfl, ho, hbl⟩; have H8 := (D7).newN ho hbl; clear ho hbl c8; have hS8 := And.intro (H8.box2 2 rfl) (H8.box2 4 rfl))
              | (go_at_call 18; refine (equalD_T H8 (H8.nums 3 rfl) (H8.nums 0 rfl)).mono ?_; rintro e w9 ⟨rfl, H9⟩; have hS9 := And.intro (H9.box2 2 rfl) (H9.box2 4 rfl); clear H8))
          go_wp2
          go_ret
          exact ⟨rfl, H9.below⟩
        · have k4 : ¬ n < -1000 := by omega
          go_wp2_with fail
          clear k3 k4 hlen
          go_region_held3 (fun w' : World => (w'.cell? ⟨w3.heap.size, 0, none⟩ = some (.slice op G.length oc) ∧ w'.cell? ⟨w3.heap.size, 1, none⟩ = some (.int .i64 g)) ∧ (w'.cell? ⟨w1.heap.size, 0, none⟩ = some (.slice dp xs.length dc) ∧ w'.cell? ⟨w1.heap.size, 1, none⟩ = some (.int .i64 g)))
            (first | exact ⟨H7.box2 1 rfl, H7.box2 3 rfl⟩ | assumption | exact hS8 | exact hS9)
            (first
              | (go_at_call 30; refine (c8.out _ _ ((D7).nums 4 rfl)).mono ?_; rintro e w8 ⟨v8, rfl, ho, hbl⟩; have H8 := (D7).newN ho hbl; clear ho hbl c8; have hS8 := And.intro (H8.box2 2 rfl) (H8.box2 4 rfl))
              | (go_at_call 18; refine (equalD_T H8 (H8.nums 3 rfl) (H8.nums 0 rfl)).mono ?_; rintro e w9 ⟨rfl, H9⟩; have hS9 := And.intro (H9.box2 2 rfl) (H9.box2 4 rfl); clear H8))
          go_wp2
          go_ret
          exact ⟨rfl, H9.below⟩
      · have e8 : rdL xs (n.tmod xs.length) = G := by rw [hGd.out, rd_tmod]
        have b8 := rot_bd n (L := xs.length) hz
        have c8 := Lib.hid (cR.out (n.tmod xs.length) G e8 (by omega))
        have hm1 : max (xs.length : Int) 1 = (xs.length : Int) := by omega
        have hzz : 1 ≤ xs.length := hz
        have hz6 : ¬ xs = [] := by intro h; rw [h] at hz; simp at hz
        clear b8
        clear cR cG hGd hnd hv2 e8 hz
        rcases k3 with k3 | k3
        · skip
          go_wp2_with fail
          clear k3 hlen
          have hz1 : ¬ (xs.length : Int) < 1 := by omega
          have hz0 : ¬ (xs.length : Int) = 0 := by omega
          clear hzz
          go_region_held3 (fun w' : World => (w'.cell? ⟨w3.heap.size, 0, none⟩ = some (.slice op G.length oc) ∧ w'.cell? ⟨w3.heap.size, 1, none⟩ = some (.int .i64 g)) ∧ (w'.cell? ⟨w1.heap.size, 0, none⟩ = some (.slice dp xs.length dc) ∧ w'.cell? ⟨w1.heap.size, 1, none⟩ = some (.int .i64 g)))
            (first | exact ⟨H7.box2 1 rfl, H7.box2 3 rfl⟩ | assumption | exact hS8 | exact hS9)
            (first
              | (go_at_call 30; refine (c8.out _ _ ((D7).nums 4 rfl)).mono ?_; rintro e w8 ⟨v8, rfl, ho, hbl⟩; have H8 := (D7).newN ho hbl; clear ho hbl c8; have hS8 := And.intro (H8.box2 2 rfl) (H8.box2 4 rfl))
              | (go_at_call 18; refine (equalD_T H8 (H8.nums 3 rfl) (H8.nums 0 rfl)).mono ?_; rintro e w9 ⟨rfl, H9⟩; have hS9 := And.intro (H9.box2 2 rfl) (H9.box2 4 rfl); clear H8))
          go_wp2
          go_ret
          exact ⟨rfl, H9.below⟩
        · have k4 : ¬ n < -1000 := by omega
          go_wp2_with fail
          clear k3 k4 hlen
          have hz1 : ¬ (xs.length : Int) < 1 := by omega
          have hz0 : ¬ (xs.length : Int) = 0 := by omega
          clear hzz
          go_region_held3 (fun w' : World => (w'.cell? ⟨w3.heap.size, 0, none⟩ = some (.slice op G.length oc) ∧ w'.cell? ⟨w3.heap.size, 1, none⟩ = some (.int .i64 g)) ∧ (w'.cell? ⟨w1.heap.size, 0, none⟩ = some (.slice dp xs.length dc) ∧ w'.cell? ⟨w1.heap.size, 1, none⟩ = some (.int .i64 g)))
            (first | exact ⟨H7.box2 1 rfl, H7.box2 3 rfl⟩ | assumption | exact hS8 | exact hS9)
            (first
              | (go_at_call 30; refine (c8.out _ _ ((D7).nums 4 rfl)).mono ?_; rintro e w8 ⟨v8, rfl, ho, hbl⟩; have H8 := (D7).newN ho hbl; clear ho hbl c8; have hS8 := And.intro (H8.box2 2 rfl) (H8.box2 4 rfl))
              | (go_at_call 18; refine (equalD_T H8 (H8.nums 3 rfl) (H8.nums 0 rfl)).mono ?_; rintro e w9 ⟨rfl, H9⟩; have hS9 := And.intro (H9.box2 2 rfl) (H9.box2 4 rfl); clear H8))
          go_wp2
          go_ret
          exact ⟨rfl, H9.below⟩

set_option maxRecDepth 100000 in
theorem FnRotateDeque_lifted (os : Os) (started : os.Started) (H : Type) (enc : TypeId × Value → H) :
    ReturnsInHanded {} Try.checked os 6 .any (Rows.fnRotateDequeSpec.pre6 enc Try.prog Try.f6 Rows.fnRotateDequeRow.domain false) (Rows.fnRotateDequeSpec.post enc Try.prog Try.f6 false true false false) := by
  refine returnsInHanded_of_change (C := Try.checked) own started (by kernel_rfl) Try.func6
    (ChangeSpec.witness6 (enc := enc) (C := Try.checked) false ⟨#[], #[.slice none 0 0], []⟩ 8 (by kernel_rfl) (by kernel_rfl) (by kernel_rfl) (by kernel_rfl)) ?_
  intro W base args ds gs before hval0 hW _ _
  have hval : ∀ (j : Nat) t v, Try.f6.params[j]? = some t → args[j]? = some v → Value.okWide Try.prog W .any base t v := hval0
  have hW' := hW
  obtain ⟨p, q, hA0, hV, rfl, _, _⟩ := hW
  have hA : DataW.TrodAll enc Try.prog W 0 (fun _ => true) true Try.f6.params.toList args.toList ds p := hA0
  rw [Try.params6] at hA hval
  obtain ⟨v0, vs0, d0, ds0, p0, q0, hargs, rfl, rfl, h0, r0⟩ := trodAll_cons hA
  obtain ⟨rfl, rfl, rfl⟩ := trodAll_nil r0
  obtain rfl : args = #[v0] := by cases args; simp_all
  obtain ⟨rfl, rfl⟩ := trodVars_none hV
  obtain ⟨xs0, hI0⟩ := open_bytes (hval 0 _ v0 rfl rfl) h0
  refine (FnRotateDeque_walk v0 xs0 W hI0).mono fun e W' ⟨he, hb⟩ => ⟨_, he, ?_⟩
  exact law_end rfl (by rw [Try.params6]; decide +kernel) rfl hW' rfl rfl rfl hb

theorem FnRotateDeque_facts : joinedFacts Try.prog 6 Try.f6 Rows.fnRotateDequeSpec Rows.fnRotateDequeRow = true :=
  facts_of (by kernel_rfl) q2 q3 (by kernel_rfl) (by kernel_rfl) (by kernel_rfl) q7 (by kernel_rfl) q9 (by kernel_rfl) (by kernel_rfl) (by kernel_rfl) (by kernel_rfl) (by kernel_rfl) (by kernel_rfl) (by kernel_rfl) (by kernel_rfl) (by kernel_rfl) (by kernel_rfl) (by kernel_rfl) (by kernel_rfl) (by kernel_rfl)
    (by rw [q22]; kernel_rfl) (by kernel_rfl) q23 head_enter (by kernel_rfl) head_lifts head_make (by kernel_rfl) (by kernel_rfl) (by kernel_rfl) (by kernel_rfl) (by kernel_rfl)

theorem FnRotateDeque_holds : Rows.FnRotateDequeSaid :=
  OpenClaim.holds_of_wide 6 Try.f6 rfl rfl rfl rfl rfl rfl rfl ⟨rfl, rfl, rfl, rfl, rfl⟩ rfl rfl rfl rfl rfl (by kernel_rfl) Try.func6 FnRotateDeque_facts
    (of_decide_eq_true (by kernel_rfl)) (by unfold Func.isWrapper; first | (rw [if_pos (by decide +kernel)]; kernel_rfl) | (rw [if_neg (by decide +kernel)]; exact ⟨rfl, rfl⟩))
    (fun os started H enc _ => FnRotateDeque_lifted os started H enc)
end Go.Proofs.Ythblobjemaooeaa
