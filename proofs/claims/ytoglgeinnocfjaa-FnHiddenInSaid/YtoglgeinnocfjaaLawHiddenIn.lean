/-
  FnHiddenIn: true, for every code.
-/
import Derived.Test.YtoglgeinnocfjaaC7
import Derived.Test.YtoglgeinnocfjaaC11
import Derived.Test.YtoglgeinnocfjaaC20
import Derived.Test.YtoglgeinnocfjaaC21
import Derived.Test.YtoglgeinnocfjaaC22
namespace Go.Proofs.Ytoglgeinnocfjaa
open Go.RowKit
open Go.ChangeShapes Go.WideShapes Go.ChangeAt Go.Deep

theorem wh_self {ls : List (List Itm)} {k i : Nat} (hk : k < ls.length) (hi : i < ls[k].length) : hasI ls[k] ls[k][i].1 = true := hasI_mem.2 ⟨_, List.getElem_mem hi, rfl⟩
theorem hid_mem {ls : List (List Itm)} {b : Int} {l : List Itm} {i : Nat} (hi : i < l.length) : memT (hidF ls b l) l[i].1 = decide (whP ls l[i].1 < b) := by
  rw [Bool.eq_iff_iff, decide_eq_true_iff, memT_iff]
  unfold hidF
  rw [List.mem_map]
  constructor
  · rintro ⟨x, hx, hxe⟩
    have := (List.mem_filter.1 hx).2
    rw [hxe] at this
    simpa using this
  · intro h
    exact ⟨l[i], List.mem_filter.2 ⟨List.getElem_mem hi, by simpa using h⟩, rfl⟩
theorem hid_first {ls : List (List Itm)} (h : 0 < ls.length) : hidF ls 0 ls[0] = [] := by
  unfold hidF
  rw [List.map_eq_nil_iff, List.filter_eq_nil_iff]
  intro x hx
  obtain ⟨i, hi, rfl⟩ := List.getElem_of_mem hx
  have := (wh_le ls[0][i].1 ls 0 h (wh_self h hi)).1
  simp
  omega

set_option maxHeartbeats 4000000 in
set_option maxRecDepth 100000 in
theorem FnHiddenIn_walk (v : Value) (bs : List Int) (w : World) (h : Bytes w v bs) :
    Calls Try.prog 14 #[v] w fun e w' => e = .returned (.bool true) ∧ Below w.heap.size w w' := by
  have h0 := h
  obtain ⟨ao, cap, rfl, hl, hc, hok, hcell⟩ := h0
  clear hcell hok
  go_enter Try.func14, Try.ntmps14
  by_cases hbig : (1048576 : Int) < (bs.length : Int)
  · go_wp2
    go_ret
    exact ⟨rfl, Below.refl _ _⟩
  go_wp2_with fail
  refine (DrawHiddenIn_any _ bs w h).mono ?_
  rintro e w1 ⟨vc, ls, q, rfl, hbnd, hm, hbl⟩
  have H1 := (Things.nil w).new (t := readMT w.heap.size w1.heap.size vc ls) (Nat.le_refl _) (Nat.le_refl _) hm hbl
  obtain ⟨cp, cc, rfl, hcc, hcm⟩ := (H1.mapsR 0 rfl).slice
  have H2 := H1.boxed 51 [.slice cp ls.length cc]
  clear hm hbl H1 h
  obtain ⟨X, hX⟩ : ∃ X, Hid (X = hiL ls q) := ⟨_, Lib.hid rfl⟩
  obtain ⟨V, hV⟩ : ∃ V, Hid (V = validC ls) := ⟨_, Lib.hid rfl⟩
  have cV := Lib.hid (fun (v0 : Value) (w : World) (h0 : Maps w v0 ls) => (show Calls Try.prog 42 #[.agg #[v0]] w (RetQ (.bool V) w) by rw [hV.out]; exact VC_any v0 ls w h0))
  have hqb : -9223372036854775808 ≤ q ∧ q ≤ 9223372036854775807 := by omega
  have cI := Lib.hid (fun (v0 : Value) (w : World) (h0 : Maps w v0 ls) => (show Calls Try.prog 62 #[.agg #[v0], .int .i64 q] w (NewT (fun v => v) X w) by rw [hX.out]; exact HiddenIn_any v0 ls q w h0 hqb))
  have cS := Lib.hid (fun (v0 : Value) (w : World) (h0 : Maps w v0 ls) => (show Calls Try.prog 64 #[.agg #[v0], .int .i64 q] w (NewT (fun v => v) X w) by rw [hX.out]; exact sHiddenIn_any v0 ls q w h0 hqb))
  clear hqb
  have c0_ := H2.box1 0 rfl
  go_wp2_with fail
  refine (cI.out _ _ (H2.mapsR 1 rfl)).mono ?_
  rintro e w3 ⟨vo, rfl, ho, hbl⟩
  have H3 := H2.newT ho hbl
  clear c0_
  clear H2 ho hbl
  obtain ⟨op, oc, rfl, hoc, hom⟩ := Texts.shape (H3.texts 0 rfl)
  have c0_ := H3.box1 1 rfl
  go_wp2_with fail
  refine (cS.out _ _ (H3.mapsR 2 rfl)).mono ?_
  rintro e w4 ⟨vw, rfl, ho, hbl⟩
  have H4 := H3.newT ho hbl
  clear c0_
  clear H3 ho hbl
  go_wp2_with fail
  refine (equalT_T H4 (H4.texts 1 rfl) (H4.texts 0 rfl)).mono ?_
  rintro e w5 ⟨rfl, H5⟩
  clear H4
  have c0_ := H5.box1 2 rfl
  go_wp2_with fail
  refine (cV.out _ _ (H5.mapsR 3 rfl)).mono ?_
  rintro e w6 ⟨rfl, hb⟩
  have H6 := H5.quiet hb
  clear c0_
  clear hb H5
  cases V
  · skip
    have c0_ := H6.box1 2 rfl
    go_wp2_with fail
    refine (cS.out _ _ (H6.mapsR 3 rfl)).mono ?_
    rintro e w7 ⟨vz, rfl, ho, hbl⟩
    have H7 := H6.newT ho hbl
    clear c0_
    clear H6 ho hbl
    go_wp2_with fail
    refine (equalT_T H7 (H7.texts 2 rfl) (H7.texts 0 rfl)).mono ?_
    rintro e w8 ⟨rfl, H8⟩
    clear H7
    go_wp2
    go_ret
    exact ⟨rfl, H8.below⟩
  · by_cases hq0 : q < 0
    · skip
      have c0_ := H6.box1 2 rfl
      go_wp2_with fail
      refine (cS.out _ _ (H6.mapsR 3 rfl)).mono ?_
      rintro e w7 ⟨vz, rfl, ho, hbl⟩
      have H7 := H6.newT ho hbl
      clear c0_
      clear H6 ho hbl
      go_wp2_with fail
      refine (equalT_T H7 (H7.texts 2 rfl) (H7.texts 0 rfl)).mono ?_
      rintro e w8 ⟨rfl, H8⟩
      clear H7
      go_wp2
      go_ret
      exact ⟨rfl, H8.below⟩
    · by_cases hql : (ls.length : Int) ≤ q
      · skip
        have c0_ := H6.box1 2 rfl
        go_wp2_with fail
        refine (cS.out _ _ (H6.mapsR 3 rfl)).mono ?_
        rintro e w7 ⟨vz, rfl, ho, hbl⟩
        have H7 := H6.newT ho hbl
        clear c0_
        clear H6 ho hbl
        go_wp2_with fail
        refine (equalT_T H7 (H7.texts 2 rfl) (H7.texts 0 rfl)).mono ?_
        rintro e w8 ⟨rfl, H8⟩
        clear H7
        go_wp2
        go_ret
        exact ⟨rfl, H8.below⟩
      · obtain ⟨z, rfl⟩ := Int.eq_ofNat_of_zero_le (show 0 ≤ q by omega)
        have hv := hV.out.symm
        have hzl : z < ls.length := by omega
        have hz0 : 0 < ls.length := by omega
        have hXe : X = hidF ls z ls[z] := by rw [hX.out]; exact hi_yes hv hzl
        have hMT : Hid (∀ (j : Nat) (h : j < ls[z].length), memT X ls[z][j].1 = decide (whP ls ls[z][j].1 < z)) := fun j h => by rw [hXe]; exact hid_mem h
        have hXl : Hid (X.length ≤ ls[z].length) := by rw [hXe]; exact hid_le _ _ _
        have c0i := Lib.hid (fun (v0 : Value) (w : World) (h0 : Maps w v0 ls) => (show Calls Try.prog 62 #[.agg #[v0], .int .i64 0] w (NewT (fun v => v) [] w) by have h1 := HiddenIn_any v0 ls 0 w h0 (by omega); rw [show hiL ls 0 = hidF ls (0 : Nat) ls[0] from hi_yes hv hz0, show ((0 : Nat) : Int) = 0 from rfl, hid_first hz0] at h1; exact h1))
        have cW := Lib.hid (fun (t : ByteArray) (v0 : Value) (w : World) (h0 : Maps w v0 ls) => (show Calls Try.prog 46 #[.agg #[v0], .string t] w (RetQ (.int .i64 (whP ls t)) w) by have h1 := WhereIs_any v0 ls t w h0; rw [whC_yes hv] at h1; exact h1))
        have hlenz : Hid (ls[z].length ≤ 8) := ((validI_iff _).1 ((validC_iff.1 hv).1 _ (List.getElem_mem hzl))).2.2
        obtain ⟨b, o, cp2, x, e, hb, d0, hI⟩ := (H6.mapsR 3 rfl).at hzl
        simp only [Value.slice.injEq] at e
        obtain ⟨rfl, _, rfl⟩ := e
        have hzi : (0 : Int) ≤ (z : Int) := by omega
        have hzl2 : (z : Int) < (ls.length : Int) := by omega
        obtain ⟨xp, xc, rfl, hxc, hxm⟩ := Items.shape hI
        clear hI hV hX hXe cI cS cV hv
        have c0_ := H6.box1 2 rfl
        have hdl : decide (ls.length ≤ z) = false := by rw [decide_eq_false_iff_not]; omega
        have HDL := Lib.hid hdl
        clear hdl
        go_wp2
        simp only [HDL.out, Bool.or_false]
        go_loopw [6, 7] (fun i _x wr => ∃ k : Nat, i = .int .i64 k ∧ k ≤ ls[z].length ∧ Below w6.heap.size w6 wr) (fun i _ _ => ls[z].length - (intOf i).toNat)
        case atStart => exact ⟨0, rfl, Nat.zero_le _, Below.refl _ _⟩
        case round =>
          obtain ⟨k, rfl, hk, hbl⟩ := hrel
          by_cases hlt : k < ls[z].length
          · skip
            have R := H6.quiet hbl
            have hdz := hlenz.out
            have d1 := (hbl.cell (p := ⟨b, o + z, none⟩) hb).trans d0
            obtain ⟨b2, o2, cp3, x2, e, hb2, d2, hI2⟩ := (R.mapsR 3 rfl).at hzl
            simp only [Value.slice.injEq, Option.some.injEq, Addr.mk.injEq, and_true] at e
            obtain ⟨⟨rfl, rfl⟩, _, rfl⟩ := e
            have hxe : x2 = .slice xp ls[z].length xc := by rw [d1] at d2; injection d2 with d2; exact d2.symm
            subst hxe
            clear d2 c0_
            have c0_ := R.box1 2 rfl
            have hki : (0 : Int) ≤ (k : Int) := by omega
            have hkl : (k : Int) < (ls[z].length : Int) := by omega
            obtain ⟨b3, o3, rfl, hb3, s0, s1⟩ := Items.cellAt hI2 hlt
            clear hI2
            obtain ⟨t, ht⟩ : ∃ t, Hid (t = ls[z][k].1) := ⟨_, Lib.hid rfl⟩
            rw [← ht.out] at s0
            obtain ⟨Y, hY⟩ : ∃ Y, Hid (Y = whP ls t) := ⟨_, Lib.hid rfl⟩
            have hm := hMT.out k hlt
            rw [← ht.out, ← hY.out] at hm
            have cH := Lib.hid (fun (v0 : Value) (w : World) (h0 : Texts w v0 X) => (show Calls Try.prog 65 #[v0, .string t] w (fun e w' => e = .returned (.bool (decide (Y < z))) ∧ Below w.heap.size w w') by have h1 := hasText_any v0 X t w h0; rw [hm] at h1; exact h1))
            have cW2 := Lib.hid (fun (v0 : Value) (w : World) (h0 : Maps w v0 ls) => (show Calls Try.prog 46 #[.agg #[v0], .string t] w (RetQ (.int .i64 Y) w) by rw [hY.out]; exact cW.out t v0 w h0))
            have c0f := fresh_cell c0_
            have hqq : (decide (Y < (z : Int)) != decide (Y < (z : Int))) = false := bne_self_eq_false _
            clear hm ht hY s1
            go_wp2_with fail
            refine region_fresh (by kernel_rfl) (by kernel_rfl) ?_
            repeat (with_reducible refine wpQuiet_step ?_; intro K hK; go_simp; first | (refine hK _ ?_; clear hK K) | (apply Exists.intro; refine ⟨fun _ => ?_, hK _ ?_⟩; (first | (go_at_call 65; exact fresh_of (cH.out _ _ ((Things.quiet R (Fresh.is _)).texts 1 rfl))) | (go_at_call 46; exact fresh_Q (cW2.out _ _ ((Things.quiet R (Fresh.is _)).mapsR 3 rfl)))); clear hK K))
            with_reducible refine wpQuiet_nil ?_
            intro _ hw'
            obtain ⟨⟨wq, hq⟩, hw''⟩ := hw'
            subst hw''
            have hblq := hbl.trans (hq.mono hbl.size)
            clear d1 c0_ c0f R s0
            go_wp2
            go_roundw
            case rel => exact ⟨k + 1, by go_num, by omega, hblq⟩
            case measure => simp [intOf]; omega
          · obtain rfl : k = ls[z].length := by omega
            have d1 := (hbl.cell (p := ⟨b, o + z, none⟩) hb).trans d0
            have H7 := H6.quiet hbl
            clear c0_
            have c0_ := H7.box1 2 rfl
            go_wp2_with fail
            refine (c0i.out _ _ (H7.mapsR 3 rfl)).mono ?_
            rintro e w8 ⟨vy, rfl, ho, hbl2⟩
            have H8 := H7.newT ho hbl2
            obtain ⟨yp, yc, rfl, _, _⟩ := Texts.shape (H8.texts 0 rfl)
            have d2 := (hbl2.cell (p := ⟨b, o + z, none⟩) (Nat.lt_of_lt_of_le hb hbl.size)).trans d1
            clear d1 c0_ ho H7
            have c0_ := H8.box1 3 rfl
            have hXl2 : (X.length : Int) ≤ (ls[z].length : Int) := by have := hXl.out; omega
            go_wp2
            go_ret
            exact ⟨rfl, H8.below⟩

set_option maxRecDepth 100000 in
theorem FnHiddenIn_lifted (os : Os) (started : os.Started) (H : Type) (enc : TypeId × Value → H) :
    ReturnsInHanded {} Try.checked os 14 .any (Rows.fnHiddenInSpec.pre6 enc Try.prog Try.f14 Rows.fnHiddenInRow.domain false) (Rows.fnHiddenInSpec.post enc Try.prog Try.f14 false true false false) := by
  refine returnsInHanded_of_change (C := Try.checked) own started (by kernel_rfl) Try.func14
    (ChangeSpec.witness6 (enc := enc) (C := Try.checked) false ⟨#[], #[.slice none 0 0], []⟩ 8 (by kernel_rfl) (by kernel_rfl) (by kernel_rfl) (by kernel_rfl)) ?_
  intro W base args ds gs before hval0 hW _ _
  have hval : ∀ (j : Nat) t v, Try.f14.params[j]? = some t → args[j]? = some v → Value.okWide Try.prog W .any base t v := hval0
  have hW' := hW
  obtain ⟨p, q, hA0, hV, rfl, _, _⟩ := hW
  have hA : DataW.TrodAll enc Try.prog W 0 (fun _ => true) true Try.f14.params.toList args.toList ds p := hA0
  rw [Try.params14] at hA hval
  obtain ⟨v0, vs0, d0, ds0, p0, q0, hargs, rfl, rfl, h0, r0⟩ := trodAll_cons hA
  obtain ⟨rfl, rfl, rfl⟩ := trodAll_nil r0
  obtain rfl : args = #[v0] := by cases args; simp_all
  obtain ⟨rfl, rfl⟩ := trodVars_none hV
  obtain ⟨xs0, hI0⟩ := open_bytes (hval 0 _ v0 rfl rfl) h0
  refine (FnHiddenIn_walk v0 xs0 W hI0).mono fun e W' ⟨he, hb⟩ => ⟨_, he, ?_⟩
  exact law_end rfl (by rw [Try.params14]; decide +kernel) rfl hW' rfl rfl rfl hb

theorem FnHiddenIn_facts : joinedFacts Try.prog 14 Try.f14 Rows.fnHiddenInSpec Rows.fnHiddenInRow = true :=
  facts_of (by kernel_rfl) q2 q3 (by kernel_rfl) (by kernel_rfl) (by kernel_rfl) q7 (by kernel_rfl) q9 (by kernel_rfl) (by kernel_rfl) (by kernel_rfl) (by kernel_rfl) (by kernel_rfl) (by kernel_rfl) (by kernel_rfl) (by kernel_rfl) (by kernel_rfl) (by kernel_rfl) (by kernel_rfl) (by kernel_rfl) (by kernel_rfl)
    (by rw [q22]; kernel_rfl) (by kernel_rfl) q23 head_enter (by kernel_rfl) head_lifts head_make (by kernel_rfl) (by kernel_rfl) (by kernel_rfl) (by kernel_rfl) (by kernel_rfl)

theorem FnHiddenIn_holds : Rows.FnHiddenInSaid :=
  OpenClaim.holds_of_wide 14 Try.f14 rfl rfl rfl rfl rfl rfl rfl ⟨rfl, rfl, rfl, rfl, rfl⟩ rfl rfl rfl rfl rfl (by kernel_rfl) Try.func14 FnHiddenIn_facts
    (of_decide_eq_true (by kernel_rfl)) (by unfold Func.isWrapper; first | (rw [if_pos (by decide +kernel)]; kernel_rfl) | (rw [if_neg (by decide +kernel)]; exact ⟨rfl, rfl⟩))
    (fun os started H enc _ => FnHiddenIn_lifted os started H enc)
end Go.Proofs.Ytoglgeinnocfjaa
