/-
  FnDeepDrop: true, for every code.
-/
import Derived.Test.YtoglgeinnocfjaaC7
import Derived.Test.YtoglgeinnocfjaaC11
import Derived.Test.YtoglgeinnocfjaaC20
import Derived.Test.YtoglgeinnocfjaaC21
import Derived.Test.YtoglgeinnocfjaaC22
namespace Go.Proofs.Ytoglgeinnocfjaa
open Go.RowKit
open Go.ChangeShapes Go.WideShapes Go.ChangeAt Go.Deep

theorem oft_set {s : ByteArray} {l : List Itm} (hl : hasI l s = false) : ∀ (ls : List (List Itm)) (k : Nat) (hk : k < ls.length), hasI ls[k] s = true → oftP (ls.set k l) s = oftP ls s - 1
  | [], k, hk, _ => by simp at hk
  | x :: r, 0, hk, hh => by
    have hh' : hasI x s = true := hh
    show oftP (l :: r) s = _
    rw [oftP_cons, oftP_cons, if_pos hh', hl]
    simp
  | x :: r, k + 1, hk, hh => by
    have hk' : k < r.length := by simpa using hk
    have h1 := oft_set hl r k hk' hh
    show oftP (x :: r.set k l) s = _
    rw [oftP_cons, oftP_cons, h1]
    split <;> omega
theorem del_subl (k : ByteArray) : ∀ l : List Itm, (delI l k).Sublist l
  | [] => by simp [delI]
  | x :: r => by
    unfold delI
    split
    · exact List.sublist_cons_self _ _
    · exact (del_subl k r).cons_cons x
theorem ddB_iff {ls : List (List Itm)} {s : ByteArray} (hv : validC ls = true) : ddB ls s = true ↔ 0 < oftP ls s := by
  unfold ddB
  rw [hv, Bool.true_and, decide_eq_true_iff]
  exact wh_oft s ls
theorem dd_next {ls : List (List Itm)} {s : ByteArray} (h : ddB ls s = true) : validC ls = true ∧ validC (ddL ls s) = true ∧ oftP (ddL ls s) s = oftP ls s - 1 := by
  have h1 : validC ls = true := by
    unfold ddB at h
    rw [Bool.and_eq_true] at h
    exact h.1
  have hw : 0 ≤ whP ls s := (wh_oft s ls).2 ((ddB_iff h1).1 h)
  obtain ⟨k, hk⟩ := Int.eq_ofNat_of_zero_le hw
  have hl := (whP_lt ls s).2
  have hkl : k < ls.length := by omega
  have hh := wh_at s ls k hkl hk
  obtain ⟨_, h3, _, _⟩ := dd_yes h1 hkl hk hh
  have hvk := (validC_iff.1 h1).1 _ (List.getElem_mem hkl)
  have hu := (validI_iff _).1 hvk
  have hd : hasI (delI ls[k] s) s = false := by rw [hasI_delI s s hu.2.1]; simp
  refine ⟨h1, ?_, ?_⟩
  · rw [h3, validC_set h1 hkl]
    have hsub : (delI ls[k] s).Sublist ls[k] := del_subl s _
    exact (validI_iff _).2 ⟨fun x hx => hu.1 x (hsub.subset hx), uniqI_delI s hu.2.1, Nat.le_trans hsub.length_le hu.2.2⟩
  · rw [h3]
    exact oft_set hd ls k hkl hh
theorem get_gone {ls : List (List Itm)} {s : ByteArray} (hv : validC ls = true) (h : oftP ls s = 0) : cgB ls s = false := by
  rw [(cg_yes hv).2, decide_eq_false_iff_not]
  intro hw
  have := (wh_oft s ls).1 hw
  omega

set_option maxHeartbeats 4000000 in
set_option maxRecDepth 100000 in
theorem FnDeepDrop_walk (v : Value) (bs : List Int) (w : World) (h : Bytes w v bs) :
    Calls Try.prog 12 #[v] w fun e w' => e = .returned (.bool true) ∧ Below w.heap.size w w' := by
  have h0 := h
  obtain ⟨ao, cap, rfl, hl, hc, hok, hcell⟩ := h0
  clear hcell hok
  go_enter Try.func12, Try.ntmps12
  by_cases hbig : (1048576 : Int) < (bs.length : Int)
  · go_wp2
    go_ret
    exact ⟨rfl, Below.refl _ _⟩
  go_wp2_with fail
  refine (DrawDeepDrop_any _ bs w h).mono ?_
  rintro e w1 ⟨vc, ls, s, rfl, hbnd, hm, hbl⟩
  have H1 := (Things.nil w).new (t := readMT w.heap.size w1.heap.size vc ls) (Nat.le_refl _) (Nat.le_refl _) hm hbl
  obtain ⟨cp, cc, rfl, hcc, hcm⟩ := (H1.mapsR 0 rfl).slice
  have H2 := H1.boxed 51 [.slice cp ls.length cc]
  clear hm hbl H1 h
  obtain ⟨G, hG⟩ : ∃ G, Hid (G = ddL ls s) := ⟨_, Lib.hid rfl⟩
  obtain ⟨K, hK⟩ : ∃ K, Hid (K = ddB ls s) := ⟨_, Lib.hid rfl⟩
  have cI := Lib.hid (fun (v0 : Value) (w : World) (h0 : Maps w v0 ls) => (show Calls Try.prog 57 #[.agg #[v0], .string s] w (NewM (fun v => .tuple #[.agg #[v], .bool K]) G w) by rw [hG.out, hK.out]; exact DeepDrop_any v0 ls s w h0))
  have cS := Lib.hid (fun (v0 : Value) (w : World) (h0 : Maps w v0 ls) => (show Calls Try.prog 58 #[.agg #[v0], .string s] w (NewM (fun v => .tuple #[.agg #[v], .bool K]) G w) by rw [hG.out, hK.out]; exact sDeepDrop_any v0 ls s w h0))
  have c0_ := H2.box1 0 rfl
  go_wp2_with fail
  refine (cI.out _ _ (H2.mapsR 1 rfl)).mono ?_
  rintro e w3 ⟨vo, rfl, ho, hbl⟩
  have H3 := H2.newM ho hbl
  obtain ⟨op, oc, rfl, hoc, hom⟩ := (H3.mapsO 0 rfl).slice
  clear c0_
  have H4 := H3.boxed 51 [.slice op G.length oc]
  clear H2 H3 ho hbl
  have c0_ := H4.box1 2 rfl
  go_wp2_with fail
  refine (cS.out _ _ (H4.mapsR 3 rfl)).mono ?_
  rintro e w5 ⟨vw, rfl, ho, hbl⟩
  have H5 := H4.newM ho hbl
  obtain ⟨wp, wc, rfl, hwc, hwm⟩ := (H5.mapsO 0 rfl).slice
  clear c0_
  have H6 := H5.boxed 51 [.slice wp G.length wc]
  clear H4 H5 ho hbl
  clear cI cS
  have o0_ := H6.box1 2 rfl
  have w0_ := H6.box1 0 rfl
  go_wp2_with fail
  refine (equalC_T H6 (H6.mapsO 3 rfl) (H6.mapsO 1 rfl)).mono ?_
  rintro e w7 ⟨rfl, H7⟩
  clear o0_ w0_
  clear H6
  cases K
  · skip
    have o0_ := H7.box1 2 rfl
    have w0_ := H7.box1 0 rfl
    go_wp2_with fail
    refine (equalC_T H7 (H7.mapsO 3 rfl) (H7.mapsO 1 rfl)).mono ?_
    rintro e w8 ⟨rfl, H8⟩
    clear o0_ w0_
    clear H7
    go_wp2
    go_ret
    exact ⟨rfl, H8.below⟩
  · obtain ⟨q1, q2, q3⟩ := dd_next hK.out.symm
    rw [← hG.out] at q2 q3
    have hl4 := oftP_le ls s
    have hlen := (validC_iff.1 q1).2.2
    have hq0 := (ddB_iff q1).1 hK.out.symm
    obtain ⟨A, hA⟩ : ∃ A, Hid (A = oftP G s) := ⟨_, Lib.hid rfl⟩
    obtain ⟨B, hB⟩ : ∃ B, Hid (B = oftP ls s) := ⟨_, Lib.hid rfl⟩
    rw [← hA.out, ← hB.out] at q3
    rw [← hB.out] at hl4 hq0
    have cA := Lib.hid (fun (v0 : Value) (w : World) (h0 : Maps w v0 G) => (show Calls Try.prog 49 #[.agg #[v0], .string s] w (RetQ (.int .i64 A) w) by have h1 := HowOften_any v0 G s w h0; rw [ofC_yes q2, ← hA.out] at h1; exact h1))
    have cB := Lib.hid (fun (v0 : Value) (w : World) (h0 : Maps w v0 ls) => (show Calls Try.prog 49 #[.agg #[v0], .string s] w (RetQ (.int .i64 B) w) by have h1 := HowOften_any v0 ls s w h0; rw [ofC_yes q1, ← hB.out] at h1; exact h1))
    obtain ⟨a, ha⟩ := Int.eq_ofNat_of_zero_le (show 0 ≤ A by omega)
    subst ha
    have ha4 : a ≤ 4 := by omega
    have hwr : IntKind.i64.wrap (B - 1) = (a : Int) := by rw [IntWalk.i64_in _ (by omega)]; omega
    have HVG := Lib.hid q2
    clear hG hK hB q1 q2 q3 hl4 hlen hq0 hbnd
    have H8 := H7.boxed 51 [.slice op G.length oc]
    have o0_ := H7.box1 2 rfl
    clear H7
    have o1_ := H8.box1 3 rfl
    go_wp2_with fail
    refine (cA.out _ _ (H8.mapsO 4 rfl)).mono ?_
    rintro e w9 ⟨rfl, hb⟩
    have H9 := H8.quiet hb
    clear o0_ o1_
    clear hb H8
    have MO := H9.has 4 _ rfl
    obtain ⟨L0, lo0, hi0, lo1, hi1, HB, e1, e2, e3, e4⟩ : ∃ L0 lo0 hi0 lo1 hi1, Things w w9 (boxT w7.heap.size 51 [.slice op G.length oc] :: L0) ∧ L0[2]? = some (boxT w3.heap.size 51 [.slice op G.length oc]) ∧ L0[4]? = some (boxT w1.heap.size 51 [.slice cp ls.length cc]) ∧ L0[3]? = some (ownMT lo0 hi0 (.slice op G.length oc) G) ∧ L0[5]? = some (readMT lo1 hi1 (.slice cp ls.length cc) ls) := ⟨_, _, _, _, _, H9, rfl, rfl, rfl, rfl⟩
    have hnb := HB.box1 0 rfl
    have hap := HB.apart 0 4 _ _ (by decide) rfl (show _ from e3)
    have MO := (HB.has 4 _ (show _ from e3)).2
    have M0 : MapsK (In lo0 hi0) w9 (.slice op G.length oc) G := OwnM.mapsK MO.2
    have hni : ¬ In lo0 hi0 w7.heap.size := by
      intro hin
      have h1 := hin.1
      have h2 := hin.2
      rcases hap with h3 | h3
      · have : w7.heap.size + 1 ≤ lo0 := h3
        omega
      · have : hi0 ≤ w7.heap.size := h3
        omega
    have hhi : hi0 ≤ w9.heap.size := MO.1
    have hba := H9.below
    clear H9 MO hap hnb
    go_wp2
    go_loopw [10] (fun i wr => ∃ (q : Nat) (ms : List (List Itm)) (v : Value) (lo hi : Nat), i = .int .i64 q ∧ q ≤ 4 ∧ Hid (validC ms = true ∧ oftP ms s = (q : Int)) ∧ Hid (Things w wr (boxT w7.heap.size 51 [v] :: L0)) ∧ Hid (MapsK (In lo hi) wr v ms) ∧ ¬ In lo hi w7.heap.size ∧ hi ≤ wr.heap.size) (fun i _ => (intOf i).toNat)
    case atStart => exact ⟨a, G, _, lo0, hi0, rfl, ha4, ⟨HVG.out, hA.out.symm⟩, HB, M0, hni, hhi⟩
    case round =>
      clear HB M0 hni hhi hba
      obtain ⟨q, ms, v, lo, hi, rfl, hq, HV, HR, HM, hni, hhi⟩ := hrel
      obtain ⟨rp, rc, rfl, _, _⟩ := HM.out.weak.slice
      have r0_ := HR.out.box1 0 rfl
      have rf_ := HR.out.boxfree 0 (j := 0) rfl
      by_cases hlt : 0 < q
      · have hltI : (0 : Int) < (q : Int) := by omega
        have hB := (ddB_iff HV.out.1).2 (by rw [HV.out.2]; omega)
        obtain ⟨_, v2, v3⟩ := dd_next hB
        obtain ⟨ns, hns⟩ : ∃ ns, Hid (ns = ddL ms s) := ⟨_, Lib.hid rfl⟩
        have HV2 : Hid (validC ns = true ∧ oftP ns s = ((q - 1 : Nat) : Int)) := ⟨by rw [hns.out]; exact v2, by rw [hns.out, v3, HV.out.2]; omega⟩
        have cD := Lib.hid (fun (v0 : Value) (w : World) (h0 : Maps w v0 ms) => (show Calls Try.prog 57 #[.agg #[v0], .string s] w (NewM (fun v => .tuple #[.agg #[v], .bool true]) ns w) by have h1 := DeepDrop_any v0 ms s w h0; rw [hB, ← hns.out] at h1; exact h1))
        clear hB v2 v3 hns HV
        go_wp2_with fail
        refine (cD.out _ _ HM.out.weak).mono ?_
        rintro e wq ⟨vx, rfl, ho, hbl⟩
        obtain ⟨xp, xc, rfl, _, _⟩ := ho.maps.slice
        have hlt0 : w7.heap.size < wr.heap.size := World.block_lt_of_cell? wr ⟨w7.heap.size, 0, none⟩ r0_
        have hbx : Below wq.heap.size wq (wq.alloc (.cells #[.slice xp ns.length xc] 51)) := (Below.refl _ _).alloc (Nat.le_refl _) _
        have HR2 := (HR.out.quiet hbl).quiet hbx
        have r1_ := (HR.out.quiet hbl).box1 0 rfl
        have r2_ := HR2.box1 0 rfl
        have f2_ := HR2.boxfree 0 (j := 0) rfl
        have HR3 := Lib.hid (HR2.store1 (.slice xp ns.length xc))
        have hne : w7.heap.size ≠ wq.heap.size := by have := hbl.size; omega
        have hne2 : wq.heap.size ≠ w7.heap.size := hne.symm
        have HM3 : Hid (MapsK (In wr.heap.size wq.heap.size) ((wq.alloc (.cells #[.slice xp ns.length xc] 51)).setCell ⟨w7.heap.size, 0, none⟩ (.slice xp ns.length xc)) (.slice xp ns.length xc) ns) :=
          ((ho.mapsK.keeps (Keeps.of_below hbx (fun j hj => hj.2))).keeps ((Keeps.refl _ _).boxset (a := ⟨w7.heap.size, 0, none⟩) hlt0 _))
        have hh3 : wq.heap.size ≤ ((wq.alloc (.cells #[.slice xp ns.length xc] 51)).setCell ⟨w7.heap.size, 0, none⟩ (.slice xp ns.length xc)).heap.size := by simp
        have hwm : IntKind.i64.wrap ((q : Int) - 1) = ((q - 1 : Nat) : Int) := by rw [IntWalk.i64_in _ (by omega)]; omega
        clear HR HM ho HR2 hbx cD r0_ rf_
        go_wp2
        go_roundw
        case rel => exact ⟨q - 1, ns, _, wr.heap.size, wq.heap.size, by go_num, by omega, HV2, HR3, HM3, fun h => by have := h.1; omega, hh3⟩
        case measure => simp [intOf]; omega
      · obtain rfl : q = 0 := by omega
        have cZ := Lib.hid (fun (v0 : Value) (w : World) (h0 : Maps w v0 ms) => (show Calls Try.prog 54 #[.agg #[v0], .string s] w (RetQ (.tuple #[.int .i64 (cgN ms s), .bool false]) w) by have h1 := ChainGet_any v0 ms s w h0; rw [get_gone HV.out.1 HV.out.2] at h1; exact h1))
        go_wp2_with fail
        refine (cZ.out _ _ HM.out.weak).mono ?_
        rintro e wq ⟨rfl, hb⟩
        have HQ := HR.out.quiet hb
        have o0_ := HQ.box1 3 (show _ from e1)
        have c0_ := HQ.box1 5 (show _ from e2)
        have o0f := fresh_cell o0_
        have c0f := fresh_cell c0_
        have fO := Lib.hid (fun p : Fresh wq => (Things.quiet HQ (Fresh.is p)).mapsO 4 (show _ from e3))
        have fC := Lib.hid (fun p : Fresh wq => (Things.quiet HQ (Fresh.is p)).mapsR 6 (show _ from e4))
        clear HR HM cZ hb r0_ rf_
        go_wp2_with fail
        refine region_fresh (by kernel_rfl) (by kernel_rfl) ?_
        repeat (with_reducible refine wpQuiet_step ?_; intro K hK; go_simp; first | (refine hK _ ?_; clear hK K) | (apply Exists.intro; refine ⟨fun _ => ?_, hK _ ?_⟩; (first | (go_at_call 49; exact fresh_Q (cA.out _ _ (fO.out _))) | (go_at_call 49; exact fresh_Q (cB.out _ _ (fC.out _)))); clear hK K))
        with_reducible refine wpQuiet_nil ?_
        intro _ hw'
        obtain ⟨⟨wz, hz⟩, hw''⟩ := hw'
        subst hw''
        have HZ := HQ.quiet hz
        go_wp2
        go_ret
        exact ⟨rfl, HZ.below⟩

set_option maxRecDepth 100000 in
theorem FnDeepDrop_lifted (os : Os) (started : os.Started) (H : Type) (enc : TypeId × Value → H) :
    ReturnsInHanded {} Try.checked os 12 .any (Rows.fnDeepDropSpec.pre6 enc Try.prog Try.f12 Rows.fnDeepDropRow.domain false) (Rows.fnDeepDropSpec.post enc Try.prog Try.f12 false true false false) := by
  refine returnsInHanded_of_change (C := Try.checked) own started (by kernel_rfl) Try.func12
    (ChangeSpec.witness6 (enc := enc) (C := Try.checked) false ⟨#[], #[.slice none 0 0], []⟩ 8 (by kernel_rfl) (by kernel_rfl) (by kernel_rfl) (by kernel_rfl)) ?_
  intro W base args ds gs before hval0 hW _ _
  have hval : ∀ (j : Nat) t v, Try.f12.params[j]? = some t → args[j]? = some v → Value.okWide Try.prog W .any base t v := hval0
  have hW' := hW
  obtain ⟨p, q, hA0, hV, rfl, _, _⟩ := hW
  have hA : DataW.TrodAll enc Try.prog W 0 (fun _ => true) true Try.f12.params.toList args.toList ds p := hA0
  rw [Try.params12] at hA hval
  obtain ⟨v0, vs0, d0, ds0, p0, q0, hargs, rfl, rfl, h0, r0⟩ := trodAll_cons hA
  obtain ⟨rfl, rfl, rfl⟩ := trodAll_nil r0
  obtain rfl : args = #[v0] := by cases args; simp_all
  obtain ⟨rfl, rfl⟩ := trodVars_none hV
  obtain ⟨xs0, hI0⟩ := open_bytes (hval 0 _ v0 rfl rfl) h0
  refine (FnDeepDrop_walk v0 xs0 W hI0).mono fun e W' ⟨he, hb⟩ => ⟨_, he, ?_⟩
  exact law_end rfl (by rw [Try.params12]; decide +kernel) rfl hW' rfl rfl rfl hb

theorem FnDeepDrop_facts : joinedFacts Try.prog 12 Try.f12 Rows.fnDeepDropSpec Rows.fnDeepDropRow = true :=
  facts_of (by kernel_rfl) q2 q3 (by kernel_rfl) (by kernel_rfl) (by kernel_rfl) q7 (by kernel_rfl) q9 (by kernel_rfl) (by kernel_rfl) (by kernel_rfl) (by kernel_rfl) (by kernel_rfl) (by kernel_rfl) (by kernel_rfl) (by kernel_rfl) (by kernel_rfl) (by kernel_rfl) (by kernel_rfl) (by kernel_rfl) (by kernel_rfl)
    (by rw [q22]; kernel_rfl) (by kernel_rfl) q23 head_enter (by kernel_rfl) head_lifts head_make (by kernel_rfl) (by kernel_rfl) (by kernel_rfl) (by kernel_rfl) (by kernel_rfl)

theorem FnDeepDrop_holds : Rows.FnDeepDropSaid :=
  OpenClaim.holds_of_wide 12 Try.f12 rfl rfl rfl rfl rfl rfl rfl ⟨rfl, rfl, rfl, rfl, rfl⟩ rfl rfl rfl rfl rfl (by kernel_rfl) Try.func12 FnDeepDrop_facts
    (of_decide_eq_true (by kernel_rfl)) (by unfold Func.isWrapper; first | (rw [if_pos (by decide +kernel)]; kernel_rfl) | (rw [if_neg (by decide +kernel)]; exact ⟨rfl, rfl⟩))
    (fun os started H enc _ => FnDeepDrop_lifted os started H enc)
end Go.Proofs.Ytoglgeinnocfjaa
