/-
  FnChainPut: true, for every code.
-/
import Derived.Deep.RegionHeld3
import Derived.Test.YtoglgeinnocfjaaC18
import Derived.Test.YtoglgeinnocfjaaC20
import Derived.Test.YtoglgeinnocfjaaC21
import Derived.Test.YtoglgeinnocfjaaC22
namespace Go.Proofs.Ytoglgeinnocfjaa
open Go.RowKit
open Go.ChangeShapes Go.WideShapes Go.ChangeAt Go.Deep

theorem cp_parts {ls : List (List Itm)} {s : ByteArray} {n : Int} (h : cpB ls s n = true) : validC ls = true ∧ ∃ h0 : 0 < ls.length, cpL ls s n = ls.set 0 (putI ls[0] s n) ∧ validC (cpL ls s n) = true := by
  have h1 : validC ls = true := by
    unfold cpB at h
    rw [Bool.and_eq_true] at h
    exact h.1
  have h0 : 0 < ls.length := (validC_iff.1 h1).2.1
  have h2 := cp_of (s := s) (n := n) h1 h0
  have h3 : cpL ls s n = ls.set 0 (putI ls[0] s n) := by rw [← h2.2, h2.1, h]; rfl
  exact ⟨h1, h0, h3, by rw [h3, h2.1, h]⟩
theorem put_first {ls : List (List Itm)} {s : ByteArray} {n : Int} (h : cpB ls s n = true) : whC (cpL ls s n) s = 0 ∧ cgN (cpL ls s n) s = n ∧ cgB (cpL ls s n) s = true ∧ paL (cpL ls s n) = paL ls := by
  obtain ⟨h1, h0, h3, h4⟩ := cp_parts h
  have hh : hasI (putI ls[0] s n) s = true := by rw [hasI_putI]; simp
  obtain ⟨l, r, rfl⟩ : ∃ l r, ls = l :: r := by
    cases ls with
    | nil => simp at h0
    | cons l r => exact ⟨l, r, rfl⟩
  have e : cpL (l :: r) s n = putI l s n :: r := h3
  have hh' : hasI (putI l s n) s = true := hh
  have hw : whP (putI l s n :: r) s = 0 := by rw [whP_cons, if_pos hh']
  have hi : itP (putI l s n :: r) s = (s, n) := by rw [itP_cons, if_pos hh', cnt_putI_same]
  rw [e] at h4 ⊢
  refine ⟨by rw [whC_yes h4, hw], by rw [(cg_yes h4).1, hi], by rw [(cg_yes h4).2, hw]; rfl, ?_⟩
  by_cases hl : (l :: r).length = 1
  · rw [pa_one h1 hl, pa_one h4 (by simpa using hl)]
  · rw [pa_more h1 hl, pa_more h4 (by simpa using hl)]
    rfl

set_option maxHeartbeats 4000000 in
set_option maxRecDepth 100000 in
theorem FnChainPut_walk (v : Value) (bs : List Int) (w : World) (h : Bytes w v bs) :
    Calls Try.prog 11 #[v] w fun e w' => e = .returned (.bool true) ∧ Below w.heap.size w w' := by
  have h0 := h
  obtain ⟨ao, cap, rfl, hl, hc, hok, hcell⟩ := h0
  clear hcell hok
  go_enter Try.func11, Try.ntmps11
  by_cases hbig : (1048576 : Int) < (bs.length : Int)
  · go_wp2
    go_ret
    exact ⟨rfl, Below.refl _ _⟩
  go_wp2_with fail
  refine (DrawChainPut_any _ bs w h).mono ?_
  rintro e w1 ⟨vc, ls, s, n, rfl, hbnd, hm, hbl⟩
  have H1 := (Things.nil w).new (t := readMT w.heap.size w1.heap.size vc ls) (Nat.le_refl _) (Nat.le_refl _) hm hbl
  obtain ⟨cp, cc, rfl, hcc, hcm⟩ := (H1.mapsR 0 rfl).slice
  have H2 := H1.boxed 51 [.slice cp ls.length cc]
  clear hm hbl H1 h
  obtain ⟨G, hG⟩ : ∃ G, Hid (G = cpL ls s n) := ⟨_, Lib.hid rfl⟩
  obtain ⟨K, hK⟩ : ∃ K, Hid (K = cpB ls s n) := ⟨_, Lib.hid rfl⟩
  obtain ⟨-, -, hsz, hn1, hn2⟩ := hbnd
  have cI := Lib.hid (fun (v0 : Value) (w : World) (h0 : Maps w v0 ls) => (show Calls Try.prog 51 #[.agg #[v0], .string s, .int .i64 n] w (NewM (fun v => .tuple #[.agg #[v], .bool K]) G w) by rw [hG.out, hK.out]; exact ChainPut_any v0 ls s n w h0 hsz (by omega)))
  have cS := Lib.hid (fun (v0 : Value) (w : World) (h0 : Maps w v0 ls) => (show Calls Try.prog 52 #[.agg #[v0], .string s, .int .i64 n] w (NewM (fun v => .tuple #[.agg #[v], .bool K]) G w) by rw [hG.out, hK.out]; exact sChainPut_any v0 ls s n w h0 hsz (by omega)))
  have c0_ := H2.box1 0 rfl
  go_wp2_with fail
  refine (cI.out _ _ (H2.mapsR 1 rfl)).mono ?_
  rintro e w3 ⟨vo, rfl, ho, hbl⟩
  have H3 := H2.newM ho hbl
  obtain ⟨op, oc, rfl, hoc, hom⟩ := (H3.mapsO 0 rfl).slice
  clear c0_
  have H4 := H3.boxed 51 [.slice op G.length oc]
  clear H2 H3 ho hbl
  have c0_ := H4.box1 2 rfl
  go_wp2_with fail
  refine (cS.out _ _ (H4.mapsR 3 rfl)).mono ?_
  rintro e w5 ⟨vw, rfl, ho, hbl⟩
  have H5 := H4.newM ho hbl
  obtain ⟨wp, wc, rfl, hwc, hwm⟩ := (H5.mapsO 0 rfl).slice
  clear c0_
  have H6 := H5.boxed 51 [.slice wp G.length wc]
  clear H4 H5 ho hbl
  clear cI cS
  have o0_ := H6.box1 2 rfl
  have w0_ := H6.box1 0 rfl
  go_wp2_with fail
  refine (equalC_T H6 (H6.mapsO 3 rfl) (H6.mapsO 1 rfl)).mono ?_
  rintro e w7 ⟨rfl, H7⟩
  clear o0_ w0_
  clear H6
  cases K
  · skip
    have o0_ := H7.box1 2 rfl
    have w0_ := H7.box1 0 rfl
    go_wp2_with fail
    refine (equalC_T H7 (H7.mapsO 3 rfl) (H7.mapsO 1 rfl)).mono ?_
    rintro e w8 ⟨rfl, H8⟩
    clear o0_ w0_
    clear H7
    go_wp2
    go_ret
    exact ⟨rfl, H8.below⟩
  · obtain ⟨q1, q2, q3, q4⟩ := put_first hK.out.symm
    rw [← hG.out] at q1 q2 q3 q4
    obtain ⟨A, hA⟩ : ∃ A, Hid (A = paL ls) := ⟨_, Lib.hid rfl⟩
    rw [← hA.out] at q4
    have cG := Lib.hid (fun (v0 : Value) (w : World) (h0 : Maps w v0 G) => (show Calls Try.prog 54 #[.agg #[v0], .string s] w (RetQ (.tuple #[.int .i64 n, .bool true]) w) by have h1 := ChainGet_any v0 G s w h0; rw [q2, q3] at h1; exact h1))
    have cW := Lib.hid (fun (v0 : Value) (w : World) (h0 : Maps w v0 G) => (show Calls Try.prog 46 #[.agg #[v0], .string s] w (RetQ (.int .i64 0) w) by have h1 := WhereIs_any v0 G s w h0; rw [q1] at h1; exact h1))
    have c1 := Lib.hid (fun (v0 : Value) (w : World) (h0 : Maps w v0 G) => (show Calls Try.prog 55 #[.agg #[v0]] w (NewM (fun v => .agg #[v]) A w) by have h1 := ParentsOf_any v0 G w h0; rw [q4] at h1; exact h1))
    have c2 := Lib.hid (fun (v0 : Value) (w : World) (h0 : Maps w v0 ls) => (show Calls Try.prog 55 #[.agg #[v0]] w (NewM (fun v => .agg #[v]) A w) by have h1 := ParentsOf_any v0 ls w h0; rw [← hA.out] at h1; exact h1))
    clear hG hK hA q1 q2 q3 q4
    have o0_ := H7.box1 2 rfl
    go_wp2_with fail
    refine (cG.out _ _ (H7.mapsO 3 rfl)).mono ?_
    rintro e w8 ⟨rfl, hb⟩
    have H8 := H7.quiet hb
    clear o0_
    clear hb H7
    have D8 := H8.quiet (Below.refl _ _).drew
    go_wp2_with fail
    go_region_held3 (fun w' : World => w'.cell? ⟨w3.heap.size, 0, none⟩ = some (.slice op G.length oc) ∧ w'.cell? ⟨w1.heap.size, 0, none⟩ = some (.slice cp ls.length cc))
      (first | exact And.intro (H8.box1 2 rfl) (H8.box1 4 rfl) | assumption | exact hS9 | exact hS10 | exact hS11 | exact hS12)
      (first
        | (go_at_call 46; refine (cW.out _ _ (D8.mapsO 3 rfl)).mono ?_; rintro e w9 ⟨rfl, hb⟩; have H9 := D8.quiet hb; clear hb cW; have hS9 := And.intro (H9.box1 2 rfl) (H9.box1 4 rfl))
        | (go_at_call 55; refine (c1.out _ _ (H9.mapsO 3 rfl)).mono ?_; rintro e w10 ⟨va, rfl, ho, hbl⟩; have H10 := H9.newM ho hbl; clear ho hbl c1; have hS10 := And.intro (H10.box1 3 rfl) (H10.box1 5 rfl))
        | (go_at_call 55; refine (c2.out _ _ (H10.mapsR 6 rfl)).mono ?_; rintro e w11 ⟨vb, rfl, ho, hbl⟩; have H11 := H10.newM ho hbl; clear ho hbl c2; have hS11 := And.intro (H11.box1 4 rfl) (H11.box1 6 rfl))
        | (go_at_call 53; refine (equalC_T H11 (H11.mapsO 1 rfl) (H11.mapsO 0 rfl)).mono ?_; rintro e w12 ⟨rfl, H12⟩; have hS12 := And.intro (H12.box1 4 rfl) (H12.box1 6 rfl); clear H11))
    go_wp2
    go_ret
    exact ⟨rfl, H12.below⟩

set_option maxRecDepth 100000 in
theorem FnChainPut_lifted (os : Os) (started : os.Started) (H : Type) (enc : TypeId × Value → H) :
    ReturnsInHanded {} Try.checked os 11 .any (Rows.fnChainPutSpec.pre6 enc Try.prog Try.f11 Rows.fnChainPutRow.domain false) (Rows.fnChainPutSpec.post enc Try.prog Try.f11 false true false false) := by
  refine returnsInHanded_of_change (C := Try.checked) own started (by kernel_rfl) Try.func11
    (ChangeSpec.witness6 (enc := enc) (C := Try.checked) false ⟨#[], #[.slice none 0 0], []⟩ 8 (by kernel_rfl) (by kernel_rfl) (by kernel_rfl) (by kernel_rfl)) ?_
  intro W base args ds gs before hval0 hW _ _
  have hval : ∀ (j : Nat) t v, Try.f11.params[j]? = some t → args[j]? = some v → Value.okWide Try.prog W .any base t v := hval0
  have hW' := hW
  obtain ⟨p, q, hA0, hV, rfl, _, _⟩ := hW
  have hA : DataW.TrodAll enc Try.prog W 0 (fun _ => true) true Try.f11.params.toList args.toList ds p := hA0
  rw [Try.params11] at hA hval
  obtain ⟨v0, vs0, d0, ds0, p0, q0, hargs, rfl, rfl, h0, r0⟩ := trodAll_cons hA
  obtain ⟨rfl, rfl, rfl⟩ := trodAll_nil r0
  obtain rfl : args = #[v0] := by cases args; simp_all
  obtain ⟨rfl, rfl⟩ := trodVars_none hV
  obtain ⟨xs0, hI0⟩ := open_bytes (hval 0 _ v0 rfl rfl) h0
  refine (FnChainPut_walk v0 xs0 W hI0).mono fun e W' ⟨he, hb⟩ => ⟨_, he, ?_⟩
  exact law_end rfl (by rw [Try.params11]; decide +kernel) rfl hW' rfl rfl rfl hb

theorem FnChainPut_facts : joinedFacts Try.prog 11 Try.f11 Rows.fnChainPutSpec Rows.fnChainPutRow = true :=
  facts_of (by kernel_rfl) q2 q3 (by kernel_rfl) (by kernel_rfl) (by kernel_rfl) q7 (by kernel_rfl) q9 (by kernel_rfl) (by kernel_rfl) (by kernel_rfl) (by kernel_rfl) (by kernel_rfl) (by kernel_rfl) (by kernel_rfl) (by kernel_rfl) (by kernel_rfl) (by kernel_rfl) (by kernel_rfl) (by kernel_rfl) (by kernel_rfl)
    (by rw [q22]; kernel_rfl) (by kernel_rfl) q23 head_enter (by kernel_rfl) head_lifts head_make (by kernel_rfl) (by kernel_rfl) (by kernel_rfl) (by kernel_rfl) (by kernel_rfl)

theorem FnChainPut_holds : Rows.FnChainPutSaid :=
  OpenClaim.holds_of_wide 11 Try.f11 rfl rfl rfl rfl rfl rfl rfl ⟨rfl, rfl, rfl, rfl, rfl⟩ rfl rfl rfl rfl rfl (by kernel_rfl) Try.func11 FnChainPut_facts
    (of_decide_eq_true (by kernel_rfl)) (by unfold Func.isWrapper; first | (rw [if_pos (by decide +kernel)]; kernel_rfl) | (rw [if_neg (by decide +kernel)]; exact ⟨rfl, rfl⟩))
    (fun os started H enc _ => FnChainPut_lifted os started H enc)
end Go.Proofs.Ytoglgeinnocfjaa
