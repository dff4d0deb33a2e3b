/-
  FnSameCounts: true, for every code.
-/
import Derived.Test.YtmjcijhbhdfhdaaP4
import Derived.Test.YtmjcijhbhdfhdaaP5
import Derived.Test.YtmjcijhbhdfhdaaP7
import Derived.Test.YtmjcijhbhdfhdaaP11
import Derived.Test.YtmjcijhbhdfhdaaP16
import Derived.Test.YtmjcijhbhdfhdaaP23
namespace Go.Proofs.Ytmjcijhbhdfhdaa
open Go.RowKit
open Go.ChangeShapes Go.WideShapes Go.ChangeAt Go.Deep

theorem cnt_nz {l : List Itm} (h : uniqI l = true) (s : ByteArray) : cnt (nzI l) s = cnt l s := by
  have hu : uniqI (nzI l) = true := uniq_filter h
  cases hh : hasI (nzI l) s
  · rw [cnt_none hh]
    cases hl : hasI l s
    · rw [cnt_none hl]
    · obtain ⟨x, hx, rfl⟩ := hasI_mem.1 hl
      rw [cnt_at_mem h hx]
      by_cases hp : x.2 = 0
      · rw [hp]
      · have hm : x ∈ nzI l := List.mem_filter.2 ⟨hx, decide_eq_true hp⟩
        have := hasI_mem.2 ⟨x, hm, rfl⟩
        rw [this] at hh
        cases hh
  · obtain ⟨x, hx, rfl⟩ := hasI_mem.1 hh
    rw [cnt_at_mem hu hx, cnt_at_mem h (List.mem_filter.1 hx).1]
theorem nz_ne {l : List Itm} : ∀ x ∈ nzI l, x.2 ≠ 0 := fun x hx => by simpa using (List.mem_filter.1 hx).2
theorem dzr_of {l : List Itm} (h : validI l = true) : dzrL l = nzI l ∧ validI (nzI l) = true := by
  refine ⟨by unfold dzrL; rw [if_pos h, sumL_one h], valid_sub (uniq_filter (valid_uniq h)) h (fun s hs => ?_) (fun x hx => valid_num h x (List.mem_filter.1 hx).1)⟩
  obtain ⟨x, hx, e⟩ := hasI_mem.1 hs
  exact hasI_mem.2 ⟨x, (List.mem_filter.1 hx).1, e⟩
theorem dzr_same {a b : List Itm} (ha : validI a = true) (hb : validI b = true) : smB (dzrL a) (dzrL b) = samB a b := by
  obtain ⟨e1, v1⟩ := dzr_of ha
  obtain ⟨e2, v2⟩ := dzr_of hb
  rw [e1, e2, Bool.eq_iff_iff, sm_perm v1 v2, sam_iff ha hb]
  constructor
  · intro h s
    rw [← cnt_nz (valid_uniq ha), ← cnt_nz (valid_uniq hb)]
    exact cnt_perm (valid_uniq v1) (valid_uniq v2) h s
  · intro h
    exact perm_of_cnt (valid_uniq v1) (valid_uniq v2) nz_ne nz_ne fun s => by rw [cnt_nz (valid_uniq ha), cnt_nz (valid_uniq hb), h]
theorem sam_comm {a b : List Itm} (ha : validI a = true) (hb : validI b = true) : samB b a = samB a b := by
  rw [Bool.eq_iff_iff, sam_iff ha hb, sam_iff hb ha]
  exact ⟨fun h s => (h s).symm, fun h s => (h s).symm⟩

set_option maxHeartbeats 3200000 in
set_option maxRecDepth 100000 in
theorem FnSameCounts_walk (v : Value) (bs : List Int) (w : World) (h : Bytes w v bs) :
    Calls Try.prog 7 #[v] w fun e w' => e = .returned (.bool true) ∧ Below w.heap.size w w' := by
  have h0 := h
  obtain ⟨ao, cap, rfl, hl, hc, hok, hcell⟩ := h0
  clear hcell hok
  go_enter Try.func7, Try.ntmps7
  by_cases hbig : (1048576 : Int) < (bs.length : Int)
  · go_wp2
    go_ret
    exact ⟨rfl, Below.refl _ _⟩
  go_wp2_with fail
  refine (DrawSameCounts_any _ bs w h).mono ?_
  rintro e w1 ⟨va, xs, vb, ys, rfl, hlen, hxa, hxb, hb1⟩
  have H1 := Things.nil w1
  obtain ⟨G, hG⟩ : ∃ G, Hid (G = samB xs ys) := ⟨_, Lib.hid rfl⟩
  have cI := Lib.hid (fun (v0 v1 : Value) (w : World) (h0 : Items w v0 xs) (h1 : Items w v1 ys) => castB (SameCounts_any v0 v1 xs ys w h0 h1) hG.out.symm)
  have cS := Lib.hid (fun (v0 v1 : Value) (w : World) (h0 : Items w v0 xs) (h1 : Items w v1 ys) => castB (sSameCounts_any v0 v1 xs ys w h0 h1) hG.out.symm)
  go_wp2_with fail
  refine (cI.out _ _ _ (H1.arg hxa) (H1.arg hxb)).mono ?_
  rintro e w2 ⟨rfl, hb⟩
  have H2 := H1.quiet hb
  clear hb H1
  go_wp2_with fail
  refine (cS.out _ _ _ (H2.arg hxa) (H2.arg hxb)).mono ?_
  rintro e w3 ⟨rfl, hb⟩
  have H3 := H2.quiet hb
  clear hb H2
  obtain ⟨V, hV⟩ : ∃ V, Hid (V = validI xs) := ⟨_, Lib.hid rfl⟩
  obtain ⟨U, hU⟩ : ∃ U, Hid (U = validI ys) := ⟨_, Lib.hid rfl⟩
  have cV := Lib.hid (fun (v0 : Value) (w : World) (h0 : Items w v0 xs) => castB (ValidItems_any v0 xs w h0) hV.out.symm)
  have cU := Lib.hid (fun (v0 : Value) (w : World) (h0 : Items w v0 ys) => castB (ValidItems_any v0 ys w h0) hU.out.symm)
  go_wp2_with fail
  refine (cV.out _ _ (H3.arg hxa)).mono ?_
  rintro e w4 ⟨rfl, hb⟩
  have H4 := H3.quiet hb
  clear hb H3
  cases V
  · skip
    go_wp2_with fail
    refine (cS.out _ _ _ (H4.arg hxa) (H4.arg hxb)).mono ?_
    rintro e w5 ⟨rfl, hb⟩
    have H5 := H4.quiet hb
    clear hb H4
    go_wp2
    go_ret
    exact ⟨rfl, hb1.trans (H5.below.mono hb1.size)⟩
  · have hv := hV.out.symm
    go_wp2_with fail
    refine (cU.out _ _ (H4.arg hxb)).mono ?_
    rintro e w5 ⟨rfl, hb⟩
    have H5 := H4.quiet hb
    clear hb H4
    cases U
    · skip
      go_wp2_with fail
      refine (cS.out _ _ _ (H5.arg hxa) (H5.arg hxb)).mono ?_
      rintro e w6 ⟨rfl, hb⟩
      have H6 := H5.quiet hb
      clear hb H5
      go_wp2
      go_ret
      exact ⟨rfl, hb1.trans (H6.below.mono hb1.size)⟩
    · have hu := hU.out.symm
      obtain ⟨A, hA⟩ : ∃ A, Hid (A = dzrL xs) := ⟨_, Lib.hid rfl⟩
      obtain ⟨B, hB⟩ : ∃ B, Hid (B = dzrL ys) := ⟨_, Lib.hid rfl⟩
      have c1 := Lib.hid (fun (v0 : Value) (w : World) (h0 : Items w v0 xs) => castI (DropZero_any v0 xs w h0) hA.out.symm)
      have c2 := Lib.hid (fun (v0 : Value) (w : World) (h0 : Items w v0 ys) => castI (DropZero_any v0 ys w h0) hB.out.symm)
      have c3 := Lib.hid (fun (v0 v1 : Value) (w : World) (h0 : Items w v0 A) (h1 : Items w v1 B) => castB (SameItems_any v0 v1 A B w h0 h1) (show smB A B = G by rw [hA.out, hB.out, hG.out]; exact dzr_same hv hu))
      have c4 := Lib.hid (fun (v0 v1 : Value) (w : World) (h0 : Items w v0 ys) (h1 : Items w v1 xs) => castB (SameCounts_any v0 v1 ys xs w h0 h1) (show samB ys xs = G by rw [hG.out]; exact sam_comm hv hu))
      clear hv hu hG hA hB hV hU cI cS cV cU
      go_wp2_with fail
      refine (c1.out _ _ (H5.arg hxa)).mono ?_
      rintro e w6 ⟨v1, rfl, ho, hb⟩
      have H6 := H5.newI ho hb
      clear ho hb H5
      go_wp2_with fail
      refine (c2.out _ _ (H6.arg hxb)).mono ?_
      rintro e w7 ⟨v2, rfl, ho, hb⟩
      have H7 := H6.newI ho hb
      clear ho hb H6
      go_wp2_with fail
      refine (c3.out _ _ _ (H7.items 1 rfl) (H7.items 0 rfl)).mono ?_
      rintro e w8 ⟨rfl, hb⟩
      have H8 := H7.quiet hb
      clear hb H7
      go_wp2_with fail
      refine (c4.out _ _ _ (H8.arg hxb) (H8.arg hxa)).mono ?_
      rintro e w9 ⟨rfl, hb⟩
      have H9 := H8.quiet hb
      clear hb H8
      go_wp2
      go_ret
      exact ⟨rfl, hb1.trans (H9.below.mono hb1.size)⟩

set_option maxRecDepth 100000 in
theorem FnSameCounts_lifted (os : Os) (started : os.Started) (H : Type) (enc : TypeId × Value → H) :
    ReturnsInHanded {} Try.checked os 7 .any (Rows.fnSameCountsSpec.pre6 enc Try.prog Try.f7 Rows.fnSameCountsRow.domain false) (Rows.fnSameCountsSpec.post enc Try.prog Try.f7 false true false false) := by
  refine returnsInHanded_of_change (C := Try.checked) own started (by kernel_rfl) Try.func7
    (ChangeSpec.witness6 (enc := enc) (C := Try.checked) false ⟨#[], #[.slice none 0 0], []⟩ 8 (by kernel_rfl) (by kernel_rfl) (by kernel_rfl) (by kernel_rfl)) ?_
  intro W base args ds gs before hval0 hW _ _
  have hval : ∀ (j : Nat) t v, Try.f7.params[j]? = some t → args[j]? = some v → Value.okWide Try.prog W .any base t v := hval0
  have hW' := hW
  obtain ⟨p, q, hA0, hV, rfl, _, _⟩ := hW
  have hA : DataW.TrodAll enc Try.prog W 0 (fun _ => true) true Try.f7.params.toList args.toList ds p := hA0
  rw [Try.params7] at hA hval
  obtain ⟨v0, vs0, d0, ds0, p0, q0, hargs, rfl, rfl, h0, r0⟩ := trodAll_cons hA
  obtain ⟨rfl, rfl, rfl⟩ := trodAll_nil r0
  obtain rfl : args = #[v0] := by cases args; simp_all
  obtain ⟨rfl, rfl⟩ := trodVars_none hV
  obtain ⟨xs0, hI0⟩ := open_bytes (hval 0 _ v0 rfl rfl) h0
  refine (FnSameCounts_walk v0 xs0 W hI0).mono fun e W' ⟨he, hb⟩ => ⟨_, he, ?_⟩
  exact law_end rfl (by rw [Try.params7]; decide +kernel) rfl hW' rfl rfl rfl hb

theorem FnSameCounts_facts : joinedFacts Try.prog 7 Try.f7 Rows.fnSameCountsSpec Rows.fnSameCountsRow = true :=
  facts_of (by kernel_rfl) q2 q3 (by kernel_rfl) (by kernel_rfl) (by kernel_rfl) q7 (by kernel_rfl) q9 (by kernel_rfl) (by kernel_rfl) (by kernel_rfl) (by kernel_rfl) (by kernel_rfl) (by kernel_rfl) (by kernel_rfl) (by kernel_rfl) (by kernel_rfl) (by kernel_rfl) (by kernel_rfl) (by kernel_rfl) (by kernel_rfl)
    (by rw [q22]; kernel_rfl) (by kernel_rfl) q23 head_enter (by kernel_rfl) head_lifts head_make (by kernel_rfl) (by kernel_rfl) (by kernel_rfl) (by kernel_rfl) (by kernel_rfl)

theorem FnSameCounts_holds : Rows.FnSameCountsSaid :=
  OpenClaim.holds_of_wide 7 Try.f7 rfl rfl rfl rfl rfl rfl rfl ⟨rfl, rfl, rfl, rfl, rfl⟩ rfl rfl rfl rfl rfl (by kernel_rfl) Try.func7 FnSameCounts_facts
    (of_decide_eq_true (by kernel_rfl)) (by unfold Func.isWrapper; first | (rw [if_pos (by decide +kernel)]; kernel_rfl) | (rw [if_neg (by decide +kernel)]; exact ⟨rfl, rfl⟩))
    (fun os started H enc _ => FnSameCounts_lifted os started H enc)
end Go.Proofs.Ytmjcijhbhdfhdaa
