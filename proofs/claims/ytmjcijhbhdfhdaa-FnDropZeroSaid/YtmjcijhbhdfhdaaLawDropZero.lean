/-
  FnDropZero: true, for every code.
-/
import Derived.Test.YtmjcijhbhdfhdaaP4
import Derived.Test.YtmjcijhbhdfhdaaP5
import Derived.Test.YtmjcijhbhdfhdaaP7
import Derived.Test.YtmjcijhbhdfhdaaP11
import Derived.Test.YtmjcijhbhdfhdaaP16
import Derived.Test.YtmjcijhbhdfhdaaP24
namespace Go.Proofs.Ytmjcijhbhdfhdaa
open Go.RowKit
open Go.ChangeShapes Go.WideShapes Go.ChangeAt Go.Deep

theorem cnt_nz {l : List Itm} (h : uniqI l = true) (s : ByteArray) : cnt (nzI l) s = cnt l s := by
  have hu : uniqI (nzI l) = true := uniq_filter h
  cases hh : hasI (nzI l) s
  · rw [cnt_none hh]
    cases hl : hasI l s
    · rw [cnt_none hl]
    · obtain ⟨x, hx, rfl⟩ := hasI_mem.1 hl
      rw [cnt_at_mem h hx]
      by_cases hp : x.2 = 0
      · rw [hp]
      · have hm : x ∈ nzI l := List.mem_filter.2 ⟨hx, decide_eq_true hp⟩
        have := hasI_mem.2 ⟨x, hm, rfl⟩
        rw [this] at hh
        cases hh
  · obtain ⟨x, hx, rfl⟩ := hasI_mem.1 hh
    rw [cnt_at_mem hu hx, cnt_at_mem h (List.mem_filter.1 hx).1]
theorem nz_ne {l : List Itm} : ∀ x ∈ nzI l, x.2 ≠ 0 := fun x hx => by simpa using (List.mem_filter.1 hx).2
theorem dzr_of {l : List Itm} (h : validI l = true) : dzrL l = nzI l ∧ validI (nzI l) = true := by
  refine ⟨by unfold dzrL; rw [if_pos h, sumL_one h], valid_sub (uniq_filter (valid_uniq h)) h (fun s hs => ?_) (fun x hx => valid_num h x (List.mem_filter.1 hx).1)⟩
  obtain ⟨x, hx, e⟩ := hasI_mem.1 hs
  exact hasI_mem.2 ⟨x, (List.mem_filter.1 hx).1, e⟩
theorem sum_nz (l : List Itm) : sumI (nzI l) = sumI l := by
  induction l with
  | nil => rfl
  | cons x r ih =>
    unfold nzI at ih ⊢
    rw [List.filter_cons]
    split
    · simp only [sumI]; rw [ih]
    · rename_i h
      have : x.2 = 0 := by simpa using h
      rw [ih]
      simp only [sumI]
      omega
theorem drop_zero {a : List Itm} (h : validI a = true) : (∀ x ∈ dzrL a, x.2 ≠ 0) ∧ samB (dzrL a) a = true ∧ dzrL (dzrL a) = dzrL a ∧ totN (dzrL a) = totN a := by
  obtain ⟨e, v⟩ := dzr_of h
  rw [e]
  refine ⟨nz_ne, sam_of v h fun s => cnt_nz (valid_uniq h) s, ?_, by rw [tot_of v, tot_of h, sum_nz]⟩
  rw [(dzr_of v).1]
  exact List.filter_eq_self.2 fun x hx => by simpa using nz_ne x hx

set_option maxHeartbeats 3200000 in
set_option maxRecDepth 100000 in
theorem FnDropZero_walk (v : Value) (bs : List Int) (w : World) (h : Bytes w v bs) :
    Calls Try.prog 4 #[v] w fun e w' => e = .returned (.bool true) ∧ Below w.heap.size w w' := by
  have h0 := h
  obtain ⟨ao, cap, rfl, hl, hc, hok, hcell⟩ := h0
  clear hcell hok
  go_enter Try.func4, Try.ntmps4
  by_cases hbig : (1048576 : Int) < (bs.length : Int)
  · go_wp2
    go_ret
    exact ⟨rfl, Below.refl _ _⟩
  go_wp2_with fail
  refine (DrawDropZero_any _ bs w h).mono ?_
  rintro e w1 ⟨va, xs, rfl, hlen, hxa, hb1⟩
  have H1 := Things.nil w1
  obtain ⟨G, hG⟩ : ∃ G, Hid (G = dzrL xs) := ⟨_, Lib.hid rfl⟩
  have cI := Lib.hid (fun (v0 : Value) (w : World) (h0 : Items w v0 xs) => castI (DropZero_any v0 xs w h0) hG.out.symm)
  have cS := Lib.hid (fun (v0 : Value) (w : World) (h0 : Items w v0 xs) => castI (sDropZero_any v0 xs w h0) hG.out.symm)
  go_wp2_with fail
  refine (cI.out _ _ (H1.arg hxa)).mono ?_
  rintro e w2 ⟨vo, rfl, ho, hb⟩
  have H2 := H1.newI ho hb
  clear ho hb H1
  go_wp2_with fail
  refine (cS.out _ _ (H2.arg hxa)).mono ?_
  rintro e w3 ⟨vw, rfl, ho, hb⟩
  have H3 := H2.newI ho hb
  clear ho hb H2
  go_wp2_with fail
  refine (equalI_T H3 (H3.items 1 rfl) (H3.items 0 rfl)).mono ?_
  rintro e w4 ⟨rfl, H4⟩
  clear H3
  obtain ⟨V, hV⟩ : ∃ V, Hid (V = validI xs) := ⟨_, Lib.hid rfl⟩
  have cV := Lib.hid (fun (v0 : Value) (w : World) (h0 : Items w v0 xs) => castB (ValidItems_any v0 xs w h0) hV.out.symm)
  go_wp2_with fail
  refine (cV.out _ _ (H4.arg hxa)).mono ?_
  rintro e w5 ⟨rfl, hb⟩
  have H5 := H4.quiet hb
  clear hb H4
  cases V
  · skip
    go_wp2_with fail
    refine (cS.out _ _ (H5.arg hxa)).mono ?_
    rintro e w6 ⟨vs, rfl, ho, hb⟩
    have H6 := H5.newI ho hb
    clear ho hb H5
    go_wp2_with fail
    refine (equalI_T H6 (H6.items 2 rfl) (H6.items 0 rfl)).mono ?_
    rintro e w7 ⟨rfl, H7⟩
    clear H6
    go_wp2
    go_ret
    exact ⟨rfl, hb1.trans (H7.below.mono hb1.size)⟩
  · have hv := hV.out.symm
    have al := drop_zero hv
    obtain ⟨N, hN⟩ : ∃ N, Hid (N = totN xs) := ⟨_, Lib.hid rfl⟩
    have HI : Hid (∀ x ∈ G, x.2 ≠ 0) := fun x hx => al.1 x (by rw [← hG.out]; exact hx)
    have c1 := Lib.hid (fun (v0 v1 : Value) (w : World) (h0 : Items w v0 G) (h1 : Items w v1 xs) => castB (SameCounts_any v0 v1 G xs w h0 h1) (show samB G xs = true by rw [hG.out]; exact al.2.1))
    have c2 := Lib.hid (fun (v0 : Value) (w : World) (h0 : Items w v0 G) => castI (DropZero_any v0 G w h0) (show dzrL G = G by rw [hG.out]; exact al.2.2.1))
    have c3 := Lib.hid (fun (v0 : Value) (w : World) (h0 : Items w v0 G) => castN (TotalCount_any v0 G w h0) (show totN G = N by rw [hG.out, hN.out]; exact al.2.2.2))
    have c4 := Lib.hid (fun (v0 : Value) (w : World) (h0 : Items w v0 xs) => castN (TotalCount_any v0 xs w h0) (show totN xs = N from hN.out.symm))
    clear hv al hG hN hV cI cS cV
    obtain ⟨ao1, cap1, rfl, hlc1, hcm1, hok1, hcell1⟩ := H5.items 1 rfl
    go_wp2
    go_loopw [5] (fun i wr => ∃ k : Nat, i = .int .i64 k ∧ k ≤ G.length ∧ Below w5.heap.size w5 wr) (fun i _ => G.length - (intOf i).toNat)
    case atStart => exact ⟨0, rfl, Nat.zero_le _, Below.refl _ _⟩
    case round =>
      obtain ⟨k, rfl, hk, hbl⟩ := hrel
      by_cases hlt : k < G.length
      · skip
        obtain ⟨b1, o1, rfl, hbk1, k1, k2⟩ := hcell1 k hlt
        have c2_ := (hbl.cell (p := ⟨b1, _, none⟩) hbk1).trans k2
        have hz := HI.out _ (List.getElem_mem hlt)
        have hzb : (G[k].2 == 0) = false := by rw [beq_eq_false_iff_ne]; exact hz
        clear k1 k2 hz
        go_wp2
        go_roundw
        case rel => exact ⟨k + 1, by go_num, by omega, hbl⟩
        case measure => simp [intOf]; omega
      · obtain rfl : k = G.length := by omega
        have H6 := H5.quiet hbl
        clear H5
        go_wp2_with fail
        refine (c1.out _ _ _ (H6.items 1 rfl) (H6.arg hxa)).mono ?_
        rintro e w7 ⟨rfl, hb⟩
        have H7 := H6.quiet hb
        clear hb H6
        go_wp2_with fail
        refine (c2.out _ _ (H7.items 1 rfl)).mono ?_
        rintro e w8 ⟨v2, rfl, ho, hb⟩
        have H8 := H7.newI ho hb
        clear ho hb H7
        go_wp2_with fail
        refine (equalI_T H8 (H8.items 0 rfl) (H8.items 2 rfl)).mono ?_
        rintro e w9 ⟨rfl, H9⟩
        clear H8
        go_wp2_with fail
        refine (c3.out _ _ (H9.items 2 rfl)).mono ?_
        rintro e w10 ⟨rfl, hb⟩
        have H10 := H9.quiet hb
        clear hb H9
        go_wp2_with fail
        refine (c4.out _ _ (H10.arg hxa)).mono ?_
        rintro e w11 ⟨rfl, hb⟩
        have H11 := H10.quiet hb
        clear hb H10
        go_wp2
        go_ret
        exact ⟨rfl, hb1.trans (H11.below.mono hb1.size)⟩

set_option maxRecDepth 100000 in
theorem FnDropZero_lifted (os : Os) (started : os.Started) (H : Type) (enc : TypeId × Value → H) :
    ReturnsInHanded {} Try.checked os 4 .any (Rows.fnDropZeroSpec.pre6 enc Try.prog Try.f4 Rows.fnDropZeroRow.domain false) (Rows.fnDropZeroSpec.post enc Try.prog Try.f4 false true false false) := by
  refine returnsInHanded_of_change (C := Try.checked) own started (by kernel_rfl) Try.func4
    (ChangeSpec.witness6 (enc := enc) (C := Try.checked) false ⟨#[], #[.slice none 0 0], []⟩ 8 (by kernel_rfl) (by kernel_rfl) (by kernel_rfl) (by kernel_rfl)) ?_
  intro W base args ds gs before hval0 hW _ _
  have hval : ∀ (j : Nat) t v, Try.f4.params[j]? = some t → args[j]? = some v → Value.okWide Try.prog W .any base t v := hval0
  have hW' := hW
  obtain ⟨p, q, hA0, hV, rfl, _, _⟩ := hW
  have hA : DataW.TrodAll enc Try.prog W 0 (fun _ => true) true Try.f4.params.toList args.toList ds p := hA0
  rw [Try.params4] at hA hval
  obtain ⟨v0, vs0, d0, ds0, p0, q0, hargs, rfl, rfl, h0, r0⟩ := trodAll_cons hA
  obtain ⟨rfl, rfl, rfl⟩ := trodAll_nil r0
  obtain rfl : args = #[v0] := by cases args; simp_all
  obtain ⟨rfl, rfl⟩ := trodVars_none hV
  obtain ⟨xs0, hI0⟩ := open_bytes (hval 0 _ v0 rfl rfl) h0
  refine (FnDropZero_walk v0 xs0 W hI0).mono fun e W' ⟨he, hb⟩ => ⟨_, he, ?_⟩
  exact law_end rfl (by rw [Try.params4]; decide +kernel) rfl hW' rfl rfl rfl hb

theorem FnDropZero_facts : joinedFacts Try.prog 4 Try.f4 Rows.fnDropZeroSpec Rows.fnDropZeroRow = true :=
  facts_of (by kernel_rfl) q2 q3 (by kernel_rfl) (by kernel_rfl) (by kernel_rfl) q7 (by kernel_rfl) q9 (by kernel_rfl) (by kernel_rfl) (by kernel_rfl) (by kernel_rfl) (by kernel_rfl) (by kernel_rfl) (by kernel_rfl) (by kernel_rfl) (by kernel_rfl) (by kernel_rfl) (by kernel_rfl) (by kernel_rfl) (by kernel_rfl)
    (by rw [q22]; kernel_rfl) (by kernel_rfl) q23 head_enter (by kernel_rfl) head_lifts head_make (by kernel_rfl) (by kernel_rfl) (by kernel_rfl) (by kernel_rfl) (by kernel_rfl)

theorem FnDropZero_holds : Rows.FnDropZeroSaid :=
  OpenClaim.holds_of_wide 4 Try.f4 rfl rfl rfl rfl rfl rfl rfl ⟨rfl, rfl, rfl, rfl, rfl⟩ rfl rfl rfl rfl rfl (by kernel_rfl) Try.func4 FnDropZero_facts
    (of_decide_eq_true (by kernel_rfl)) (by unfold Func.isWrapper; first | (rw [if_pos (by decide +kernel)]; kernel_rfl) | (rw [if_neg (by decide +kernel)]; exact ⟨rfl, rfl⟩))
    (fun os started H enc _ => FnDropZero_lifted os started H enc)
end Go.Proofs.Ytmjcijhbhdfhdaa
