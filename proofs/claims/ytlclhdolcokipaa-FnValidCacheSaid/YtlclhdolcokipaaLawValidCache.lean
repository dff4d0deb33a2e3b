/-
  FnValidCache: true, for every code.
-/
import Derived.Test.YtlclhdolcokipaaD11
import Derived.Test.YtlclhdolcokipaaD15
import Derived.Test.YtlclhdolcokipaaD16
namespace Go.Proofs.Ytlclhdolcokipaa
open Go.RowKit
open Go.ChangeShapes Go.WideShapes Go.ChangeAt Go.Deep

theorem vc_empty {xs : List Itm} {m g s : Int} (h : vcB xs m g s = true) : vcB [] m g s = true ∧ (xs.length : Int) ≤ m := by
  unfold vcB at h ⊢
  simp only [Bool.and_eq_true, decide_eq_true_eq] at h
  obtain ⟨⟨⟨⟨h1, h2⟩, h3⟩, h4⟩, h5⟩ := h
  refine ⟨?_, h3⟩
  rw [h2, h4, h5, show validI [] = true from rfl, decide_eq_true (by simp; omega)]
  rfl

set_option maxHeartbeats 4000000 in
set_option maxRecDepth 100000 in
theorem FnValidCache_walk (v : Value) (bs : List Int) (w : World) (h : Bytes w v bs) :
    Calls Try.prog 3 #[v] w fun e w' => e = .returned (.bool true) ∧ Below w.heap.size w w' := by
  have h0 := h
  obtain ⟨ao, cap, rfl, hl, hc, hok, hcell⟩ := h0
  clear hcell hok
  go_enter Try.func3, Try.ntmps3
  by_cases hbig : (1048576 : Int) < (bs.length : Int)
  · go_wp2
    go_ret
    exact ⟨rfl, Below.refl _ _⟩
  go_wp2_with fail
  refine (DrawValidCache_any _ bs w h).mono ?_
  rintro e w1 ⟨vc, xs, m, g, s, rfl, hbd, hit, hik, hbl⟩
  have H1 := (Things.nil w).new (t := readT w.heap.size w1.heap.size vc xs) (Nat.le_refl _) (Nat.le_refl _) ⟨hit, hik⟩ hbl
  obtain ⟨cp, cc, rfl, hcc, hcm⟩ := Items.shape0 (H1.ritems 0 rfl)
  have H2 := H1.boxed 25 [.slice cp xs.length cc, .int .i64 m, .int .i64 g, .int .i64 s]
  clear hit hik hbl H1 h
  obtain ⟨V, hV⟩ : ∃ V, Hid (V = vcB xs m g s) := ⟨_, Lib.hid rfl⟩
  have cI := Lib.hid (fun (v0 : Value) (w : World) (h0 : Items w v0 xs) => (show Calls Try.prog 15 #[.agg #[v0, .int .i64 m, .int .i64 g, .int .i64 s]] w (RetQ (.bool V) w) by exact VC_v w h0 hV.out.symm))
  have cS := Lib.hid (fun (v0 : Value) (w : World) (h0 : Items w v0 xs) => (show Calls Try.prog 16 #[.agg #[v0, .int .i64 m, .int .i64 g, .int .i64 s]] w (RetQ (.bool V) w) by exact sVC_v w h0 hV.out.symm))
  obtain ⟨c0_, c1_, c2_, c3_⟩ := H2.box4 0 rfl
  go_wp2_with fail
  refine (cI.out _ _ (H2.ritems 1 rfl)).mono ?_
  rintro e w3 ⟨rfl, hb⟩
  have H3 := H2.quiet hb
  clear c0_ c1_ c2_ c3_
  clear hb H2
  obtain ⟨c0_, c1_, c2_, c3_⟩ := H3.box4 0 rfl
  go_wp2_with fail
  refine (cS.out _ _ (H3.ritems 1 rfl)).mono ?_
  rintro e w4 ⟨rfl, hb⟩
  have H4 := H3.quiet hb
  clear c0_ c1_ c2_ c3_
  clear hb H3
  cases V
  · skip
    obtain ⟨c0_, c1_, c2_, c3_⟩ := H4.box4 0 rfl
    go_wp2_with fail
    refine (cS.out _ _ (H4.ritems 1 rfl)).mono ?_
    rintro e w5 ⟨rfl, hb⟩
    have H5 := H4.quiet hb
    clear c0_ c1_ c2_ c3_
    clear hb H4
    go_wp2
    go_ret
    exact ⟨rfl, H5.below⟩
  · obtain ⟨hv0, hlm⟩ := vc_empty hV.out.symm
    have cE := Lib.hid (fun (w : World) => (show Calls Try.prog 15 #[.agg #[.slice none 0 0, .int .i64 m, .int .i64 g, .int .i64 s]] w (RetQ (.bool true) w) by exact VC_v w Items_nil hv0))
    clear hV hv0 cI cS
    obtain ⟨c0_, c1_, c2_, c3_⟩ := H4.box4 0 rfl
    go_wp2_with fail
    refine (cE.out  _ ).mono ?_
    rintro e w5 ⟨rfl, hb⟩
    have H5 := H4.quiet hb
    clear c0_ c1_ c2_ c3_
    clear hb H4
    obtain ⟨c0_, c1_, c2_, c3_⟩ := H5.box4 0 rfl
    go_wp2
    go_ret
    exact ⟨rfl, H5.below⟩

set_option maxRecDepth 100000 in
theorem FnValidCache_lifted (os : Os) (started : os.Started) (H : Type) (enc : TypeId × Value → H) :
    ReturnsInHanded {} Try.checked os 3 .any (Rows.fnValidCacheSpec.pre6 enc Try.prog Try.f3 Rows.fnValidCacheRow.domain false) (Rows.fnValidCacheSpec.post enc Try.prog Try.f3 false true false false) := by
  refine returnsInHanded_of_change (C := Try.checked) own started (by kernel_rfl) Try.func3
    (ChangeSpec.witness6 (enc := enc) (C := Try.checked) false ⟨#[], #[.slice none 0 0], []⟩ 8 (by kernel_rfl) (by kernel_rfl) (by kernel_rfl) (by kernel_rfl)) ?_
  intro W base args ds gs before hval0 hW _ _
  have hval : ∀ (j : Nat) t v, Try.f3.params[j]? = some t → args[j]? = some v → Value.okWide Try.prog W .any base t v := hval0
  have hW' := hW
  obtain ⟨p, q, hA0, hV, rfl, _, _⟩ := hW
  have hA : DataW.TrodAll enc Try.prog W 0 (fun _ => true) true Try.f3.params.toList args.toList ds p := hA0
  rw [Try.params3] at hA hval
  obtain ⟨v0, vs0, d0, ds0, p0, q0, hargs, rfl, rfl, h0, r0⟩ := trodAll_cons hA
  obtain ⟨rfl, rfl, rfl⟩ := trodAll_nil r0
  obtain rfl : args = #[v0] := by cases args; simp_all
  obtain ⟨rfl, rfl⟩ := trodVars_none hV
  obtain ⟨xs0, hI0⟩ := open_bytes (hval 0 _ v0 rfl rfl) h0
  refine (FnValidCache_walk v0 xs0 W hI0).mono fun e W' ⟨he, hb⟩ => ⟨_, he, ?_⟩
  exact law_end rfl (by rw [Try.params3]; decide +kernel) rfl hW' rfl rfl rfl hb

theorem FnValidCache_facts : joinedFacts Try.prog 3 Try.f3 Rows.fnValidCacheSpec Rows.fnValidCacheRow = true :=
  facts_of (by kernel_rfl) q2 q3 (by kernel_rfl) (by kernel_rfl) (by kernel_rfl) q7 (by kernel_rfl) q9 (by kernel_rfl) (by kernel_rfl) (by kernel_rfl) (by kernel_rfl) (by kernel_rfl) (by kernel_rfl) (by kernel_rfl) (by kernel_rfl) (by kernel_rfl) (by kernel_rfl) (by kernel_rfl) (by kernel_rfl) (by kernel_rfl)
    (by rw [q22]; kernel_rfl) (by kernel_rfl) q23 head_enter (by kernel_rfl) head_lifts head_make (by kernel_rfl) (by kernel_rfl) (by kernel_rfl) (by kernel_rfl) (by kernel_rfl)

theorem FnValidCache_holds : Rows.FnValidCacheSaid :=
  OpenClaim.holds_of_wide 3 Try.f3 rfl rfl rfl rfl rfl rfl rfl ⟨rfl, rfl, rfl, rfl, rfl⟩ rfl rfl rfl rfl rfl (by kernel_rfl) Try.func3 FnValidCache_facts
    (of_decide_eq_true (by kernel_rfl)) (by unfold Func.isWrapper; first | (rw [if_pos (by decide +kernel)]; kernel_rfl) | (rw [if_neg (by decide +kernel)]; exact ⟨rfl, rfl⟩))
    (fun os started H enc _ => FnValidCache_lifted os started H enc)
end Go.Proofs.Ytlclhdolcokipaa
