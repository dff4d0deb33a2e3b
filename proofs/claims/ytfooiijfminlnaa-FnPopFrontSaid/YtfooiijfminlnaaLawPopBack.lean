/-
  FnPopBack: true, for every code.
-/
import Derived.Test.YtfooiijfminlnaaLawGetAt
import Derived.Test.YtfooiijfminlnaaDqPo
import Derived.Test.YtfooiijfminlnaaDqP
namespace Go.Proofs.Ytfooiijfminlnaa
open Go.RowKit
open Go.ChangeShapes Go.WideShapes Go.ChangeAt Go.Deep

theorem popB_parts {xs : List Int} {m : Int} (h : poB xs m = true) : validD xs m = true ∧ 0 < xs.length := by
  unfold poB at h
  rw [Bool.and_eq_true, decide_eq_true_eq] at h
  exact h
theorem pb_back {xs : List Int} (h : 0 < xs.length) : pbL xs ++ [pbX xs] = xs := by
  unfold pbL pbX
  have hlt : xs.length - 1 < xs.length := by omega
  rw [List.getD_eq_getElem?_getD, List.getElem?_eq_getElem hlt, Option.getD_some, ← List.take_succ_eq_append_getElem hlt, show xs.length - 1 + 1 = xs.length by omega, List.take_length]
theorem validD_take {xs : List Int} {m : Int} (h : validD xs m = true) (k : Nat) : validD (xs.take k) m = true := by
  have h1 := validD_iff.1 h
  have hl : (xs.take k).length ≤ xs.length := by rw [List.length_take]; omega
  exact validD_iff.2 ⟨allN_iff.2 fun x hx => allN_iff.1 h1.1 x (List.mem_of_mem_take hx), h1.2.1, by omega, h1.2.2.2.imp id (by omega)⟩
theorem validD_drop {xs : List Int} {m : Int} (h : validD xs m = true) (k : Nat) : validD (xs.drop k) m = true := by
  have h1 := validD_iff.1 h
  have hl : (xs.drop k).length ≤ xs.length := by rw [List.length_drop]; omega
  exact validD_iff.2 ⟨allN_iff.2 fun x hx => allN_iff.1 h1.1 x (List.mem_of_mem_drop hx), h1.2.1, by omega, h1.2.2.2.imp id (by omega)⟩
theorem areN_one {xs : List Int} (h : allN xs = true) {x : Int} (hx : x ∈ xs) : areN [x] = true := by
  rw [areN_iff]
  exact ⟨by simp, allN_iff.2 fun y hy => by rw [List.mem_singleton.1 hy]; exact allN_iff.1 h x hx⟩
theorem fitB_valid {xs : List Int} {m : Int} (h : validD xs m = true) : fitB xs m = xs := by
  have h1 := validD_iff.1 h
  unfold fitB
  rw [if_neg (by omega)]
theorem pb_mem {xs : List Int} (h : 0 < xs.length) : pbX xs ∈ xs := by
  unfold pbX
  have hlt : xs.length - 1 < xs.length := by omega
  rw [List.getD_eq_getElem?_getD, List.getElem?_eq_getElem hlt, Option.getD_some]
  exact List.getElem_mem hlt
theorem pb_push {xs : List Int} {m : Int} (h : poB xs m = true) : extL (pbL xs) [pbX xs] m = xs ∧ extB (pbL xs) [pbX xs] m = true := by
  obtain ⟨hv, hl⟩ := popB_parts h
  have e : extL (pbL xs) [pbX xs] m = xs := by
    unfold extL
    rw [pb_back hl, fitB_valid hv]
  refine ⟨e, ?_⟩
  unfold extB
  rw [e, hv, show validD (pbL xs) m = true from validD_take hv _, areN_one (validD_all hv) (pb_mem hl)]
  rfl
theorem pb_last {xs : List Int} {m : Int} (h : poB xs m = true) : getV xs (inD xs m (-1)) = pbX xs ∧ getOk (inD xs m (-1)) = true := by
  obtain ⟨hv, hl⟩ := popB_parts h
  have e : inD xs m (-1) = ((xs.length - 1 : Nat) : Int) := by rw [in_back hv (by omega) (by omega)]; omega
  rw [e]
  refine ⟨?_, getOk_yes (by omega)⟩
  unfold getV pbX
  rw [if_pos (by omega)]
  rfl

set_option maxHeartbeats 1600000 in
set_option maxRecDepth 100000 in
theorem FnPopBack_walk (v : Value) (bs : List Int) (w : World) (h : Bytes w v bs) :
    Calls Try.prog 5 #[v] w fun e w' => e = .returned (.bool true) ∧ Below w.heap.size w w' := by
  have h0 := h
  obtain ⟨ao, cap, rfl, hl, hc, hok, hcell⟩ := h0
  clear hcell hok
  go_enter Try.func5, Try.ntmps5
  by_cases hbig : (1048576 : Int) < (bs.length : Int)
  · go_wp2
    go_ret
    exact ⟨rfl, Below.refl _ _⟩
  go_wp2_with fail
  refine (DrawPopBack_any _ bs w h).mono ?_
  rintro e w1 ⟨vd, xs, m, rfl, ho, hb, hbl⟩
  have H1 := (Things.nil w).new (t := numT w.heap.size w1.heap.size vd xs) (Nat.le_refl _) (Nat.le_refl _) ho hbl
  obtain ⟨dp, dc, rfl, hdc, hdm⟩ := (H1.nums 0 rfl).slice
  have HB1 := H1.boxed 25 [.slice dp xs.length dc, .int .i64 m]
  obtain ⟨d0, d1⟩ := HB1.box2 0 rfl
  obtain ⟨G, hG⟩ : ∃ G, Hid (G = ifN (poB xs m) (pbL xs)) := ⟨_, rfl⟩
  obtain ⟨g, hg⟩ : ∃ g, Hid (g = ifI (poB xs m) m) := ⟨_, rfl⟩
  obtain ⟨x, hx⟩ : ∃ x, Hid (x = ifI (poB xs m) (pbX xs)) := ⟨_, rfl⟩
  obtain ⟨B, hB⟩ : ∃ B, Hid (B = poB xs m) := ⟨_, rfl⟩
  have cI := Lib.hid (fun (v : Value) (w : World) (h : Nums w v xs) => (show Calls Try.prog 24 #[.agg #[v, .int .i64 m]] w (NewP G g x B w) by rw [hG.out, hg.out, hx.out, hB.out]; exact PopBack_any v xs m w h))
  have cS := Lib.hid (fun (v : Value) (w : World) (h : Nums w v xs) => (show Calls Try.prog 25 #[.agg #[v, .int .i64 m]] w (NewP G g x B w) by rw [hG.out, hg.out, hx.out, hB.out]; exact sPopBack_any v xs m w h))
  clear ho hbl H1 h
  go_wp2_with fail
  refine (cI.out _ _ (HB1.nums 1 rfl)).mono ?_
  rintro e w2 ⟨vo, rfl, ho, hbl⟩
  have H2 := HB1.newN ho hbl
  obtain ⟨op, oc, rfl, _, _⟩ := (H2.nums 0 rfl).slice
  have HB2 := H2.boxed 25 [.slice op G.length oc, .int .i64 g]
  clear HB1 H2 ho hbl d0 d1
  obtain ⟨d0, d1⟩ := HB2.box2 2 rfl
  go_wp2_with fail
  refine (cS.out _ _ (HB2.nums 3 rfl)).mono ?_
  rintro e w3 ⟨vw, rfl, ho, hbl⟩
  have H3 := HB2.newN ho hbl
  obtain ⟨wp, wc, rfl, _, _⟩ := (H3.nums 0 rfl).slice
  have HB3 := H3.boxed 25 [.slice wp G.length wc, .int .i64 g]
  clear HB2 H3 ho hbl d0 d1 cI cS
  obtain ⟨d0, d1⟩ := HB3.box2 4 rfl
  obtain ⟨o0, o1⟩ := HB3.box2 2 rfl
  obtain ⟨n0, n1⟩ := HB3.box2 0 rfl
  go_wp2_with fail
  refine (equalD_T HB3 (HB3.nums 3 rfl) (HB3.nums 1 rfl)).mono ?_
  rintro e w4 ⟨rfl, H4⟩
  clear HB3 d0 d1 o0 o1 n0 n1
  obtain ⟨d0, d1⟩ := H4.box2 4 rfl
  obtain ⟨o0, o1⟩ := H4.box2 2 rfl
  obtain ⟨n0, n1⟩ := H4.box2 0 rfl
  cases B
  · go_wp2_with fail
    refine (equalD_T H4 (H4.nums 3 rfl) (H4.nums 1 rfl)).mono ?_
    rintro e w5 ⟨rfl, H5⟩
    go_wp2
    go_ret
    exact ⟨rfl, H5.below⟩
  · have hp := hB.out.symm
    have hGe : G = pbL xs := by rw [hG.out, hp]; rfl
    have hge : g = m := by rw [hg.out, hp]; rfl
    have hxe : x = pbX xs := by rw [hx.out, hp]; rfl
    have hxb := allN_iff.1 (validD_all (popB_parts hp).1) _ (pb_mem (popB_parts hp).2)
    rw [← hxe] at hxb
    have c3 := Lib.hid (fun (v : Value) (w : World) (h : Nums w v G) => (show Calls Try.prog 26 #[.agg #[v, .int .i64 g], .int .i64 x] w (NewD xs m true w) by
      rw [hGe] at h
      rw [hge, hxe]
      have h1 := PushBack_any v (pbL xs) m (pbX xs) w h (by omega)
      rw [(pb_push hp).1, (pb_push hp).2] at h1
      exact h1))
    have c4 := Lib.hid (fun (v : Value) (w : World) (h : Nums w v xs) => (show Calls Try.prog 20 #[.agg #[v, .int .i64 m], .int .i64 (-1)] w (RetN (.tuple #[.int .i64 x, .bool true]) w) by
      have h1 := GetAt_any v xs m (-1) w h (by omega)
      rw [(pb_last hp).1, (pb_last hp).2, ← hxe] at h1
      exact h1))
    clear hp hGe hge hxe hG hg hx hB hxb
    go_wp2_with fail
    refine (c3.out _ _ (H4.nums 3 rfl)).mono ?_
    rintro e w5 ⟨vb, rfl, ho, hbl⟩
    have H5 := H4.newN ho hbl
    obtain ⟨bp, bc, rfl, _, _⟩ := (H5.nums 0 rfl).slice
    have HB5 := H5.boxed 25 [.slice bp xs.length bc, .int .i64 m]
    clear H4 H5 ho hbl d0 d1 o0 o1 n0 n1
    obtain ⟨d0, d1⟩ := HB5.box2 6 rfl
    go_wp2_with fail
    refine (c4.out _ _ (HB5.nums 7 rfl)).mono ?_
    rintro e w6 ⟨rfl, hbl⟩
    have H6 := HB5.quiet hbl
    clear HB5 hbl d0 d1
    obtain ⟨d0, d1⟩ := H6.box2 6 rfl
    obtain ⟨b0, b1⟩ := H6.box2 0 rfl
    go_wp2_with fail
    refine (equalD_T H6 (H6.nums 1 rfl) (H6.nums 7 rfl)).mono ?_
    rintro e w7 ⟨rfl, H7⟩
    go_wp2
    go_ret
    exact ⟨rfl, H7.below⟩

set_option maxRecDepth 100000 in
theorem FnPopBack_lifted (os : Os) (started : os.Started) (H : Type) (enc : TypeId × Value → H) :
    ReturnsInHanded {} Try.checked os 5 .any (Rows.fnPopBackSpec.pre6 enc Try.prog Try.f5 Rows.fnPopBackRow.domain false) (Rows.fnPopBackSpec.post enc Try.prog Try.f5 false true false false) := by
  refine returnsInHanded_of_change (C := Try.checked) own started (by kernel_rfl) Try.func5
    (ChangeSpec.witness6 (enc := enc) (C := Try.checked) false ⟨#[], #[.slice none 0 0], []⟩ 8 (by kernel_rfl) (by kernel_rfl) (by kernel_rfl) (by kernel_rfl)) ?_
  intro W base args ds gs before hval0 hW _ _
  have hval : ∀ (j : Nat) t v, Try.f5.params[j]? = some t → args[j]? = some v → Value.okWide Try.prog W .any base t v := hval0
  have hW' := hW
  obtain ⟨p, q, hA0, hV, rfl, _, _⟩ := hW
  have hA : DataW.TrodAll enc Try.prog W 0 (fun _ => true) true Try.f5.params.toList args.toList ds p := hA0
  rw [Try.params5] at hA hval
  obtain ⟨v0, vs0, d0, ds0, p0, q0, hargs, rfl, rfl, h0, r0⟩ := trodAll_cons hA
  obtain ⟨rfl, rfl, rfl⟩ := trodAll_nil r0
  obtain rfl : args = #[v0] := by cases args; simp_all
  obtain ⟨rfl, rfl⟩ := trodVars_none hV
  obtain ⟨xs0, hI0⟩ := open_bytes (hval 0 _ v0 rfl rfl) h0
  refine (FnPopBack_walk v0 xs0 W hI0).mono fun e W' ⟨he, hb⟩ => ⟨_, he, ?_⟩
  exact law_end rfl (by rw [Try.params5]; decide +kernel) rfl hW' rfl rfl rfl hb

theorem FnPopBack_facts : joinedFacts Try.prog 5 Try.f5 Rows.fnPopBackSpec Rows.fnPopBackRow = true :=
  facts_of (by kernel_rfl) q2 q3 (by kernel_rfl) (by kernel_rfl) (by kernel_rfl) q7 (by kernel_rfl) q9 (by kernel_rfl) (by kernel_rfl) (by kernel_rfl) (by kernel_rfl) (by kernel_rfl) (by kernel_rfl) (by kernel_rfl) (by kernel_rfl) (by kernel_rfl) (by kernel_rfl) (by kernel_rfl) (by kernel_rfl) (by kernel_rfl)
    (by rw [q22]; kernel_rfl) (by kernel_rfl) q23 head_enter (by kernel_rfl) head_lifts head_make (by kernel_rfl) (by kernel_rfl) (by kernel_rfl) (by kernel_rfl) (by kernel_rfl)

theorem FnPopBack_holds : Rows.FnPopBackSaid :=
  OpenClaim.holds_of_wide 5 Try.f5 rfl rfl rfl rfl rfl rfl rfl ⟨rfl, rfl, rfl, rfl, rfl⟩ rfl rfl rfl rfl rfl (by kernel_rfl) Try.func5 FnPopBack_facts
    (of_decide_eq_true (by kernel_rfl)) (by unfold Func.isWrapper; first | (rw [if_pos (by decide +kernel)]; kernel_rfl) | (rw [if_neg (by decide +kernel)]; exact ⟨rfl, rfl⟩))
    (fun os started H enc _ => FnPopBack_lifted os started H enc)
end Go.Proofs.Ytfooiijfminlnaa
