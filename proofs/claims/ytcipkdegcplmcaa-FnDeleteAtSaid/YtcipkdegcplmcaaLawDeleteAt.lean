/-
  FnDeleteAt: true, for every code.
-/
import Derived.Test.YtcipkdegcplmcaaLwN
import Derived.Test.YtcipkdegcplmcaaOpenB
import Derived.Test.YtcipkdegcplmcaaDqD
import Derived.Test.YtcipkdegcplmcaaDqDS
namespace Go.Proofs.Ytcipkdegcplmcaa
open Go.RowKit
open Go.ChangeShapes Go.WideShapes Go.ChangeAt Go.Deep

set_option linter.unusedSimpArgs false in
set_option maxHeartbeats 800000 in
theorem DrawDeleteAt_any (v : Value) (bs : List Int) (w : World) (h : Bytes w v bs) :
    Calls Try.prog 27 #[v] w fun e w' => ∃ v' xs m x, e = .returned (.tuple #[.agg #[v', .int .i64 m], .int .i64 x]) ∧ OwnN w.heap.size w'.heap.size w' v' xs ∧ (xs.length ≤ 11 ∧ nearL xs ∧ -2 ≤ m ∧ m ≤ 11) ∧ (-9223372036854775808 ≤ x ∧ x ≤ 9223372036854775807) ∧ Below w.heap.size w w' := by
  have hb0 : Below w.heap.size w (w.alloc (.cells #[.slice none 0 0, .int .i64 0] 25)) := (Below.refl _ _).alloc (Nat.le_refl _) _
  have HR := Lib.hid (heap_new w (.cells #[.slice none 0 0, .int .i64 0] 25))
  go_enter Try.func27, Try.ntmps27
  go_wp2_with fail
  refine (DrawGetAt_any v bs _ (h.below hb0)).mono ?_
  rintro e w1 ⟨v1, xs, m, x, rfl, hown, hb, hx, hb1⟩
  obtain ⟨xo, xcap, rfl, _, _⟩ := hown.nums.slice
  have hs1 := hb1.size
  simp at hs1 hb1 hown
  have R2 := (hb1.block _ (by omega)).trans HR.out
  have HBB : Hid (Below w.heap.size w w1) := hb0.trans (hb1.mono (by omega))
  have HO := Lib.hid hown
  have s0 := two_cell0 R2
  have s1 := two_cell1 R2
  have t0 := two_free R2
  clear R2 hown hb1
  go_wp2
  exact bodyPost_ret (v := .tuple #[.agg #[.slice xo xs.length xcap, .int .i64 m], .int .i64 x]) (by simp [results, Try.results27, go_sem, s0, s1]) rfl ⟨_, _, _, _, rfl, (HO.out.keeps (((Keeps.refl _ _).setCell (by simp [In] <;> omega) _).setCell (by simp [In] <;> omega) _)).wide (by omega) (by simp <;> omega), hb, hx, (HBB.out.setCell (by simp) _).setCell (by simp) _⟩

theorem allN_bd {xs : List Int} {m : Int} (h : validD xs m = true) {j : Nat} (hj : j < xs.length) : -9223372036854775808 ≤ xs[j] ∧ xs[j] ≤ 9223372036854775807 := by
  have := allN_iff.1 (validD_all h) _ (List.getElem_mem hj)
  omega
theorem del_place {xs : List Int} {m k : Int} (h : dlB (inD xs m k) = true) : ∃ j : Nat, j < xs.length ∧ inD xs m k = (j : Int) ∧ validD xs m = true ∧ (k = (j : Int) ∨ k < 0 ∧ k + (xs.length : Int) = (j : Int)) := by
  have h0 : 0 ≤ inD xs m k := of_decide_eq_true h
  obtain ⟨h1, h2, h3⟩ := inD_bd.2 h0
  obtain ⟨j, hj⟩ := Int.eq_ofNat_of_zero_le h0
  refine ⟨j, by omega, hj, h2, ?_⟩
  rw [hj] at h3
  unfold atI at h3
  split at h3
  · right; omega
  · split at h3
    · left; omega
    · omega
theorem del_len {xs : List Int} {j : Nat} (hj : j < xs.length) : (delN xs (j : Int)).length = xs.length - 1 := by
  unfold delN
  rw [List.length_append, List.length_take, List.length_drop]
  simp
  omega
theorem ins_back {xs : List Int} {j : Nat} (hj : j < xs.length) : insN (delN xs (j : Int)) (clp (j : Int) (delN xs (j : Int)).length) xs[j] = xs := by
  have hl := del_len hj
  have e : clp (j : Int) ((delN xs (j : Int)).length : Int) = j := by
    rw [hl]
    unfold clp
    rw [if_neg (by omega)]
    split <;> omega
  rw [e]
  unfold insN delN
  simp only [Int.toNat_natCast]
  have ht : (xs.take j).length = j := by rw [List.length_take]; omega
  rw [List.take_append_of_le_length (by omega), List.take_of_length_le (by omega), List.drop_append_of_le_length (by omega), List.drop_of_length_le (by omega)]
  simp only [List.nil_append]
  rw [List.append_assoc]
  show xs.take j ++ (xs[j] :: xs.drop (j + 1)) = xs
  rw [← List.drop_eq_getElem_cons hj, List.take_append_drop]
theorem del_valid {xs : List Int} {m : Int} (h : validD xs m = true) {j : Nat} (hj : j < xs.length) : validD (delN xs (j : Int)) m = true := by
  have h1 := validD_iff.1 h
  have hl := del_len hj
  refine validD_iff.2 ⟨allN_iff.2 fun x hx => ?_, h1.2.1, by omega, h1.2.2.2.imp id (by omega)⟩
  unfold delN at hx
  rcases List.mem_append.1 hx with hx | hx
  · exact allN_iff.1 h1.1 x (List.mem_of_mem_take hx)
  · exact allN_iff.1 h1.1 x (List.mem_of_mem_drop hx)
theorem del_get {xs : List Int} {m k : Int} {j : Nat} (hj : j < xs.length) (e : inD xs m k = (j : Int)) : getV xs (inD xs m k) = xs[j] := by
  rw [e]
  exact getV_at hj

set_option maxHeartbeats 3200000 in
set_option maxRecDepth 100000 in
theorem FnDeleteAt_walk (v : Value) (bs : List Int) (w : World) (h : Bytes w v bs) :
    Calls Try.prog 6 #[v] w fun e w' => e = .returned (.bool true) ∧ Below w.heap.size w w' := by
  have h0 := h
  obtain ⟨ao, cap, rfl, hl, hc, hok, hcell⟩ := h0
  clear hcell hok
  go_enter Try.func6, Try.ntmps6
  by_cases hbig : (1048576 : Int) < (bs.length : Int)
  · go_wp2
    go_ret
    exact ⟨rfl, Below.refl _ _⟩
  go_wp2_with fail
  refine (DrawDeleteAt_any _ bs w h).mono ?_
  rintro e w1 ⟨vd, xs, m, x, rfl, ho, hb, hx, hbl⟩
  have H1 := (Things.nil w).new (t := numT w.heap.size w1.heap.size vd xs) (Nat.le_refl _) (Nat.le_refl _) ho hbl
  obtain ⟨dp, dc, rfl, hdc, hdm⟩ := (H1.nums 0 rfl).slice
  have HB1 := H1.boxed 25 [.slice dp xs.length dc, .int .i64 m]
  obtain ⟨d0, d1⟩ := HB1.box2 0 rfl
  obtain ⟨G, hG⟩ : ∃ G, Hid (G = ifN (dlB (inD xs m x)) (delN xs (inD xs m x))) := ⟨_, rfl⟩
  obtain ⟨g, hg⟩ : ∃ g, Hid (g = ifI (dlB (inD xs m x)) m) := ⟨_, rfl⟩
  obtain ⟨B, hB⟩ : ∃ B, Hid (B = dlB (inD xs m x)) := ⟨_, rfl⟩
  have cI := Lib.hid (fun (v : Value) (w : World) (h : Nums w v xs) => (show Calls Try.prog 28 #[.agg #[v, .int .i64 m], .int .i64 x] w (NewD G g B w) by rw [hG.out, hg.out, hB.out]; exact DeleteAt_any v xs m x w h hx))
  have cS := Lib.hid (fun (v : Value) (w : World) (h : Nums w v xs) => (show Calls Try.prog 29 #[.agg #[v, .int .i64 m], .int .i64 x] w (NewD G g B w) by rw [hG.out, hg.out, hB.out]; exact sDeleteAt_any v xs m x w h hx))
  clear ho hbl H1 h
  go_wp2_with fail
  refine (cI.out _ _ (HB1.nums 1 rfl)).mono ?_
  rintro e w2 ⟨vo, rfl, ho, hbl⟩
  have H2 := HB1.newN ho hbl
  obtain ⟨op, oc, rfl, _, _⟩ := (H2.nums 0 rfl).slice
  have HB2 := H2.boxed 25 [.slice op G.length oc, .int .i64 g]
  clear HB1 H2 ho hbl d0 d1
  obtain ⟨d0, d1⟩ := HB2.box2 2 rfl
  go_wp2_with fail
  refine (cS.out _ _ (HB2.nums 3 rfl)).mono ?_
  rintro e w3 ⟨vw, rfl, ho, hbl⟩
  have H3 := HB2.newN ho hbl
  obtain ⟨wp, wc, rfl, _, _⟩ := (H3.nums 0 rfl).slice
  have HB3 := H3.boxed 25 [.slice wp G.length wc, .int .i64 g]
  clear HB2 H3 ho hbl d0 d1 cI cS
  obtain ⟨d0, d1⟩ := HB3.box2 4 rfl
  obtain ⟨o0, o1⟩ := HB3.box2 2 rfl
  obtain ⟨n0, n1⟩ := HB3.box2 0 rfl
  go_wp2_with fail
  refine (equalD_T HB3 (HB3.nums 3 rfl) (HB3.nums 1 rfl)).mono ?_
  rintro e w4 ⟨rfl, H4⟩
  clear HB3 d0 d1 o0 o1 n0 n1
  obtain ⟨d0, d1⟩ := H4.box2 4 rfl
  obtain ⟨o0, o1⟩ := H4.box2 2 rfl
  obtain ⟨n0, n1⟩ := H4.box2 0 rfl
  cases B
  · go_wp2_with fail
    refine (equalD_T H4 (H4.nums 3 rfl) (H4.nums 1 rfl)).mono ?_
    rintro e w5 ⟨rfl, H5⟩
    go_wp2
    go_ret
    exact ⟨rfl, H5.below⟩
  · have hp := hB.out.symm
    obtain ⟨j, hj, hq, hv, hxk⟩ := del_place hp
    have hGe : G = delN xs (j : Int) := by rw [hG.out, hp, hq]; rfl
    have hge : g = m := by rw [hg.out, hp]; rfl
    have hlen : xs.length ≤ 10 := validD_len hv
    obtain ⟨y, hy⟩ : ∃ y, y = xs[j] := ⟨_, rfl⟩
    have hyb := allN_bd hv hj
    rw [← hy] at hyb
    have c4 := Lib.hid (fun (v : Value) (w : World) (h : Nums w v xs) => (show Calls Try.prog 26 #[.agg #[v, .int .i64 m], .int .i64 x] w (RetN (.tuple #[.int .i64 y, .bool true]) w) by
      have h1 := GetAt_any v xs m x w h hx
      rw [del_get hj hq, ← hy, show getOk (inD xs m x) = true from hp] at h1
      exact h1))
    have c3 := Lib.hid (fun (v : Value) (w : World) (h : Nums w v G) => (show Calls Try.prog 30 #[.agg #[v, .int .i64 g], .int .i64 (j : Int), .int .i64 y] w (NewD xs m true w) by
      rw [hGe] at h
      rw [hge]
      have h1 := InsertAt_any v (delN xs (j : Int)) m (j : Int) y w h (by omega) hyb
      have e1 : insN (delN xs (j : Int)) (clp (j : Int) (delN xs (j : Int)).length) y = xs := by rw [hy]; exact ins_back hj
      have e2 : isB (delN xs (j : Int)) m (clp (j : Int) (delN xs (j : Int)).length) y = true := by
        unfold isB
        rw [e1, hv, del_valid hv hj]
        rfl
      rw [e1, e2] at h1
      exact h1))
    clear hp hq hv hGe hge hG hg hB hyb hy
    go_wp2_with fail
    refine (c4.out _ _ (H4.nums 5 rfl)).mono ?_
    rintro e w5 ⟨rfl, hbl⟩
    have H5 := H4.quiet hbl
    clear H4 hbl d0 d1 o0 o1 n0 n1
    obtain ⟨d0, d1⟩ := H5.box2 4 rfl
    obtain ⟨o0, o1⟩ := H5.box2 2 rfl
    rcases hxk with rfl | ⟨hx0, hxj⟩
    all_goals
      first
        | have hxn : (0 : Int) ≤ (j : Int) := by omega
        | have hxw : IntKind.i64.wrap (x + (xs.length : Int)) = (j : Int) := by rw [hxj]; exact IntWalk.i64_in _ (by omega)
      go_wp2_with fail
      refine (c3.out _ _ (H5.nums 3 rfl)).mono ?_
      rintro e w6 ⟨vb, rfl, ho, hbl⟩
      have H6 := H5.newN ho hbl
      obtain ⟨bp, bc, rfl, _, _⟩ := (H6.nums 0 rfl).slice
      have HB6 := H6.boxed 25 [.slice bp xs.length bc, .int .i64 m]
      clear H5 H6 ho hbl d0 d1 o0 o1
      obtain ⟨d0, d1⟩ := HB6.box2 6 rfl
      obtain ⟨b0, b1⟩ := HB6.box2 0 rfl
      go_wp2_with fail
      refine (equalD_T HB6 (HB6.nums 1 rfl) (HB6.nums 7 rfl)).mono ?_
      rintro e w7 ⟨rfl, H7⟩
      go_wp2
      go_ret
      exact ⟨rfl, H7.below⟩

set_option maxRecDepth 100000 in
theorem FnDeleteAt_lifted (os : Os) (started : os.Started) (H : Type) (enc : TypeId × Value → H) :
    ReturnsInHanded {} Try.checked os 6 .any (Rows.fnDeleteAtSpec.pre6 enc Try.prog Try.f6 Rows.fnDeleteAtRow.domain false) (Rows.fnDeleteAtSpec.post enc Try.prog Try.f6 false true false false) := by
  refine returnsInHanded_of_change (C := Try.checked) own started (by kernel_rfl) Try.func6
    (ChangeSpec.witness6 (enc := enc) (C := Try.checked) false ⟨#[], #[.slice none 0 0], []⟩ 8 (by kernel_rfl) (by kernel_rfl) (by kernel_rfl) (by kernel_rfl)) ?_
  intro W base args ds gs before hval0 hW _ _
  have hval : ∀ (j : Nat) t v, Try.f6.params[j]? = some t → args[j]? = some v → Value.okWide Try.prog W .any base t v := hval0
  have hW' := hW
  obtain ⟨p, q, hA0, hV, rfl, _, _⟩ := hW
  have hA : DataW.TrodAll enc Try.prog W 0 (fun _ => true) true Try.f6.params.toList args.toList ds p := hA0
  rw [Try.params6] at hA hval
  obtain ⟨v0, vs0, d0, ds0, p0, q0, hargs, rfl, rfl, h0, r0⟩ := trodAll_cons hA
  obtain ⟨rfl, rfl, rfl⟩ := trodAll_nil r0
  obtain rfl : args = #[v0] := by cases args; simp_all
  obtain ⟨rfl, rfl⟩ := trodVars_none hV
  obtain ⟨xs0, hI0⟩ := open_bytes (hval 0 _ v0 rfl rfl) h0
  refine (FnDeleteAt_walk v0 xs0 W hI0).mono fun e W' ⟨he, hb⟩ => ⟨_, he, ?_⟩
  exact law_end rfl (by rw [Try.params6]; decide +kernel) rfl hW' rfl rfl rfl hb

theorem FnDeleteAt_facts : joinedFacts Try.prog 6 Try.f6 Rows.fnDeleteAtSpec Rows.fnDeleteAtRow = true :=
  facts_of (by kernel_rfl) q2 q3 (by kernel_rfl) (by kernel_rfl) (by kernel_rfl) q7 (by kernel_rfl) q9 (by kernel_rfl) (by kernel_rfl) (by kernel_rfl) (by kernel_rfl) (by kernel_rfl) (by kernel_rfl) (by kernel_rfl) (by kernel_rfl) (by kernel_rfl) (by kernel_rfl) (by kernel_rfl) (by kernel_rfl) (by kernel_rfl)
    (by rw [q22]; kernel_rfl) (by kernel_rfl) q23 head_enter (by kernel_rfl) head_lifts head_make (by kernel_rfl) (by kernel_rfl) (by kernel_rfl) (by kernel_rfl) (by kernel_rfl)

theorem FnDeleteAt_holds : Rows.FnDeleteAtSaid :=
  OpenClaim.holds_of_wide 6 Try.f6 rfl rfl rfl rfl rfl rfl rfl ⟨rfl, rfl, rfl, rfl, rfl⟩ rfl rfl rfl rfl rfl (by kernel_rfl) Try.func6 FnDeleteAt_facts
    (of_decide_eq_true (by kernel_rfl)) (by unfold Func.isWrapper; first | (rw [if_pos (by decide +kernel)]; kernel_rfl) | (rw [if_neg (by decide +kernel)]; exact ⟨rfl, rfl⟩))
    (fun os started H enc _ => FnDeleteAt_lifted os started H enc)
end Go.Proofs.Ytcipkdegcplmcaa
