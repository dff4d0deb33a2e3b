/-
  FnPopItem: true, for every code.
-/
import Derived.Test.YtmjcijhbhdfhdaaP11
import Derived.Test.YtmjcijhbhdfhdaaP13
import Derived.Test.YtmjcijhbhdfhdaaP16
import Derived.Test.YtmjcijhbhdfhdaaP18
import Derived.Test.YtmjcijhbhdfhdaaP25
namespace Go.Proofs.Ytmjcijhbhdfhdaa
open Go.RowKit
open Go.ChangeShapes Go.WideShapes Go.ChangeAt Go.Deep

theorem okE_parts {l : List Itm} (h : okE l = true) : validI l = true ∧ l ≠ [] := by
  unfold okE at h
  rw [Bool.and_eq_true] at h
  exact ⟨h.1, by rintro rfl; simp at h⟩
/-- What has been popped is put again and moved to its end. -/
theorem pop_algebra {l : List Itm} (h : okE l = true) (b : Bool) :
    ∃ a, okP (popL l b) (popX l b).1 (popX l b).2 = true ∧ putL (popL l b) (popX l b).1 (popX l b).2 = a ∧ okG a (popX l b).1 = true ∧ movL a (popX l b).1 b = l ∧ ((popX l b).1.size ≤ 4 ∧ -9999 ≤ (popX l b).2 ∧ (popX l b).2 ≤ 9999) := by
  obtain ⟨hv, hne⟩ := okE_parts h
  have hu := valid_uniq hv
  unfold popL popX
  rw [if_pos h, if_pos h]
  have main : ∀ (r : List Itm) (x : Itm), (r ++ [x]).Perm l → (movI (r ++ [x]) x.1 b = l) → ∃ a, okP r x.1 x.2 = true ∧ putL r x.1 x.2 = a ∧ okG a x.1 = true ∧ movL a x.1 b = l ∧ (x.1.size ≤ 4 ∧ -9999 ≤ x.2 ∧ x.2 ≤ 9999) := by
    intro r x hp hm
    have hv2 : validI (r ++ [x]) = true := by rw [valid_perm hp]; exact hv
    have hu2 := valid_uniq hv2
    have hx : hasI r x.1 = false := by
      have := uniq_nodup.1 hu2
      unfold keysL at this
      rw [List.map_append, List.nodup_append] at this
      cases hh : hasI r x.1
      · rfl
      · obtain ⟨y, hy, e⟩ := hasI_mem.1 hh
        exact absurd e (this.2.2 y.1 (List.mem_map.2 ⟨y, hy, rfl⟩) x.1 (by simp))
    have hr : validI r = true := valid_sub (by
        have := uniq_nodup.1 hu2
        unfold keysL at this
        rw [List.map_append, List.nodup_append] at this
        exact uniq_nodup.2 this.1) hv2 (fun s hs => by rw [hasI_append, hs]; rfl) (fun y hy => valid_num hv2 y (List.mem_append_left _ hy))
    have e1 : putI r x.1 x.2 = r ++ [x] := by rw [putI_new hx]
    have ho := okP_of (l := r) (k := x.1) (n := x.2) hr (by rw [e1]; exact hv2)
    have hg : okG (r ++ [x]) x.1 = true := okg_of hv2 (by rw [hasI_append]; simp [hasI])
    have hxm := ((validI_iff _).1 hv2).1 x (by simp)
    have hk := hxm.1
    have hn := numB_iff.1 hxm.2
    unfold keyB at hk
    simp only [Bool.and_eq_true, decide_eq_true_eq] at hk
    exact ⟨r ++ [x], ho.1, by rw [ho.2, e1], hg, by rw [mov_of hg, hm], by omega, hn.1, hn.2⟩
  have hsp : ∀ (r : List Itm) (x : Itm), hasI r x.1 = false → delI (r ++ [x]) x.1 = r ∧ cnt (r ++ [x]) x.1 = x.2 := by
    intro r x hx
    have e1 := delI_sp (a := r) (x := x) (r := []) (k := x.1) rfl hx
    have e2 := cnt_sp (a := r) (x := x) (r := []) (k := x.1) rfl hx
    exact ⟨by rw [e1, List.append_nil], e2⟩
  have hno : ∀ (r : List Itm) (x : Itm), (r ++ [x]).Perm l → hasI r x.1 = false := by
    intro r x hp
    have hv2 : validI (r ++ [x]) = true := by rw [valid_perm hp]; exact hv
    have := uniq_nodup.1 (valid_uniq hv2)
    unfold keysL at this
    rw [List.map_append, List.nodup_append] at this
    cases hh : hasI r x.1
    · rfl
    · obtain ⟨y, hy, e⟩ := hasI_mem.1 hh
      exact absurd e (this.2.2 y.1 (List.mem_map.2 ⟨y, hy, rfl⟩) x.1 (by simp))
  cases b
  · obtain ⟨x, r, rfl⟩ := List.exists_cons_of_ne_nil hne
    show ∃ a, okP r x.1 x.2 = true ∧ putL r x.1 x.2 = a ∧ okG a x.1 = true ∧ movL a x.1 false = x :: r ∧ _
    have hp : (r ++ [x]).Perm (x :: r) := List.perm_append_singleton x r
    refine main r x hp ?_
    obtain ⟨e1, e2⟩ := hsp r x (hno r x hp)
    unfold movI
    rw [e1, e2]
    rfl
  · have e := List.dropLast_concat_getLast hne
    have hl : l.getLastD zI = l.getLast hne := by cases l with
      | nil => exact absurd rfl hne
      | cons x r => rfl
    show ∃ a, okP l.dropLast (l.getLastD zI).1 (l.getLastD zI).2 = true ∧ putL l.dropLast (l.getLastD zI).1 (l.getLastD zI).2 = a ∧ okG a (l.getLastD zI).1 = true ∧ movL a (l.getLastD zI).1 true = l ∧ ((l.getLastD zI).1.size ≤ 4 ∧ -9999 ≤ (l.getLastD zI).2 ∧ (l.getLastD zI).2 ≤ 9999)
    rw [hl]
    have hp : (l.dropLast ++ [l.getLast hne]).Perm l := by rw [e]
    refine main _ _ hp ?_
    obtain ⟨e1, e2⟩ := hsp _ _ (hno _ _ hp)
    unfold movI
    rw [e1, e2]
    exact e

set_option maxHeartbeats 3200000 in
set_option maxRecDepth 100000 in
theorem FnPopItem_walk (v : Value) (bs : List Int) (w : World) (h : Bytes w v bs) :
    Calls Try.prog 12 #[v] w fun e w' => e = .returned (.bool true) ∧ Below w.heap.size w w' := by
  have h0 := h
  obtain ⟨ao, cap, rfl, hl, hc, hok, hcell⟩ := h0
  clear hcell hok
  go_enter Try.func12, Try.ntmps12
  by_cases hbig : (1048576 : Int) < (bs.length : Int)
  · go_wp2
    go_ret
    exact ⟨rfl, Below.refl _ _⟩
  go_wp2_with fail
  refine (DrawPopItem_any _ bs w h).mono ?_
  rintro e w1 ⟨va, xs, z, rfl, hlen, hxa, hb1⟩
  have H1 := Things.nil w1
  obtain ⟨G, hG⟩ : ∃ G, Hid (G = popL xs z) := ⟨_, Lib.hid rfl⟩
  obtain ⟨X, hX⟩ : ∃ X, Hid (X = popX xs z) := ⟨_, Lib.hid rfl⟩
  obtain ⟨K, hK⟩ : ∃ K, Hid (K = okE xs) := ⟨_, Lib.hid rfl⟩
  have cI := Lib.hid (fun (v0 : Value) (w : World) (h0 : Items w v0 xs) => (show Calls Try.prog 53 #[v0, .bool z] w (NewX G X K w) by rw [hG.out, hX.out, hK.out]; exact PopItem_any v0 xs z w h0))
  have cS := Lib.hid (fun (v0 : Value) (w : World) (h0 : Items w v0 xs) => (show Calls Try.prog 54 #[v0, .bool z] w (NewX G X K w) by rw [hG.out, hX.out, hK.out]; exact sPopItem_any v0 xs z w h0))
  go_wp2_with fail
  refine (cI.out _ _ (H1.arg hxa)).mono ?_
  rintro e w2 ⟨vo, rfl, ho, hb⟩
  have H2 := H1.newI ho hb
  clear ho hb H1
  have HB2 := H2.boxed 30 [.string X.1, .int .i64 X.2]
  clear H2
  have H3 := HB2
  clear HB2
  go_wp2_with fail
  refine (cS.out _ _ (H3.arg hxa)).mono ?_
  rintro e w4 ⟨vw, rfl, ho, hb⟩
  have H4 := H3.newI ho hb
  clear ho hb H3
  have HB4 := H4.boxed 30 [.string X.1, .int .i64 X.2]
  clear H4
  have H5 := HB4
  clear HB4
  clear cI cS
  go_wp2_with fail
  refine (equalI_T H5 (H5.items 3 rfl) (H5.items 1 rfl)).mono ?_
  rintro e w6 ⟨rfl, H6⟩
  clear H5
  have hg1 := item_neq
  have hg2 := item_guard
  obtain ⟨x0, x1⟩ := H6.box2 2 rfl
  obtain ⟨y0, y1⟩ := H6.box2 0 rfl
  have hse := beq_self_eq_true X.1.toList
  cases K
  · skip
    go_wp2_with fail
    refine (equalI_T H6 (H6.items 3 rfl) (H6.items 1 rfl)).mono ?_
    rintro e w7 ⟨rfl, H7⟩
    clear H6
    clear x0 x1 y0 y1
    obtain ⟨x0, x1⟩ := H7.box2 2 rfl
    obtain ⟨y0, y1⟩ := H7.box2 0 rfl
    go_wp2
    go_ret
    exact ⟨rfl, hb1.trans (H7.below.mono hb1.size)⟩
  · obtain ⟨a, p1, p2, p3, p4, hxs, hx1, hx2⟩ := pop_algebra hK.out.symm z
    rw [← hX.out] at p1 p2 p3 p4 hxs hx1 hx2
    rw [← hG.out] at p1 p2
    have c1 := Lib.hid (fun (v0 : Value) (w : World) (h0 : Items w v0 G) => castI2 (PutItem_any v0 G X.1 X.2 w h0 (by omega) (by omega)) p2 p1)
    have c2 := Lib.hid (fun (v0 : Value) (w : World) (h0 : Items w v0 a) => castI2 (MoveItem_any v0 a X.1 z w h0) p4 p3)
    clear p1 p2 p3 p4 hG hX hK
    go_wp2_with fail
    refine (c1.out _ _ (H6.items 3 rfl)).mono ?_
    rintro e w7 ⟨v1, rfl, ho, hb⟩
    have H7 := H6.newI ho hb
    clear ho hb H6
    clear x0 x1 y0 y1
    obtain ⟨x0, x1⟩ := H7.box2 3 rfl
    go_wp2_with fail
    refine (c2.out _ _ (H7.items 0 rfl)).mono ?_
    rintro e w8 ⟨v2, rfl, ho, hb⟩
    have H8 := H7.newI ho hb
    clear ho hb H7
    clear x0 x1
    go_wp2_with fail
    refine (equalI_T H8 (H8.items 0 rfl) (H8.arg hxa)).mono ?_
    rintro e w9 ⟨rfl, H9⟩
    clear H8
    go_wp2
    go_ret
    exact ⟨rfl, hb1.trans (H9.below.mono hb1.size)⟩

set_option maxRecDepth 100000 in
theorem FnPopItem_lifted (os : Os) (started : os.Started) (H : Type) (enc : TypeId × Value → H) :
    ReturnsInHanded {} Try.checked os 12 .any (Rows.fnPopItemSpec.pre6 enc Try.prog Try.f12 Rows.fnPopItemRow.domain false) (Rows.fnPopItemSpec.post enc Try.prog Try.f12 false true false false) := by
  refine returnsInHanded_of_change (C := Try.checked) own started (by kernel_rfl) Try.func12
    (ChangeSpec.witness6 (enc := enc) (C := Try.checked) false ⟨#[], #[.slice none 0 0], []⟩ 8 (by kernel_rfl) (by kernel_rfl) (by kernel_rfl) (by kernel_rfl)) ?_
  intro W base args ds gs before hval0 hW _ _
  have hval : ∀ (j : Nat) t v, Try.f12.params[j]? = some t → args[j]? = some v → Value.okWide Try.prog W .any base t v := hval0
  have hW' := hW
  obtain ⟨p, q, hA0, hV, rfl, _, _⟩ := hW
  have hA : DataW.TrodAll enc Try.prog W 0 (fun _ => true) true Try.f12.params.toList args.toList ds p := hA0
  rw [Try.params12] at hA hval
  obtain ⟨v0, vs0, d0, ds0, p0, q0, hargs, rfl, rfl, h0, r0⟩ := trodAll_cons hA
  obtain ⟨rfl, rfl, rfl⟩ := trodAll_nil r0
  obtain rfl : args = #[v0] := by cases args; simp_all
  obtain ⟨rfl, rfl⟩ := trodVars_none hV
  obtain ⟨xs0, hI0⟩ := open_bytes (hval 0 _ v0 rfl rfl) h0
  refine (FnPopItem_walk v0 xs0 W hI0).mono fun e W' ⟨he, hb⟩ => ⟨_, he, ?_⟩
  exact law_end rfl (by rw [Try.params12]; decide +kernel) rfl hW' rfl rfl rfl hb

theorem FnPopItem_facts : joinedFacts Try.prog 12 Try.f12 Rows.fnPopItemSpec Rows.fnPopItemRow = true :=
  facts_of (by kernel_rfl) q2 q3 (by kernel_rfl) (by kernel_rfl) (by kernel_rfl) q7 (by kernel_rfl) q9 (by kernel_rfl) (by kernel_rfl) (by kernel_rfl) (by kernel_rfl) (by kernel_rfl) (by kernel_rfl) (by kernel_rfl) (by kernel_rfl) (by kernel_rfl) (by kernel_rfl) (by kernel_rfl) (by kernel_rfl) (by kernel_rfl)
    (by rw [q22]; kernel_rfl) (by kernel_rfl) q23 head_enter (by kernel_rfl) head_lifts head_make (by kernel_rfl) (by kernel_rfl) (by kernel_rfl) (by kernel_rfl) (by kernel_rfl)

theorem FnPopItem_holds : Rows.FnPopItemSaid :=
  OpenClaim.holds_of_wide 12 Try.f12 rfl rfl rfl rfl rfl rfl rfl ⟨rfl, rfl, rfl, rfl, rfl⟩ rfl rfl rfl rfl rfl (by kernel_rfl) Try.func12 FnPopItem_facts
    (of_decide_eq_true (by kernel_rfl)) (by unfold Func.isWrapper; first | (rw [if_pos (by decide +kernel)]; kernel_rfl) | (rw [if_neg (by decide +kernel)]; exact ⟨rfl, rfl⟩))
    (fun os started H enc _ => FnPopItem_lifted os started H enc)
end Go.Proofs.Ytmjcijhbhdfhdaa
