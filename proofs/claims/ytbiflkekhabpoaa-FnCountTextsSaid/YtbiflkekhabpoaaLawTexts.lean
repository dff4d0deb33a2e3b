/-
  FnCountTexts: true, for every code.
-/
import Derived.Test.YtbiflkekhabpoaaLawElem
import Derived.Test.YtbiflkekhabpoaaTotal
namespace Go.Proofs.Ytbiflkekhabpoaa
open Go.RowKit
open Go.ChangeShapes Go.WideShapes Go.ChangeAt Go.Deep

theorem mem_putI {l : List Itm} {k : ByteArray} {n : Int} {x : Itm} (h : x ∈ putI l k n) : x = (k, n) ∨ x ∈ l := by
  induction l with
  | nil => simp [putI] at h; exact .inl h
  | cons y r ih =>
    unfold putI at h
    split at h
    · rcases List.mem_cons.1 h with h | h
      · exact .inl h
      · exact .inr (by simp [h])
    · rcases List.mem_cons.1 h with h | h
      · exact .inr (by simp [h])
      · rcases ih h with h | h
        · exact .inl h
        · exact .inr (by simp [h])
theorem cnt_nonneg {l : List Itm} (h : ∀ x ∈ l, 0 < x.2) (s : ByteArray) : 0 ≤ cnt l s := by
  induction l with
  | nil => simp [cnt]
  | cons x r ih =>
    have h1 := h x (by simp)
    have h2 := ih (fun y hy => h y (by simp [hy]))
    simp only [cnt]
    split <;> omega
theorem sum_put (l : List Itm) (k : ByteArray) (d : Int) : sumI (putI l k (cnt l k + d)) = sumI l + d := by
  induction l with
  | nil => simp [putI, cnt, sumI]
  | cons x r ih =>
    by_cases h : x.1 = k
    · simp [putI, cnt, sumI, h]; omega
    · simp only [putI, cnt, h, if_false, sumI, ih]; omega
theorem texts_pos : ∀ (ts : List ByteArray) (t : List Itm), (∀ x ∈ t, 0 < x.2) → (∀ x ∈ addAll t (oneI ts) 1, 0 < x.2) ∧ sumI (addAll t (oneI ts) 1) = sumI t + ts.length
  | [], t, h => ⟨h, by simp [oneI, addAll]⟩
  | s :: r, t, h => by
    have e : addAll t (oneI (s :: r)) 1 = addAll (putI t s (cnt t s + 1 * 1)) (oneI r) 1 := rfl
    have hc := cnt_nonneg h s
    have ih := texts_pos r (putI t s (cnt t s + 1 * 1)) (fun x hx => by
      rcases mem_putI hx with rfl | hx
      · show 0 < cnt t s + 1 * 1; omega
      · exact h x hx)
    rw [e]
    refine ⟨ih.1, ?_⟩
    rw [ih.2, sum_put]
    simp only [List.length_cons]
    omega

theorem OwnT.keeps {r : Nat} {w w' : World} {B : Nat} {v : Value} {xs : List ByteArray} (h : OwnT w B v xs) (hr : r < B) (hk : Keeps (RK r w) w w') : OwnT w' B v xs := ⟨own_keeps h.1 hr hk, h.2⟩
theorem okT_set {l : List ByteArray} (h : okT l) (k : Nat) (s : ByteArray) (hs : s.size ≤ 9223372036854775807) : okT (l.set k s) := fun y hy => by
  rcases List.mem_or_eq_of_mem_set hy with hy | rfl
  · exact h y hy
  · exact hs

set_option maxHeartbeats 3200000 in
theorem someTexts_any (r P : Nat) (w : World) (h : Reader w r P) (hP : P ≤ 1000000) :
    Calls Try.prog 103 #[.pointer (some ⟨r, 0, none⟩)] w fun e w' => ∃ v ts, e = .returned v ∧ ts.length ≤ 41 ∧ OwnT w' w.heap.size v ts ∧ Keeps (RK r w) w w' := by
  have hrlt := h.lt
  have hb0 : Below w.heap.size w (w.alloc (.cells #[] 9)) := (Below.refl _ _).alloc (Nat.le_refl _) _
  have hlit : OwnT (w.alloc (.cells #[] 9)) w.heap.size (.slice (some ⟨w.heap.size, 0, none⟩) 0 0) [] :=
    ⟨World.ownsRow_lit (base := w.heap.size) (e := 9) (size := 1) w #[] 0 (Nat.le_refl _) (by unfold maxLen; omega) rfl, fun x hx => by simp at hx⟩
  obtain ⟨i0, hi0, hz0, hz1, hz2⟩ := info_parts Try.infoS
  go_enter Try.func103, Try.ntmps103
  go_wp2_with fail
  refine (one_lit_at (w.heap.size + 1) r P [4, 6, 3, 8, 2, 0, 12, 41] (w.alloc (.cells #[] 9)) (by simp) (h.below hb0) (by omega) (by decide) (by decide) rfl rfl).mono ?_
  rintro e w1 ⟨n, hn, rfl, hr1, hk1⟩
  have hn8 : 0 ≤ n ∧ n ≤ 41 := by simp at hn; omega
  obtain ⟨q0, rfl⟩ := Int.eq_ofNat_of_zero_le hn8.1
  have hk1' := RK.trans (RK.of_below hb0) hk1
  have hlit1 := hlit.keeps hrlt hk1
  clear hn hlit hk1
  go_wp2
  go_loopw [3, 4] (fun x i wr => ∃ (ts : List ByteArray) (q : Nat), i = .int .i64 q ∧ ts.length + q ≤ 41 ∧ OwnT wr w.heap.size x ts ∧ Reader wr r (P + 1 + (41 - q)) ∧ Keeps (RK r w) w wr) (fun _ i _ => (intOf i).toNat)
  case atStart => exact ⟨[], q0, rfl, by simp; omega, hlit1, hr1.mono (by omega), hk1'⟩
  case round =>
    clear hlit1 hr1 hk1' h
    obtain ⟨ts, q, rfl, hq8, hown, hr, hk⟩ := hrel
    obtain ⟨xo, xcap, rfl, _, _⟩ := own_slice hown.1
    by_cases hq : 0 < q
    · go_wp2_with fail
      refine (of_lit r _ [⟨#[97]⟩, ⟨#[98]⟩, ⟨#[99]⟩, ⟨#[97]⟩, ⟨#[97, 98]⟩, ⟨#[100]⟩] wr hr (by omega) (by decide) (by decide) rfl rfl).mono ?_
      rintro e w2 ⟨s, hs, rfl, hr2, hk2⟩
      have hs2 := short_mem (by rfl) hs
      have hown2 := hown.keeps hrlt hk2
      have hkk2 := RK.trans hk hk2
      have hsz2 : w.heap.size ≤ w2.heap.size := hkk2.size
      clear hs hr hk2 hk hown
      go_wp2_with (at_builtin; refine wpList_append_own _ rfl _ _ 31 rfl w.heap.size 9 i0 (.string ⟨#[]⟩) 1 16 Try.underlying31 hi0 hz0 hz1 hz2 rfl (by decide) (.slice xo ts.length xcap) ts.length (cellsT ts) rfl (hown2.1.alloc _) ⟨w2.heap.size, 0, none⟩ 1 1 [.string s] rfl rfl (cell_one_new _ _ _) (by intro u hu; simp at hu; subst hu; rfl) (by unfold maxLen; omega) (by omega) (by simp; omega) ?_; intro v' w5 hown5 hgrow5 hnil5)
      have hrow5 : OwnT w5 w.heap.size v' (ts ++ [s]) := ⟨by
        have e1 : cellsT (ts ++ [s]) = cellsT ts ++ [.string s] := by simp [cellsT]
        rw [List.length_append, e1]; exact hown5, fun x hx => by
        rcases List.mem_append.1 hx with hx | hx
        · exact hown2.2 x hx
        · rw [List.mem_singleton.1 hx]; exact hs2⟩
      have hbb : Below w2.heap.size w2 (w2.alloc (.cells #[.string s] 9)) := (Below.refl _ _).alloc (Nat.le_refl _) _
      have hkk5 : Keeps (RK r w) w w5 := by
        refine (RK.alloc hkk2 _).trans ⟨hgrow5.os, hgrow5.tape, hgrow5.output, hgrow5.size, fun j hj => hgrow5.block j (by simp; have := hj.1; omega) (fun e => ?_)⟩
        have := (hown2.1.lt j e.symm).1
        have := hj.1
        omega
      have hr5 : Reader w5 r (P + 1 + (41 - q) + 1) := (hr2.below hbb).grown_to hgrow5 (fun j e => by have := (hown2.1.lt j e).1; omega)
      clear hown5 hgrow5 hnil5 hown2 hkk2 hr2 hbb
      go_roundw
      case rel => exact ⟨_, q - 1, by go_num, by rw [List.length_append]; simp; omega, hrow5, hr5.mono (by omega), hkk5⟩
      case measure => simp [intOf]; omega
    · obtain rfl : q = 0 := by omega
      by_cases hz : 0 < ts.length
      · have hcmp : (0 : Int) < (ts.length : Int) := by omega
        obtain ⟨g, cap', e, hgc, hgB⟩ := own_shape hown.1 hz
        simp only [Value.slice.injEq] at e
        obtain ⟨rfl, _, rfl⟩ := e
        go_wp2_with fail
        refine (pick_any r _ 24 wr hr (by omega) (by omega) (by omega)).mono ?_
        rintro e w3 ⟨c, rfl, hc, hr3, hk3⟩
        have hown3 := hown.keeps hrlt hk3
        have hkk3 := RK.trans hk hk3
        clear hown hk hk3 hr
        by_cases h0 : c = 0
        · subst h0
          go_wp2_with fail
          refine (pick_any r _ ts.length w3 hr3 (by omega) (by omega) (by omega)).mono ?_
          rintro e w4 ⟨k, rfl, hkl, hr4, hk4⟩
          have hlt : k < ts.length := by omega
          have hown4 := hown3.keeps hrlt hk4
          have hkk4 := RK.trans hkk3 hk4
          clear hown3 hkk3 hk4 hr3
          go_wp2_with fail
          refine (of_lit r _ [⟨#[]⟩, ⟨#[65]⟩, ⟨#[97, 98, 99, 100, 101]⟩] w4 hr4 (by omega) (by decide) (by decide) rfl rfl).mono ?_
          rintro e w5 ⟨s, hs, rfl, hr5, hk5⟩
          have hs2 := short_mem (by rfl) hs
          have hrow5 := (hown4.keeps hrlt hk5).1
          have hkk5 := RK.trans hkk4 hk5
          obtain ⟨u, c1⟩ := row_cell hrow5 (j := k) (by omega)
          have f1 := hrow5.frozenAt k
          have hst := (hrow5.stored k (.string s)).1
          have e1 : (cellsT ts).set k (.string s) = cellsT (ts.set k s) := by simp [cellsT, List.map_set]
          rw [e1] at hst
          clear hs e1
          go_wp2
          go_ret
          exact ⟨_, ts.set k s, rfl, by rw [List.length_set]; omega, ⟨by rw [List.length_set]; exact hst, okT_set hown4.2 k s hs2⟩, RK.set hkk5 hgB _⟩
        · have hb0 : ((c : Int) == 0) = false := by rw [beq_eq_false_iff_ne]; omega
          go_wp2
          go_ret
          exact ⟨_, ts, rfl, by omega, hown3, hkk3⟩
      · have hcmp : ¬ (0 : Int) < (ts.length : Int) := by omega
        go_wp2
        go_ret
        exact ⟨_, rfl, ts, by omega, hown, hk⟩

set_option maxHeartbeats 800000 in
theorem DrawCountTexts_any (v : Value) (bs : List Int) (w : World) (h : Bytes w v bs) :
    Calls Try.prog 69 #[v] w fun e w' => ∃ v' ts, e = .returned v' ∧ OwnT w' w.heap.size v' ts ∧ ts.length ≤ 41 ∧ Below w.heap.size w w' := by
  go_enter Try.func69, Try.ntmps69
  go_wp2_with fail
  refine (newReader_any v bs w h).mono ?_
  rintro e w1 ⟨r, rfl, hr, hR1, hb1⟩
  go_wp2_with fail
  refine (someTexts_any r 0 w1 hR1 (by omega)).mono ?_
  rintro e w2 ⟨v2, ts, rfl, hl, hown, hk2⟩
  have hB : Below w.heap.size w w2 := hb1.trans (Keeps.below hk2 (fun k hk => ⟨Nat.lt_of_lt_of_le hk hb1.size, by omega⟩))
  go_wp2
  go_ret
  exact ⟨v2, ts, rfl, hown.base hb1.size, hl, hB⟩

set_option maxHeartbeats 3200000 in
set_option maxRecDepth 100000 in
theorem FnCountTexts_walk (v : Value) (bs : List Int) (w : World) (h : Bytes w v bs) :
    Calls Try.prog 20 #[v] w fun e w' => e = .returned (.bool true) ∧ Below w.heap.size w w' := by
  have h0 := h
  obtain ⟨ao, cap, rfl, hl, hc, hok, hcell⟩ := h0
  clear hcell hok
  go_enter Try.func20, Try.ntmps20
  by_cases hbig : (1048576 : Int) < (bs.length : Int)
  · go_wp2
    go_ret
    exact ⟨rfl, Below.refl _ _⟩
  go_wp2_with fail
  refine (DrawCountTexts_any _ bs w h).mono ?_
  rintro e w1 ⟨v1, ts, rfl, hown, hlen, hb1⟩
  obtain ⟨ao1, cap1, rfl, _, _⟩ := own_slice hown.1
  have H1 := (Objs.nil w).new (o := textsO _ ts) hown hb1
  clear hown hb1 h
  obtain ⟨G, hG⟩ : ∃ G, Hid (G = if decide (ts.length ≤ 40) = true then chkI (sumL [] (oneI ts) 1) else []) := ⟨_, rfl⟩
  obtain ⟨K, hK⟩ : ∃ K, Hid (K = (decide (ts.length ≤ 40) && validI (sumL [] (oneI ts) 1))) := ⟨_, rfl⟩
  have cI := Lib.hid (fun (va : Value) (w : World) (h : Texts w va ts) => (show Calls Try.prog 35 #[va] w (NewI2 G K w) by rw [hG.out, hK.out]; exact CountTexts_any va ts w h))
  have cS := Lib.hid (fun (va : Value) (w : World) (h : Texts w va ts) => (show Calls Try.prog 33 #[va] w (NewI2 G K w) by rw [hG.out, hK.out]; exact sCountTexts_any va ts w h))
  go_wp2_with fail
  refine (cI.out _ w1 (H1.texts 0 rfl)).mono ?_
  rintro e w2 ⟨v2, rfl, ho, hb⟩
  have H2 := H1.newI ho hb
  clear ho hb H1
  go_wp2_with fail
  refine (cS.out _ w2 (H2.texts 1 rfl)).mono ?_
  rintro e w3 ⟨v3, rfl, ho, hb⟩
  have H3 := H2.newI ho hb
  clear ho hb H2
  go_wp2_with fail
  refine (equal_obj2 H3 1 0 rfl rfl).mono ?_
  rintro e w4 ⟨rfl, H4⟩
  clear H3
  cases K
  · go_wp2_with fail
    refine (equal_obj2 H4 1 0 rfl rfl).mono ?_
    rintro e w5 ⟨rfl, H5⟩
    go_wp2
    go_ret
    exact ⟨rfl, H5.below⟩
  · have hk := hK.out.symm
    rw [Bool.and_eq_true] at hk
    have hG' : G = sumL [] (oneI ts) 1 := by
      rw [hG.out, hk.1, if_pos rfl]
      unfold chkI
      rw [hk.2, if_pos rfl]
    have hp := texts_pos ts [] (fun x hx => by simp at hx)
    have hv : validI G = true := by rw [hG']; exact hk.2
    have hpos : posI G = G := by
      unfold posI
      rw [List.filter_eq_self]
      intro x hx
      rw [hG'] at hx
      exact decide_eq_true (hp.1 x hx)
    have hsum : sumI G = ts.length := by
      rw [hG']
      have := hp.2
      simp only [sumI, Int.zero_add] at this
      exact this
    have hel : (elsI G).length = ts.length := by
      have := els_sum G
      rw [hpos, hsum] at this
      omega
    have h40 : ts.length ≤ 40 := of_decide_eq_true hk.1
    obtain ⟨E, hE⟩ : ∃ E, Hid (E = elsI G) := ⟨_, rfl⟩
    have c1 := Lib.hid (fun (va : Value) (w : World) (h : Items w va G) => (show Calls Try.prog 63 #[va] w (NewT2 E true w) by
      have h1 := Elements_any va G w h
      rw [hv, hel, decide_eq_true h40, ← hE.out] at h1
      simpa using h1))
    have c2 := Lib.hid (fun (va : Value) (w : World) (h : Texts w va E) => (show Calls Try.prog 35 #[va] w (NewI2 G true w) by
      have h1 := CountTexts_any va E w h
      rw [hE.out, els_again hv, hpos, hel, decide_eq_true h40, hv] at h1
      have e1 : chkI G = G := by unfold chkI; rw [hv, if_pos rfl]
      rw [e1] at h1
      simpa using h1))
    have c3 := Lib.hid (fun (va : Value) (w : World) (h : Items w va G) => (show Calls Try.prog 61 #[va] w (fun e w' => e = .returned (.int .i64 (ts.length : Int)) ∧ Below w.heap.size w w') by
      have h1 := TotalCount_any va G w h
      rw [hv, if_pos rfl, sumL_one hv, hsum] at h1
      exact h1))
    have hlb : ((E.length : Int) == (ts.length : Int)) = true := by rw [hE.out, hel]; simp
    clear hk hG' hp hv hpos hsum hel h40
    go_wp2_with fail
    refine (c1.out v2 _ (H4.items 1 rfl)).mono ?_
    rintro e w5 ⟨v5, rfl, ho, hb⟩
    obtain ⟨ao5, cap5, rfl, _, _⟩ := own_slice ho.1
    have H5 := H4.newT ho hb
    clear ho hb H4
    go_wp2_with fail
    refine (c2.out _ _ (H5.texts 0 rfl)).mono ?_
    rintro e w6 ⟨v6, rfl, ho, hb⟩
    have H6 := H5.newI ho hb
    clear ho hb H5
    go_wp2_with fail
    refine (c3.out v2 _ (H6.items 3 rfl)).mono ?_
    rintro e w7 ⟨rfl, hb⟩
    have H7 := H6.quiet hb
    clear hb H6
    go_wp2_with fail
    refine (equal_obj2 H7 0 3 rfl rfl).mono ?_
    rintro e w8 ⟨rfl, H8⟩
    go_wp2
    go_ret
    exact ⟨rfl, H8.below⟩

set_option maxRecDepth 100000 in
theorem FnCountTexts_lifted (os : Os) (started : os.Started) (H : Type) (enc : TypeId × Value → H) :
    ReturnsInHanded {} Try.checked os 20 .any (Rows.fnCountTextsSpec.pre6 enc Try.prog Try.f20 Rows.fnCountTextsRow.domain false) (Rows.fnCountTextsSpec.post enc Try.prog Try.f20 false true false false) := by
  refine returnsInHanded_of_change (C := Try.checked) own started (by kernel_rfl) Try.func20
    (ChangeSpec.witness6 (enc := enc) (C := Try.checked) false ⟨#[], #[.slice none 0 0], []⟩ 8 (by kernel_rfl) (by kernel_rfl) (by kernel_rfl) (by kernel_rfl)) ?_
  intro W base args ds gs before hval0 hW _ _
  have hval : ∀ (j : Nat) t v, Try.f20.params[j]? = some t → args[j]? = some v → Value.okWide Try.prog W .any base t v := hval0
  have hW' := hW
  obtain ⟨p, q, hA0, hV, rfl, _, _⟩ := hW
  have hA : DataW.TrodAll enc Try.prog W 0 (fun _ => true) true Try.f20.params.toList args.toList ds p := hA0
  rw [Try.params20] at hA hval
  obtain ⟨v0, vs0, d0, ds0, p0, q0, hargs, rfl, rfl, h0, r0⟩ := trodAll_cons hA
  obtain ⟨rfl, rfl, rfl⟩ := trodAll_nil r0
  obtain rfl : args = #[v0] := by cases args; simp_all
  obtain ⟨rfl, rfl⟩ := trodVars_none hV
  obtain ⟨xs0, hI0⟩ := open_bytes (hval 0 _ v0 rfl rfl) h0
  refine (FnCountTexts_walk v0 xs0 W hI0).mono fun e W' ⟨he, hb⟩ => ⟨_, he, ?_⟩
  exact law_end rfl (by rw [Try.params20]; decide +kernel) rfl hW' rfl rfl rfl hb

theorem FnCountTexts_facts : joinedFacts Try.prog 20 Try.f20 Rows.fnCountTextsSpec Rows.fnCountTextsRow = true :=
  facts_of (by kernel_rfl) q2 q3 (by kernel_rfl) (by kernel_rfl) (by kernel_rfl) q7 (by kernel_rfl) q9 (by kernel_rfl) (by kernel_rfl) (by kernel_rfl) (by kernel_rfl) (by kernel_rfl) (by kernel_rfl) (by kernel_rfl) (by kernel_rfl) (by kernel_rfl) (by kernel_rfl) (by kernel_rfl) (by kernel_rfl) (by kernel_rfl)
    (by rw [q22]; kernel_rfl) (by kernel_rfl) q23 head_enter (by kernel_rfl) head_lifts head_make (by kernel_rfl) (by kernel_rfl) (by kernel_rfl) (by kernel_rfl) (by kernel_rfl)

theorem FnCountTexts_holds : Rows.FnCountTextsSaid :=
  OpenClaim.holds_of_wide 20 Try.f20 rfl rfl rfl rfl rfl rfl rfl ⟨rfl, rfl, rfl, rfl, rfl⟩ rfl rfl rfl rfl rfl (by kernel_rfl) Try.func20 FnCountTexts_facts
    (of_decide_eq_true (by kernel_rfl)) (by unfold Func.isWrapper; first | (rw [if_pos (by decide +kernel)]; kernel_rfl) | (rw [if_neg (by decide +kernel)]; exact ⟨rfl, rfl⟩))
    (fun os started H enc _ => FnCountTexts_lifted os started H enc)
end Go.Proofs.Ytbiflkekhabpoaa
