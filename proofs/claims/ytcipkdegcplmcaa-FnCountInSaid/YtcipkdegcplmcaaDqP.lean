/-
  A number pushed, two deques added: by the model and by the program.
-/
import Derived.Test.YtcipkdegcplmcaaDqE
namespace Go.Proofs.Ytcipkdegcplmcaa
open Go.RowKit Go.Deep

theorem newD_of {w w' : World} {v : Value} {xs : List Int} {m : Int} {b : Bool} (ho : OwnN w.heap.size w'.heap.size w' v xs) (h : Below w.heap.size w w') : NewD xs m b w (.returned (okD v m b)) w' := ⟨_, rfl, ho, h⟩
theorem ad_no {a b : Bool} {xs : List Int} {m : Int} {w w' : World} (ha : Hid (a = false)) (h : Below w.heap.size w w') : NewD (ifN (a && b) xs) (ifI (a && b) m) (a && b) w (.returned (okD (.slice none 0 0) 0 false)) w' := newD_no (and_no1 ha) h
theorem ad_yes {a b : Bool} {xs : List Int} {m : Int} {w : World} {e : Ending} {w' : World} (ha : Hid (a = true)) (h : NewD (ifN b xs) (ifI b m) b w e w') : NewD (ifN (a && b) xs) (ifI (a && b) m) (a && b) w e w' := by rw [ha.out, Bool.true_and]; exact h
def adB (xs ys : List Int) (m q : Int) : Bool := validD ys q && extB xs ys m
theorem ad_le (xs ys : List Int) (m q : Int) : (ifN (adB xs ys m q) (extL xs ys m)).length ≤ 10000000 := ifN_le fun h => by
  unfold adB extB at h
  rw [Bool.and_eq_true, Bool.and_eq_true] at h
  exact validD_len h.2.2

/-- Two arguments' boxes and the result's. -/
structure DFrame3 (W0 W : World) (v : Value) (m : Int) (u : Value) (q : Int) : Prop where
  arg : W.heap[W0.heap.size]? = some (.cells #[v, .int .i64 m] 25 (0, 0))
  arg2 : W.heap[W0.heap.size + 1]? = some (.cells #[u, .int .i64 q] 25 (0, 0))
  res : W.heap[W0.heap.size + 1 + 1]? = some (.cells #[.slice none 0 0, .int .i64 0] 25 (0, 0))
  below : Below W0.heap.size W0 W
theorem DFrame3.new (w : World) (v : Value) (m : Int) (u : Value) (q : Int) : DFrame3 w (((w.alloc (.cells #[v, .int .i64 m] 25)).alloc (.cells #[u, .int .i64 q] 25)).alloc (.cells #[.slice none 0 0, .int .i64 0] 25)) v m u q :=
  ⟨heap_old (heap_old (heap_new w _) _) _, heap_old (heap_at _ _ (by simp)) _, heap_at _ _ (by simp), (((Below.refl _ _).alloc (Nat.le_refl _) _).alloc (by simp) _).alloc (by simp <;> omega) _⟩
section
variable {W0 W : World} {v u : Value} {m q : Int}
theorem DFrame3.size (D : DFrame3 W0 W v m u q) : W0.heap.size + 3 ≤ W.heap.size := by
  have := (Array.getElem?_eq_some_iff.1 D.res).1
  omega
theorem DFrame3.step (D : DFrame3 W0 W v m u q) {W' : World} (hb : Below W.heap.size W W') : DFrame3 W0 W' v m u q := by
  have hs := D.size
  exact ⟨(hb.block _ (by omega)).trans D.arg, (hb.block _ (by omega)).trans D.arg2, (hb.block _ (by omega)).trans D.res, D.below.trans (hb.mono (by omega))⟩
theorem DFrame3.nums (D : DFrame3 W0 W v m u q) {z : Value} {xs : List Int} (h : Nums W0 z xs) : Nums W z xs := h.mono D.below (Nat.le_refl _)
theorem DFrame3.done (D : DFrame3 W0 W v m u q) (a b : Value) : Below W0.heap.size W0 ((W.setCell ⟨W0.heap.size + 1 + 1, 0, none⟩ a).setCell ⟨W0.heap.size + 1 + 1, 1, none⟩ b) := (D.below.setCell (by simp <;> omega) _).setCell (by simp <;> omega) _
theorem DFrame3.own (_D : DFrame3 W0 W v m u q) {lo : Nat} {z : Value} {xs : List Int} (h : OwnN lo W.heap.size W z xs) (hlo : W0.heap.size + 3 ≤ lo) (a b : Value) :
    OwnN W0.heap.size ((W.setCell ⟨W0.heap.size + 1 + 1, 0, none⟩ a).setCell ⟨W0.heap.size + 1 + 1, 1, none⟩ b).heap.size ((W.setCell ⟨W0.heap.size + 1 + 1, 0, none⟩ a).setCell ⟨W0.heap.size + 1 + 1, 1, none⟩ b) z xs :=
  (h.keeps (((Keeps.refl _ _).setCell (by simp [In]; omega) _).setCell (by simp [In]; omega) _)).wide (by omega) (by simp)
end
set_option maxHeartbeats 1600000 in
set_option maxRecDepth 100000 in
theorem sAddDeques_gen (v u : Value) (xs ys : List Int) (m q : Int) (w : World) (h : Nums w v xs) (h' : Nums w u ys) (L : List Int) (N : Int) (B : Bool)
    (HE : validD ys q = true → ∀ v u w, Nums w v xs → Nums w u ys → Calls Try.prog 15 #[.agg #[v, .int .i64 m], u] w (NewD L N B w))
    (HN : validD ys q = false → L = [] ∧ N = 0 ∧ B = false) :
    Calls Try.prog 42 #[.agg #[v, .int .i64 m], .agg #[u, .int .i64 q]] w (NewD L N B w) := by
  have HX := Lib.hid h
  have HY := Lib.hid h'
  have HEE := Lib.hid HE
  have HNN := Lib.hid HN
  obtain ⟨ao, cap, rfl, _, _⟩ := h.slice
  obtain ⟨bo, bap, rfl, _, _⟩ := h'.slice
  clear h h' HE HN
  go_enter Try.func42, Try.ntmps42
  have D := DFrame3.new w (.slice ao xs.length cap) m (.slice bo ys.length bap) q
  have c0 := two_cell0 D.arg
  have c1 := two_cell1 D.arg
  have d0 := two_cell0 D.arg2
  have d1 := two_cell1 D.arg2
  cases hv : validD ys q
  all_goals
    have HV := Lib.hid hv
    clear hv
    go_wp2_with fail
    refine (svD_v _ (D.nums HY.out) HV.out).mono ?_
    rintro e w1 ⟨rfl, hb⟩
    have D1 := D.step hb
    clear hb c0 c1 d0 d1
    have c0 := two_cell0 D1.arg
    have c1 := two_cell1 D1.arg
    have d0 := two_cell0 D1.arg2
  · obtain ⟨h1, h2, h3⟩ := HNN.out HV.out
    have r0 := two_cell0 D1.res
    have r1 := two_cell1 D1.res
    have f0 := two_free D1.res 0
    have f1 := two_free D1.res 1
    subst h1 h2 h3
    go_wp2
    exact bodyPost_ret (v := okD (.slice none 0 0) 0 false) (by simp [okD, results, Try.results42, go_sem, r0, r1]) rfl (newD_of (OwnN.none (by omega)) (D1.done _ _))
  · have hsz := D1.size
    go_wp2_with fail
    refine (HEE.out HV.out _ _ _ (D1.nums HX.out) (D1.nums HY.out)).mono ?_
    rintro e w2 ⟨v2, rfl, ho, hb⟩
    have D2 := D1.step hb
    obtain ⟨xo, xcap, rfl, _, _⟩ := ho.nums.slice
    have HO := Lib.hid ho
    clear ho hb c0 c1 d0
    have r0 := two_cell0 D2.res
    have r1 := two_cell1 D2.res
    have f0 := two_free D2.res 0
    have f1 := two_free D2.res 1
    go_wp2
    exact bodyPost_ret (v := okD (.slice xo L.length xcap) N B) (by simp [okD, results, Try.results42, go_sem, r0, r1]) rfl (newD_of (D2.own HO.out hsz _ _) (D2.done _ _))
theorem sAddDeques_any (v u : Value) (xs ys : List Int) (m q : Int) (w : World) (h : Nums w v xs) (h' : Nums w u ys) :
    Calls Try.prog 42 #[.agg #[v, .int .i64 m], .agg #[u, .int .i64 q]] w (NewD (ifN (adB xs ys m q) (extL xs ys m)) (ifI (adB xs ys m q) m) (adB xs ys m q) w) :=
  sAddDeques_gen v u xs ys m q w h h' _ _ _ (fun hv v u w h h' => by unfold adB; rw [hv, Bool.true_and]; exact sExtendBack_any v u xs ys m w h h') (fun hv => by unfold adB; rw [hv]; exact ⟨rfl, rfl, rfl⟩)

set_option maxHeartbeats 800000 in
set_option maxRecDepth 100000 in
theorem PushBack_gen (v : Value) (xs : List Int) (m x : Int) (w : World) (h : Nums w v xs) (hx : -9223372036854775808 ≤ x ∧ x ≤ 9223372036854775807) (L : List Int) (N : Int) (B : Bool)
    (HE : ∀ v u w, Nums w v xs → Nums w u [x] → Calls Try.prog 14 #[.agg #[v, .int .i64 m], u] w (NewD L N B w)) :
    Calls Try.prog 17 #[.agg #[v, .int .i64 m], .int .i64 x] w (NewD L N B w) := by
  have HX := Lib.hid h
  have HEE := Lib.hid HE
  obtain ⟨ao, cap, rfl, _, _⟩ := h.slice
  clear h HE
  go_enter Try.func17, Try.ntmps17
  have D := DFrame.new w (.slice ao xs.length cap) m
  have c0 := D.c0
  have c1 := D.c1
  have D1 := D.step ((Below.refl _ _).alloc (Nat.le_refl _) (.cells #[.int .i64 x] 3))
  have hn := Nums_one ((w.alloc (.cells #[.slice ao xs.length cap, .int .i64 m] 25)).alloc (.cells #[.slice none 0 0, .int .i64 0] 25)) x 3 hx
  rw [show ((w.alloc (.cells #[.slice ao xs.length cap, .int .i64 m] 25)).alloc (.cells #[.slice none 0 0, .int .i64 0] 25)).heap.size = w.heap.size + 1 + 1 by simp] at hn
  have HN := Lib.hid hn
  clear hn
  go_wp2_with fail
  refine (HEE.out _ _ _ (D1.nums HX.out) HN.out).mono ?_
  rintro e w2 ⟨v2, rfl, ho, hb⟩
  have D2 := D1.step hb
  obtain ⟨xo, xcap, rfl, _, _⟩ := ho.nums.slice
  have HO := Lib.hid ho
  have hsz := D1.size
  clear ho hb c0 c1
  have r0 := D2.r0
  have r1 := D2.r1
  have f0 := D2.free 0
  have f1 := D2.free 1
  go_wp2
  exact bodyPost_ret (v := okD (.slice xo L.length xcap) N B) (by simp [okD, results, Try.results17, go_sem, r0, r1]) rfl (newD_of (D2.own HO.out hsz _ _) (D2.done _ _))
theorem PushBack_any (v : Value) (xs : List Int) (m x : Int) (w : World) (h : Nums w v xs) (hx : -9223372036854775808 ≤ x ∧ x ≤ 9223372036854775807) :
    Calls Try.prog 17 #[.agg #[v, .int .i64 m], .int .i64 x] w (NewD (ifN (extB xs [x] m) (extL xs [x] m)) (ifI (extB xs [x] m) m) (extB xs [x] m) w) :=
  PushBack_gen v xs m x w h hx _ _ _ (fun v u w h h' => ExtendBack_any v u xs [x] m w h h')

set_option maxHeartbeats 800000 in
set_option maxRecDepth 100000 in
theorem PushFront_gen (v : Value) (xs : List Int) (m x : Int) (w : World) (h : Nums w v xs) (hx : -9223372036854775808 ≤ x ∧ x ≤ 9223372036854775807) (L : List Int) (N : Int) (B : Bool)
    (HE : ∀ v u w, Nums w v xs → Nums w u [x] → Calls Try.prog 20 #[.agg #[v, .int .i64 m], u] w (NewD L N B w)) :
    Calls Try.prog 33 #[.agg #[v, .int .i64 m], .int .i64 x] w (NewD L N B w) := by
  have HX := Lib.hid h
  have HEE := Lib.hid HE
  obtain ⟨ao, cap, rfl, _, _⟩ := h.slice
  clear h HE
  go_enter Try.func33, Try.ntmps33
  have D := DFrame.new w (.slice ao xs.length cap) m
  have c0 := D.c0
  have c1 := D.c1
  have D1 := D.step ((Below.refl _ _).alloc (Nat.le_refl _) (.cells #[.int .i64 x] 3))
  have hn := Nums_one ((w.alloc (.cells #[.slice ao xs.length cap, .int .i64 m] 25)).alloc (.cells #[.slice none 0 0, .int .i64 0] 25)) x 3 hx
  rw [show ((w.alloc (.cells #[.slice ao xs.length cap, .int .i64 m] 25)).alloc (.cells #[.slice none 0 0, .int .i64 0] 25)).heap.size = w.heap.size + 1 + 1 by simp] at hn
  have HN := Lib.hid hn
  clear hn
  go_wp2_with fail
  refine (HEE.out _ _ _ (D1.nums HX.out) HN.out).mono ?_
  rintro e w2 ⟨v2, rfl, ho, hb⟩
  have D2 := D1.step hb
  obtain ⟨xo, xcap, rfl, _, _⟩ := ho.nums.slice
  have HO := Lib.hid ho
  have hsz := D1.size
  clear ho hb c0 c1
  have r0 := D2.r0
  have r1 := D2.r1
  have f0 := D2.free 0
  have f1 := D2.free 1
  go_wp2
  exact bodyPost_ret (v := okD (.slice xo L.length xcap) N B) (by simp [okD, results, Try.results33, go_sem, r0, r1]) rfl (newD_of (D2.own HO.out hsz _ _) (D2.done _ _))
theorem PushFront_any (v : Value) (xs : List Int) (m x : Int) (w : World) (h : Nums w v xs) (hx : -9223372036854775808 ≤ x ∧ x ≤ 9223372036854775807) :
    Calls Try.prog 33 #[.agg #[v, .int .i64 m], .int .i64 x] w (NewD (ifN (exfB xs [x] m) (exfL xs [x] m)) (ifI (exfB xs [x] m) m) (exfB xs [x] m) w) :=
  PushFront_gen v xs m x w h hx _ _ _ (fun v u w h h' => ExtendFront_any v u xs [x] m w h h')

set_option maxHeartbeats 1600000 in
set_option maxRecDepth 100000 in
theorem AddDeques_gen (v u : Value) (xs ys : List Int) (m q : Int) (w : World) (h : Nums w v xs) (h' : Nums w u ys) (L : List Int) (N : Int) (B : Bool)
    (HE : validD ys q = true → ∀ v u w, Nums w v xs → Nums w u ys → Calls Try.prog 14 #[.agg #[v, .int .i64 m], u] w (NewD L N B w))
    (HN : validD ys q = false → L = [] ∧ N = 0 ∧ B = false) :
    Calls Try.prog 41 #[.agg #[v, .int .i64 m], .agg #[u, .int .i64 q]] w (NewD L N B w) := by
  have HX := Lib.hid h
  have HY := Lib.hid h'
  have HEE := Lib.hid HE
  have HNN := Lib.hid HN
  obtain ⟨ao, cap, rfl, _, _⟩ := h.slice
  obtain ⟨bo, bap, rfl, _, _⟩ := h'.slice
  clear h h' HE HN
  go_enter Try.func41, Try.ntmps41
  have D := DFrame3.new w (.slice ao xs.length cap) m (.slice bo ys.length bap) q
  have c0 := two_cell0 D.arg
  have c1 := two_cell1 D.arg
  have d0 := two_cell0 D.arg2
  have d1 := two_cell1 D.arg2
  cases hv : validD ys q
  all_goals
    have HV := Lib.hid hv
    clear hv
    go_wp2_with fail
    refine (VD_v _ (D.nums HY.out) HV.out).mono ?_
    rintro e w1 ⟨rfl, hb⟩
    have D1 := D.step hb
    clear hb c0 c1 d0 d1
    have c0 := two_cell0 D1.arg
    have c1 := two_cell1 D1.arg
    have d0 := two_cell0 D1.arg2
  · obtain ⟨h1, h2, h3⟩ := HNN.out HV.out
    have r0 := two_cell0 D1.res
    have r1 := two_cell1 D1.res
    have f0 := two_free D1.res 0
    have f1 := two_free D1.res 1
    subst h1 h2 h3
    go_wp2
    exact bodyPost_ret (v := okD (.slice none 0 0) 0 false) (by simp [okD, results, Try.results41, go_sem, r0, r1]) rfl (newD_of (OwnN.none (by omega)) (D1.done _ _))
  · have hsz := D1.size
    go_wp2_with fail
    refine (HEE.out HV.out _ _ _ (D1.nums HX.out) (D1.nums HY.out)).mono ?_
    rintro e w2 ⟨v2, rfl, ho, hb⟩
    have D2 := D1.step hb
    obtain ⟨xo, xcap, rfl, _, _⟩ := ho.nums.slice
    have HO := Lib.hid ho
    clear ho hb c0 c1 d0
    have r0 := two_cell0 D2.res
    have r1 := two_cell1 D2.res
    have f0 := two_free D2.res 0
    have f1 := two_free D2.res 1
    go_wp2
    exact bodyPost_ret (v := okD (.slice xo L.length xcap) N B) (by simp [okD, results, Try.results41, go_sem, r0, r1]) rfl (newD_of (D2.own HO.out hsz _ _) (D2.done _ _))
theorem AddDeques_any (v u : Value) (xs ys : List Int) (m q : Int) (w : World) (h : Nums w v xs) (h' : Nums w u ys) :
    Calls Try.prog 41 #[.agg #[v, .int .i64 m], .agg #[u, .int .i64 q]] w (NewD (ifN (adB xs ys m q) (extL xs ys m)) (ifI (adB xs ys m q) m) (adB xs ys m q) w) :=
  AddDeques_gen v u xs ys m q w h h' _ _ _ (fun hv v u w h h' => by unfold adB; rw [hv, Bool.true_and]; exact ExtendBack_any v u xs ys m w h h') (fun hv => by unfold adB; rw [hv]; exact ⟨rfl, rfl, rfl⟩)
end Go.Proofs.Ytcipkdegcplmcaa
