/-
  The program's row: a limit, numbers put ahead, what it holds.
-/
import Derived.Test.YtcipkdegcplmcaaRow2
namespace Go.Proofs.Ytcipkdegcplmcaa
open Go.RowKit Go.Deep

def keepL (f e : Nat) (m : Int) : Nat := if m = -1 then f else max f (e - m.toNat)
def keepF (f e : Nat) (m : Int) : Nat := if m = -1 then e else min e (f + m.toNat)
theorem RowD.putFirst {w : World} {g : Nat} {cs : List Int} {f e q : Nat} {v : Int} (h : RowD w g cs f e) (hv : v = q) : RowD (w.setCell ⟨g, 30, none⟩ (.int .i64 v)) g cs q e := by rw [hv]; exact h.setFirst q
theorem RowD.putEnd {w : World} {g : Nat} {cs : List Int} {f e q : Nat} {v : Int} (h : RowD w g cs f e) (hv : v = q) : RowD (w.setCell ⟨g, 31, none⟩ (.int .i64 v)) g cs f q := by rw [hv]; exact h.setEnd q

set_option maxHeartbeats 1600000 in
set_option maxRecDepth 100000 in
theorem keepLast_any {g : Nat} {cs : List Int} {f e : Nat} (m : Int) (w : World) (h : RowD w g cs f e) (hf : f ≤ e) (he : e ≤ 30) (h1 : -1 ≤ m) (h2 : m ≤ 10) :
    Calls Try.prog 58 #[.pointer (some ⟨g, 0, none⟩), .int .i64 m] w fun r w' => r = .returned (.tuple #[]) ∧ RowD w' g cs (keepL f e m) e ∧ Below g w w' := by
  have H := Lib.hid h
  have c30 := h.first
  have c31 := h.end_
  have f30 := h.free 30
  clear h
  go_enter Try.func58, Try.ntmps58
  by_cases hm : m = -1
  · subst hm
    go_wp2
    go_end0
    exact ⟨rfl, H.out, Below.refl _ _⟩
  · obtain ⟨n, rfl⟩ : ∃ n : Nat, m = n := ⟨m.toNat, by omega⟩
    have HK : Hid (keepL f e n = max f (e - n)) := by show _ = _; unfold keepL; rw [if_neg (by omega), Int.toNat_natCast]
    go_wp2_with fail
    go_region
    all_goals go_wp2
    all_goals go_end0
    all_goals rw [HK.out]
    all_goals exact ⟨rfl, H.out.putFirst (by omega), ((Below.refl g w).setCell (Nat.le_refl g) _).drew⟩

set_option maxHeartbeats 1600000 in
set_option maxRecDepth 100000 in
theorem keepFirst_any {g : Nat} {cs : List Int} {f e : Nat} (m : Int) (w : World) (h : RowD w g cs f e) (hf : f ≤ e) (he : e ≤ 30) (h1 : -1 ≤ m) (h2 : m ≤ 10) :
    Calls Try.prog 67 #[.pointer (some ⟨g, 0, none⟩), .int .i64 m] w fun r w' => r = .returned (.tuple #[]) ∧ RowD w' g cs f (keepF f e m) ∧ Below g w w' := by
  have H := Lib.hid h
  have c30 := h.first
  have c31 := h.end_
  have f31 := h.free 31
  clear h
  go_enter Try.func67, Try.ntmps67
  by_cases hm : m = -1
  · subst hm
    go_wp2
    go_end0
    exact ⟨rfl, H.out, Below.refl _ _⟩
  · obtain ⟨n, rfl⟩ : ∃ n : Nat, m = n := ⟨m.toNat, by omega⟩
    have HK : Hid (keepF f e n = min e (f + n)) := by show _ = _; unfold keepF; rw [if_neg (by omega), Int.toNat_natCast]
    go_wp2_with fail
    go_region
    all_goals go_wp2
    all_goals go_end0
    all_goals rw [HK.out]
    all_goals exact ⟨rfl, H.out.putEnd (by omega), ((Below.refl g w).setCell (Nat.le_refl g) _).drew⟩

/-! ### numbers put ahead -/
def frontN (cs : List Int) (f : Nat) (xs : List Int) : List Int := cs.take (f - xs.length) ++ (xs.reverse ++ cs.drop f)
theorem frontN_nil (cs : List Int) (f : Nat) : frontN cs f [] = cs := by simp [frontN]
theorem frontN_step {cs xs : List Int} {f k : Nat} (hk : k < xs.length) (hf : k < f) (hc : f ≤ cs.length) : (frontN cs f (xs.take k)).set (f - (k + 1)) xs[k] = frontN cs f (xs.take (k + 1)) := by
  unfold frontN
  have h1 : (xs.take k).length = k := by simp; omega
  have h2 : (xs.take (k + 1)).length = k + 1 := by simp; omega
  rw [h1, h2, show f - k = (f - (k + 1)) + 1 by omega, List.take_succ_eq_append_getElem (l := cs) (by omega), List.append_assoc, List.set_append_right _ _ (by simp; omega)]
  rw [show f - (k + 1) - (cs.take (f - (k + 1))).length = 0 by simp; omega, List.singleton_append, List.set_cons_zero, List.take_succ_eq_append_getElem hk, List.reverse_append]
  rfl

set_option maxHeartbeats 1600000 in
set_option maxRecDepth 100000 in
theorem extendFront_any {g : Nat} {cs : List Int} {f e : Nat} (v : Value) (xs : List Int) (w : World) (h : RowD w g cs f e) (hx : Nums w v xs) (hK : InK (· < g) v) (hl : xs.length ≤ f) (hf : f ≤ 30) :
    Calls Try.prog 66 #[.pointer (some ⟨g, 0, none⟩), v] w fun r w' => r = .returned (.tuple #[]) ∧ RowD w' g (frontN cs f xs) (f - xs.length) e ∧ Below g w w' := by
  obtain ⟨ao, cap, rfl, hlc, hcm, hok, hcell⟩ := hx
  have hc30 := Lib.hid h.1
  have H := Lib.hid h
  clear h
  go_enter Try.func66, Try.ntmps66
  go_wp2
  go_loopw [8] (fun i wr => ∃ k p : Nat, k ≤ xs.length ∧ i = .int .i64 k ∧ p + k = f ∧ Hid (RowD wr g (frontN cs f (xs.take k)) p e) ∧ Below g w wr) (fun i _ => xs.length - (intOf i).toNat)
  case atStart => exact ⟨0, f, Nat.zero_le _, rfl, rfl, by show RowD _ _ _ _ _; rw [List.take_zero, frontN_nil]; exact H.out, Below.refl _ _⟩
  case round =>
    obtain ⟨k, p, hk, rfl, hp, HR, hbl⟩ := hrel
    have HP := Lib.hid hp
    clear hp
    by_cases hlt : k < xs.length
    · obtain ⟨b, o, rfl, hb, h1⟩ := hcell k hlt
      have hbg : b < g := hK ⟨b, o, none⟩ _ _ rfl (by omega)
      have c1 := (hbl.cell (p := ⟨b, _, none⟩) hbg).trans h1
      obtain ⟨q, rfl⟩ : ∃ q, p = q + 1 := ⟨p - 1, by have := HP.out; omega⟩
      have hq30 : q < 30 := by have := HP.out; omega
      have c30 := HR.out.first
      have f30 := HR.out.free 30
      clear h1
      go_wp2_with fail
      have HR1 : Hid (RowD (wr.setCell ⟨g, 30, none⟩ (.int .i64 (q : Int))) g (frontN cs f (xs.take k)) q e) := HR.out.setFirst q
      have h2 := HR1.out.set hq30 xs[k]
      have e2 := frontN_step (cs := cs) (f := f) hlt (by have := HP.out; omega) (by rw [hc30.out]; exact hf)
      rw [show f - (k + 1) = q by have := HP.out; omega] at e2
      rw [e2] at h2
      have HR2 := Lib.hid h2
      have d30 := HR1.out.first
      have dq := HR1.out.cell hq30
      have fq := HR1.out.free q
      clear c30 f30 h2 e2
      go_region
      all_goals go_wp2
      all_goals go_roundw
      case rel => exact ⟨k + 1, q, by omega, by go_num, by have := HP.out; omega, HR2.out, ((hbl.setCell (Nat.le_refl g) _).setCell (Nat.le_refl g) _).drew⟩
      case measure => simp [intOf]; omega
    · obtain rfl : k = xs.length := by omega
      go_wp2
      go_end0
      have h2 := HR.out
      rw [List.take_length] at h2
      exact ⟨rfl, by rw [show f - xs.length = p by have := HP.out; omega]; exact h2, hbl⟩

/-! ### what the row holds -/
def itemsR (cs : List Int) (f e : Nat) : List Int := (cs.take e).drop f
theorem itemsR_length {cs : List Int} {f e : Nat} (h : cs.length = 30) (he : e ≤ 30) : (itemsR cs f e).length = e - f := by
  unfold itemsR
  simp
  omega
set_option maxHeartbeats 1600000 in
set_option maxRecDepth 100000 in
theorem deque_any {g : Nat} {cs : List Int} {f e : Nat} (m : Int) (w : World) (h : RowD w g cs f e) (hok : okN cs) (hfe : f ≤ e) (he : e ≤ 30) :
    Calls Try.prog 60 #[.pointer (some ⟨g, 0, none⟩), .int .i64 m] w (NewN (fun v => .agg #[v, .int .i64 m]) (itemsR cs f e) w) := by
  have HR : Hid (RowD (w.alloc (.cells #[.slice none 0 0, .int .i64 0] 25)).drew g cs f e) := h.below (((Below.refl w.heap.size w).alloc (Nat.le_refl _) _).drew) h.lt
  have HB0 : Hid (Below w.heap.size w (w.alloc (.cells #[.slice none 0 0, .int .i64 0] 25)).drew) := ((Below.refl _ _).alloc (Nat.le_refl _) _).drew
  have G0 : (w.alloc (.cells #[.slice none 0 0, .int .i64 0] 25)).drew.heap[w.heap.size]? = some (.cells #[.slice none 0 0, .int .i64 0] 25 (0, 0)) := heap_new w _
  have c30 : (w.alloc (.cells #[.slice none 0 0, .int .i64 0] 25)).cell? ⟨g, 30, none⟩ = _ := HR.out.first
  have c31 : (w.alloc (.cells #[.slice none 0 0, .int .i64 0] 25)).cell? ⟨g, 31, none⟩ = _ := HR.out.end_
  obtain ⟨X, hX⟩ : ∃ X, X = (cs.take e).drop f := ⟨_, rfl⟩
  have hi : itemsR cs f e = X := hX.symm
  rw [hi]
  have HP := part_any f e _ HR.out hok hfe he
  rw [← hX] at HP
  have HPH := Lib.hid HP
  clear h hX hi HP
  go_enter Try.func60, Try.ntmps60
  go_wp2_with fail
  go_region_with (refine HPH.out.mono ?_; rintro r w1 ⟨v', rfl, ho, hb⟩; have G1 := two_below G0 hb (by simp); have q0 := two_cell0 G1; have q1 := two_cell1 G1; have fr0 := two_free G1 0; have fr1 := two_free G1 1; obtain ⟨xo, xcap, rfl, _, _⟩ := ho.nums.slice; have HO := Lib.hid ho; have HB := Lib.hid hb; clear ho hb G1)
  all_goals go_wp2
  all_goals exact bodyPost_ret (v := .agg #[.slice xo X.length xcap, .int .i64 m]) (by simp [results, Try.results60, go_sem, q0, q1]) rfl ⟨_, rfl, by
    have h2 := HO.out.keeps (w' := (w1.setCell ⟨w.heap.size, 0, none⟩ (.slice xo X.length xcap)).setCell ⟨w.heap.size, 1, none⟩ (.int .i64 m)) (((Keeps.refl _ _).setCell (by simp [In]; try omega) _).setCell (by simp [In]; try omega) _)
    exact h2.wide (by simp) (by simp), ((HB0.out.trans (HB.out.mono (by simp))).setCell (Nat.le_refl w.heap.size) _).setCell (Nat.le_refl w.heap.size) _⟩
end Go.Proofs.Ytcipkdegcplmcaa
