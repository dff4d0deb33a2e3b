/-
  Row2, Row3, RowP, DqS2, DqW, DqT, DqE, DqP.
-/
import Derived.Deep.RegionLaw
import Derived.Test.YtoglgeinnocfjaaP10
import Derived.Test.YtoglgeinnocfjaaP12
/-
  The program's row: numbers put behind, numbers put ahead, a limit.
-/
namespace Go.Proofs.Ytoglgeinnocfjaa
open Go.RowKit Go.Deep

theorem cellsN_splice (cs xs : List Int) (o : Nat) : cellsN (splice cs o xs) = splice (cellsN cs) o (cellsN xs) := by
  simp [cellsN, splice]
theorem rowCells_splice {cs xs : List Int} {f e : Nat} (hc : cs.length = 30) (h : e + xs.length ≤ 30) : splice (rowCells cs f e) e (cellsN xs) = rowCells (splice cs e xs) f e := by
  unfold rowCells
  rw [cellsN_splice]
  unfold splice
  have h1 : (cellsN cs).length = 30 := by rw [cellsN_length, hc]
  have h2 : (cellsN xs).length = xs.length := cellsN_length xs
  rw [List.take_append_of_le_length (by omega), List.drop_append_of_le_length (by omega)]
  simp [List.append_assoc]
theorem RowD.spliced {w : World} {g : Nat} {cs xs : List Int} {f e : Nat} (hc : cs.length = 30) (h : e + xs.length ≤ 30) (hg : Hid (w.heap[g]? = some (.cells (splice (rowCells cs f e) e (cellsN xs)).toArray 121 (0, 0)))) : RowD w g (splice cs e xs) f e := by
  refine ⟨by rw [length_splice _ _ _ (by omega), hc], ?_⟩
  have := hg.out
  rw [rowCells_splice hc h] at this
  exact this
theorem belowAny {g : Nat} {w : World} {k : Nat} : Below g w (w.drewN k) := ⟨rfl, rfl, rfl, Nat.le_refl _, fun _ _ => rfl⟩
theorem Nums.src {w : World} {ao : Option Addr} {n cap : Nat} {xs : List Int} (h : Nums w (.slice ao n cap) xs) (hp : 0 < (cellsN xs).length) : ∃ ad, ao = some ad ∧ ∀ j v, (cellsN xs)[j]? = some v → w.cell? (ad.add j) = some v := by
  rw [cellsN_length] at hp
  have h' := h
  obtain ⟨ao', cap', e, _, _, _, hcell⟩ := h'
  simp only [Value.slice.injEq] at e
  obtain ⟨rfl, rfl, rfl⟩ := e
  obtain ⟨b, o, rfl, _⟩ := hcell 0 hp
  exact ⟨_, rfl, h.news⟩

set_option maxHeartbeats 1600000 in
set_option maxRecDepth 100000 in
theorem extendBack_any {g : Nat} {cs : List Int} {f e : Nat} (v : Value) (xs : List Int) (w : World) (h : RowD w g cs f e) (hx : Nums w v xs) (hl : e + xs.length ≤ 30) :
    Calls Try.prog 77 #[.pointer (some ⟨g, 0, none⟩), v] w fun r w' => r = .returned (.tuple #[]) ∧ RowD w' g (splice cs e xs) f (e + xs.length) ∧ Below g w w' := by
  obtain ⟨ao, cap, rfl, hlc, hcm⟩ := hx.slice
  have H := Lib.hid h
  have HX := Lib.hid hx
  have c31 := h.end_
  have f31 := h.free 31
  have hsl := fun u => run_slice1 (P := Try.prog) Try.underlying119 Try.sizeN g e (by omega) u
  obtain ⟨C, hC⟩ : ∃ C, C = cellsN xs := ⟨_, rfl⟩
  have HC := Lib.hid hC
  have HCL : Hid (C.length = xs.length) := by show _ = _; rw [hC, cellsN_length]
  have HC1 : Hid (∀ u ∈ C, u.oneCell' = true) := by show ∀ _ ∈ _, _; rw [hC]; exact cellsN_one xs
  have HMN : Hid (Nat.min xs.length (30 - e) = xs.length) := by show _ = _; exact Nat.min_eq_left (by omega)
  have HPOS : Hid (0 < C.length → (some ⟨g, offAt e 30, none⟩ : Option Addr) = some ⟨g, e, none⟩ ∧ ∃ ad, ao = some ad ∧ ∀ j v, C[j]? = some v → w.cell? (ad.add j) = some v) := by
    intro hp
    have hp2 := hp
    rw [HCL.out] at hp2
    refine ⟨by unfold offAt; rw [if_neg (by omega)], ?_⟩
    rw [hC] at hp ⊢
    exact hx.src hp
  have HFIT : Hid (e + C.length ≤ (rowCells cs f e).length) := by
    show _ ≤ _
    unfold rowCells
    rw [HCL.out, List.length_append, cellsN_length, h.1]
    omega
  have hc30 := Lib.hid h.1
  have hcl := HCL.out
  have E1 : Hid (IntKind.i64.wrap ((e : Int) + (xs.length : Int)) = ((e + xs.length : Nat) : Int)) := by show _ = _; rw [IntWalk.i64_in _ (by omega)]; omega
  clear hC h hx
  go_enter Try.func77, Try.ntmps77
  go_wp2_with fail
  go_region_law (refine step_copy_splice rfl (.tmp 15) (.tmp 16) 23 23 rfl 3 Try.underlying23 Try.sizeN (some ⟨g, offAt e 30, none⟩) ao (30 - e) (30 - e) xs.length cap rfl rfl g e (rowCells cs f e) 121 H.out.2 C (by rw [HCL.out, HMN.out]) HPOS.out HFIT.out HC1.out g w belowAny (Nat.le_refl _) ?_; intro w4 hg4 hb4; rw [HC.out] at hg4; have HR4 := Lib.hid (RowD.spliced hc30.out hl hg4); have c4 := HR4.out.end_; have f4 := HR4.out.free 31)
  all_goals go_wp2
  all_goals go_end0
  all_goals refine ⟨rfl, ?_, hb4.setCell (Nat.le_refl _) _⟩
  all_goals rw [E1.out]
  all_goals exact HR4.out.setEnd (e + xs.length)

/-! ### a new row -/
def blk10 : List Int := List.replicate 10 (-10000)
/-- A new row of numbers. -/
def newRowN (xs : List Int) : List Int := blk10 ++ xs ++ List.replicate (20 - xs.length) (-10000)
theorem splice_new {xs : List Int} (h : xs.length ≤ 20) : splice (List.replicate 30 (-10000)) 10 xs = newRowN xs := by
  unfold splice newRowN blk10
  rw [List.take_replicate, List.drop_replicate, List.append_assoc]
  congr 3
  omega
theorem blank_step {k : Nat} (hk : k < 30) : (List.replicate k (-10000 : Int) ++ List.replicate (30 - k) 0).set k (-10000) = List.replicate (k + 1) (-10000) ++ List.replicate (30 - (k + 1)) 0 := by
  rw [List.set_append_right _ _ (by simp), List.length_replicate, Nat.sub_self, show 30 - k = (30 - (k + 1)) + 1 by omega, List.replicate_succ, List.set_cons_zero, List.replicate_succ', List.append_assoc]
  rfl

set_option maxHeartbeats 1600000 in
set_option maxRecDepth 100000 in
theorem rowOf_any (v : Value) (xs : List Int) (w : World) (h : Nums w v xs) (hl : xs.length ≤ 20) :
    Calls Try.prog 69 #[v] w fun r w' => r = .returned (.pointer (some ⟨w.heap.size, 0, none⟩)) ∧ RowD w' w.heap.size (newRowN xs) 10 (10 + xs.length) ∧ Below w.heap.size w w' := by
  obtain ⟨ao, cap, rfl, hlc, hcm⟩ := h.slice
  go_enter Try.func69, Try.ntmps69
  go_wp2
  go_loopw [7] (fun i wr => ∃ k : Nat, k ≤ 30 ∧ i = .int .i64 k ∧ Hid (RowD wr w.heap.size (List.replicate k (-10000) ++ List.replicate (30 - k) 0) 10 10) ∧ Below w.heap.size w wr) (fun i _ => 30 - (intOf i).toNat)
  case atStart =>
    refine ⟨0, by omega, rfl, ⟨rfl, ?_⟩, (Below.refl _ _).alloc (Nat.le_refl _) _⟩
    exact heap_new w _
  case round =>
    obtain ⟨k, hk, rfl, HR, hbl⟩ := hrel
    by_cases hlt : k < 30
    · have c1 := HR.out.cell hlt
      have f1 := HR.out.free k
      have h2 := HR.out.set hlt (-10000)
      rw [blank_step hlt] at h2
      have HR2 := Lib.hid h2
      clear h2
      go_wp2
      go_roundw
      case rel => exact ⟨k + 1, by omega, by go_num, HR2, hbl.setCell (Nat.le_refl _) _⟩
      case measure => simp [intOf]; omega
    · obtain rfl : k = 30 := by omega
      have HR2 : Hid (RowD wr w.heap.size (List.replicate 30 (-10000)) 10 10) := HR.out
      go_wp2_with fail
      refine (extendBack_any _ xs _ HR2.out (h.mono hbl (Nat.le_refl _)) (by omega)).mono ?_
      rintro e w1 ⟨rfl, hr, hb⟩
      rw [splice_new hl] at hr
      have HR3 := Lib.hid hr
      have HB3 := Lib.hid (hbl.trans hb)
      clear hr hb
      go_wp2
      go_ret
      exact ⟨rfl, HR3.out, HB3.out⟩
end Go.Proofs.Ytoglgeinnocfjaa
/-
  The program's row: a limit, numbers put ahead, what it holds.
-/
namespace Go.Proofs.Ytoglgeinnocfjaa
open Go.RowKit Go.Deep

def keepL (f e : Nat) (m : Int) : Nat := if m = -1 then f else max f (e - m.toNat)
def keepF (f e : Nat) (m : Int) : Nat := if m = -1 then e else min e (f + m.toNat)
theorem RowD.putFirst {w : World} {g : Nat} {cs : List Int} {f e q : Nat} {v : Int} (h : RowD w g cs f e) (hv : v = q) : RowD (w.setCell ⟨g, 30, none⟩ (.int .i64 v)) g cs q e := by rw [hv]; exact h.setFirst q
theorem RowD.putEnd {w : World} {g : Nat} {cs : List Int} {f e q : Nat} {v : Int} (h : RowD w g cs f e) (hv : v = q) : RowD (w.setCell ⟨g, 31, none⟩ (.int .i64 v)) g cs f q := by rw [hv]; exact h.setEnd q

set_option maxHeartbeats 1600000 in
set_option maxRecDepth 100000 in
theorem keepLast_any {g : Nat} {cs : List Int} {f e : Nat} (m : Int) (w : World) (h : RowD w g cs f e) (hf : f ≤ e) (he : e ≤ 30) (h1 : -1 ≤ m) (h2 : m ≤ 10) :
    Calls Try.prog 78 #[.pointer (some ⟨g, 0, none⟩), .int .i64 m] w fun r w' => r = .returned (.tuple #[]) ∧ RowD w' g cs (keepL f e m) e ∧ Below g w w' := by
  have H := Lib.hid h
  have c30 := h.first
  have c31 := h.end_
  have f30 := h.free 30
  clear h
  go_enter Try.func78, Try.ntmps78
  by_cases hm : m = -1
  · subst hm
    go_wp2
    go_end0
    exact ⟨rfl, H.out, Below.refl _ _⟩
  · obtain ⟨n, rfl⟩ : ∃ n : Nat, m = n := ⟨m.toNat, by omega⟩
    have HK : Hid (keepL f e n = max f (e - n)) := by show _ = _; unfold keepL; rw [if_neg (by omega), Int.toNat_natCast]
    go_wp2_with fail
    go_region
    all_goals go_wp2
    all_goals go_end0
    all_goals rw [HK.out]
    all_goals exact ⟨rfl, H.out.putFirst (by omega), ((Below.refl g w).setCell (Nat.le_refl g) _).drew⟩

set_option maxHeartbeats 1600000 in
set_option maxRecDepth 100000 in
theorem keepFirst_any {g : Nat} {cs : List Int} {f e : Nat} (m : Int) (w : World) (h : RowD w g cs f e) (hf : f ≤ e) (he : e ≤ 30) (h1 : -1 ≤ m) (h2 : m ≤ 10) :
    Calls Try.prog 116 #[.pointer (some ⟨g, 0, none⟩), .int .i64 m] w fun r w' => r = .returned (.tuple #[]) ∧ RowD w' g cs f (keepF f e m) ∧ Below g w w' := by
  have H := Lib.hid h
  have c30 := h.first
  have c31 := h.end_
  have f31 := h.free 31
  clear h
  go_enter Try.func116, Try.ntmps116
  by_cases hm : m = -1
  · subst hm
    go_wp2
    go_end0
    exact ⟨rfl, H.out, Below.refl _ _⟩
  · obtain ⟨n, rfl⟩ : ∃ n : Nat, m = n := ⟨m.toNat, by omega⟩
    have HK : Hid (keepF f e n = min e (f + n)) := by show _ = _; unfold keepF; rw [if_neg (by omega), Int.toNat_natCast]
    go_wp2_with fail
    go_region
    all_goals go_wp2
    all_goals go_end0
    all_goals rw [HK.out]
    all_goals exact ⟨rfl, H.out.putEnd (by omega), ((Below.refl g w).setCell (Nat.le_refl g) _).drew⟩

/-! ### numbers put ahead -/
def frontN (cs : List Int) (f : Nat) (xs : List Int) : List Int := cs.take (f - xs.length) ++ (xs.reverse ++ cs.drop f)
theorem frontN_nil (cs : List Int) (f : Nat) : frontN cs f [] = cs := by simp [frontN]
theorem frontN_step {cs xs : List Int} {f k : Nat} (hk : k < xs.length) (hf : k < f) (hc : f ≤ cs.length) : (frontN cs f (xs.take k)).set (f - (k + 1)) xs[k] = frontN cs f (xs.take (k + 1)) := by
  unfold frontN
  have h1 : (xs.take k).length = k := by simp; omega
  have h2 : (xs.take (k + 1)).length = k + 1 := by simp; omega
  rw [h1, h2, show f - k = (f - (k + 1)) + 1 by omega, List.take_succ_eq_append_getElem (l := cs) (by omega), List.append_assoc, List.set_append_right _ _ (by simp; omega)]
  rw [show f - (k + 1) - (cs.take (f - (k + 1))).length = 0 by simp; omega, List.singleton_append, List.set_cons_zero, List.take_succ_eq_append_getElem hk, List.reverse_append]
  rfl

set_option maxHeartbeats 1600000 in
set_option maxRecDepth 100000 in
theorem extendFront_any {g : Nat} {cs : List Int} {f e : Nat} (v : Value) (xs : List Int) (w : World) (h : RowD w g cs f e) (hx : Nums w v xs) (hK : InK (· < g) v) (hl : xs.length ≤ f) (hf : f ≤ 30) :
    Calls Try.prog 70 #[.pointer (some ⟨g, 0, none⟩), v] w fun r w' => r = .returned (.tuple #[]) ∧ RowD w' g (frontN cs f xs) (f - xs.length) e ∧ Below g w w' := by
  obtain ⟨ao, cap, rfl, hlc, hcm, hok, hcell⟩ := hx
  have hc30 := Lib.hid h.1
  have H := Lib.hid h
  clear h
  go_enter Try.func70, Try.ntmps70
  go_wp2
  go_loopw [8] (fun i wr => ∃ k p : Nat, k ≤ xs.length ∧ i = .int .i64 k ∧ p + k = f ∧ Hid (RowD wr g (frontN cs f (xs.take k)) p e) ∧ Below g w wr) (fun i _ => xs.length - (intOf i).toNat)
  case atStart => exact ⟨0, f, Nat.zero_le _, rfl, rfl, by show RowD _ _ _ _ _; rw [List.take_zero, frontN_nil]; exact H.out, Below.refl _ _⟩
  case round =>
    obtain ⟨k, p, hk, rfl, hp, HR, hbl⟩ := hrel
    have HP := Lib.hid hp
    clear hp
    by_cases hlt : k < xs.length
    · obtain ⟨b, o, rfl, hb, h1⟩ := hcell k hlt
      have hbg : b < g := hK ⟨b, o, none⟩ _ _ rfl (by omega)
      have c1 := (hbl.cell (p := ⟨b, _, none⟩) hbg).trans h1
      obtain ⟨q, rfl⟩ : ∃ q, p = q + 1 := ⟨p - 1, by have := HP.out; omega⟩
      have hq30 : q < 30 := by have := HP.out; omega
      have c30 := HR.out.first
      have f30 := HR.out.free 30
      clear h1
      go_wp2_with fail
      have HR1 : Hid (RowD (wr.setCell ⟨g, 30, none⟩ (.int .i64 (q : Int))) g (frontN cs f (xs.take k)) q e) := HR.out.setFirst q
      have h2 := HR1.out.set hq30 xs[k]
      have e2 := frontN_step (cs := cs) (f := f) hlt (by have := HP.out; omega) (by rw [hc30.out]; exact hf)
      rw [show f - (k + 1) = q by have := HP.out; omega] at e2
      rw [e2] at h2
      have HR2 := Lib.hid h2
      have d30 := HR1.out.first
      have dq := HR1.out.cell hq30
      have fq := HR1.out.free q
      clear c30 f30 h2 e2
      go_region
      all_goals go_wp2
      all_goals go_roundw
      case rel => exact ⟨k + 1, q, by omega, by go_num, by have := HP.out; omega, HR2.out, ((hbl.setCell (Nat.le_refl g) _).setCell (Nat.le_refl g) _).drew⟩
      case measure => simp [intOf]; omega
    · obtain rfl : k = xs.length := by omega
      go_wp2
      go_end0
      have h2 := HR.out
      rw [List.take_length] at h2
      exact ⟨rfl, by rw [show f - xs.length = p by have := HP.out; omega]; exact h2, hbl⟩

/-! ### what the row holds -/
def itemsR (cs : List Int) (f e : Nat) : List Int := (cs.take e).drop f
theorem itemsR_length {cs : List Int} {f e : Nat} (h : cs.length = 30) (he : e ≤ 30) : (itemsR cs f e).length = e - f := by
  unfold itemsR
  simp
  omega
set_option maxHeartbeats 1600000 in
set_option maxRecDepth 100000 in
theorem deque_any {g : Nat} {cs : List Int} {f e : Nat} (m : Int) (w : World) (h : RowD w g cs f e) (hok : okN cs) (hfe : f ≤ e) (he : e ≤ 30) :
    Calls Try.prog 71 #[.pointer (some ⟨g, 0, none⟩), .int .i64 m] w (NewN (fun v => .agg #[v, .int .i64 m]) (itemsR cs f e) w) := by
  have HR : Hid (RowD (w.alloc (.cells #[.slice none 0 0, .int .i64 0] 25)).drew g cs f e) := h.below (((Below.refl w.heap.size w).alloc (Nat.le_refl _) _).drew) h.lt
  have HB0 : Hid (Below w.heap.size w (w.alloc (.cells #[.slice none 0 0, .int .i64 0] 25)).drew) := ((Below.refl _ _).alloc (Nat.le_refl _) _).drew
  have G0 : (w.alloc (.cells #[.slice none 0 0, .int .i64 0] 25)).drew.heap[w.heap.size]? = some (.cells #[.slice none 0 0, .int .i64 0] 25 (0, 0)) := heap_new w _
  have c30 : (w.alloc (.cells #[.slice none 0 0, .int .i64 0] 25)).cell? ⟨g, 30, none⟩ = _ := HR.out.first
  have c31 : (w.alloc (.cells #[.slice none 0 0, .int .i64 0] 25)).cell? ⟨g, 31, none⟩ = _ := HR.out.end_
  obtain ⟨X, hX⟩ : ∃ X, X = (cs.take e).drop f := ⟨_, rfl⟩
  have hi : itemsR cs f e = X := hX.symm
  rw [hi]
  have HP := part_any f e _ HR.out hok hfe he
  rw [← hX] at HP
  have HPH := Lib.hid HP
  clear h hX hi HP
  go_enter Try.func71, Try.ntmps71
  go_wp2_with fail
  go_region_with (refine HPH.out.mono ?_; rintro r w1 ⟨v', rfl, ho, hb⟩; have G1 := two_below G0 hb (by simp); have q0 := two_cell0 G1; have q1 := two_cell1 G1; have fr0 := two_free G1 0; have fr1 := two_free G1 1; obtain ⟨xo, xcap, rfl, _, _⟩ := ho.nums.slice; have HO := Lib.hid ho; have HB := Lib.hid hb; clear ho hb G1)
  all_goals go_wp2
  all_goals exact bodyPost_ret (v := .agg #[.slice xo X.length xcap, .int .i64 m]) (by simp [results, Try.results71, go_sem, q0, q1]) rfl ⟨_, rfl, by
    have h2 := HO.out.keeps (w' := (w1.setCell ⟨w.heap.size, 0, none⟩ (.slice xo X.length xcap)).setCell ⟨w.heap.size, 1, none⟩ (.int .i64 m)) (((Keeps.refl _ _).setCell (by simp [In]; try omega) _).setCell (by simp [In]; try omega) _)
    exact h2.wide (by simp) (by simp), ((HB0.out.trans (HB.out.mono (by simp))).setCell (Nat.le_refl w.heap.size) _).setCell (Nat.le_refl w.heap.size) _⟩
end Go.Proofs.Ytoglgeinnocfjaa
/-
  What rows hold; no program.
-/
namespace Go.Proofs.Ytoglgeinnocfjaa
open Go.RowKit

theorem okN_rep (n : Nat) : okN (List.replicate n (-10000)) := fun x hx => by
  rw [(List.mem_replicate.1 hx).2]
  omega
theorem okN_new {xs : List Int} (h : okN xs) : okN (newRowN xs) := okN_append (okN_append (okN_rep 10) h) (okN_rep _)
theorem blk10_length : blk10.length = 10 := by simp [blk10]
theorem new_append {xs ys : List Int} (h : xs.length + ys.length ≤ 20) : splice (newRowN xs) (10 + xs.length) ys = newRowN (xs ++ ys) := by
  unfold splice newRowN
  have h1 : (blk10 ++ xs).length = 10 + xs.length := by rw [List.length_append, blk10_length]
  rw [List.take_append_of_le_length (by omega), List.take_of_length_le (by omega), List.drop_append, h1, List.drop_of_length_le (by omega), List.drop_replicate, List.nil_append]
  rw [← List.append_assoc, ← List.append_assoc, List.length_append]
  congr 2
  omega
theorem items_new {zs : List Int} {a b : Nat} (hb : b ≤ zs.length) : itemsR (newRowN zs) (10 + a) (10 + b) = (zs.take b).drop a := by
  unfold itemsR newRowN
  rw [List.append_assoc, List.take_append, blk10_length, List.take_of_length_le (by rw [blk10_length]; omega), show 10 + b - 10 = b by omega, List.take_append_of_le_length hb, List.drop_append, blk10_length, List.drop_of_length_le (by rw [blk10_length]; omega), show 10 + a - 10 = a by omega]
  rfl
theorem items_last {zs : List Int} {m : Int} (h0 : -1 ≤ m) : itemsR (newRowN zs) (keepL 10 (10 + zs.length) m) (10 + zs.length) = fitB zs m := by
  have h : ∃ d, d ≤ zs.length ∧ keepL 10 (10 + zs.length) m = 10 + d ∧ fitB zs m = zs.drop d := by
    unfold keepL fitB
    by_cases h1 : m = -1
    · exact ⟨0, Nat.zero_le _, by rw [if_pos h1], by rw [if_neg (by omega)]; rfl⟩
    · rw [if_neg h1]
      by_cases h2 : m < zs.length
      · exact ⟨zs.length - m.toNat, by omega, by omega, by rw [if_pos ⟨by omega, h2⟩]⟩
      · exact ⟨0, Nat.zero_le _, by omega, by rw [if_neg (by omega)]; rfl⟩
  obtain ⟨d, _, e1, e2⟩ := h
  rw [e1, e2, items_new (Nat.le_refl _), List.take_length]
theorem items_front {xs ys : List Int} {e : Nat} (hk : ys.length ≤ 10) (h1 : 10 - ys.length ≤ e) (h2 : e ≤ 10 + xs.length) : itemsR (frontN (newRowN xs) 10 ys) (10 - ys.length) e = (ys.reverse ++ xs).take (e - (10 - ys.length)) := by
  unfold itemsR frontN newRowN
  have e1 : ((blk10 ++ xs ++ List.replicate (20 - xs.length) (-10000 : Int)).take (10 - ys.length)).length = 10 - ys.length := by
    rw [List.length_take, List.length_append, List.length_append, blk10_length]
    omega
  have e2 : (blk10 ++ xs ++ List.replicate (20 - xs.length) (-10000 : Int)).drop 10 = xs ++ List.replicate (20 - xs.length) (-10000) := by
    rw [List.append_assoc, List.drop_append, blk10_length, List.drop_of_length_le (by rw [blk10_length]; omega)]
    rfl
  rw [e2, List.take_append, e1, List.take_of_length_le (by rw [e1]; exact h1), List.drop_append, e1, List.drop_of_length_le (by rw [e1]; omega), Nat.sub_self, List.drop_zero, List.nil_append, ← List.append_assoc, List.take_append_of_le_length]
  rw [List.length_append, List.length_reverse]
  omega
theorem items_first {xs ys : List Int} {m : Int} (hk : ys.length ≤ 10) (h0 : -1 ≤ m) : itemsR (frontN (newRowN xs) 10 ys) (10 - ys.length) (keepF (10 - ys.length) (10 + xs.length) m) = fitF (ys.reverse ++ xs) m := by
  have hb : keepF (10 - ys.length) (10 + xs.length) m ≤ 10 + xs.length ∧ 10 - ys.length ≤ keepF (10 - ys.length) (10 + xs.length) m := by
    unfold keepF
    split <;> omega
  rw [items_front hk hb.2 hb.1]
  unfold keepF fitF
  by_cases h1 : m = -1
  · rw [if_pos h1, if_neg (by omega), List.take_of_length_le]
    rw [List.length_append, List.length_reverse]
    omega
  · rw [if_neg h1]
    by_cases h2 : m < (ys.reverse ++ xs).length
    · rw [if_pos ⟨by omega, h2⟩]
      rw [List.length_append, List.length_reverse] at h2
      congr 1
      omega
    · rw [if_neg (by omega), List.take_of_length_le]
      rw [List.length_append, List.length_reverse] at h2 ⊢
      omega
theorem front_length {xs ys : List Int} (hn : xs.length ≤ 20) (hk : ys.length ≤ 10) : (frontN (newRowN xs) 10 ys).length = 30 := by
  unfold frontN newRowN
  simp [blk10]
  omega
theorem okN_front {cs ys : List Int} {f : Nat} (h : okN cs) (h' : okN ys) : okN (frontN cs f ys) := okN_append (okN_take h _) (okN_append (fun x hx => h' x (List.mem_reverse.1 hx)) (okN_drop h _))
theorem new_nil : newRowN [] = List.replicate 30 (-10000) := by decide +kernel

/-- A list if something holds; a number if something holds. -/
def ifN (b : Bool) (xs : List Int) : List Int := if b = true then xs else []
def ifI (b : Bool) (n : Int) : Int := if b = true then n else 0
theorem ifN_le {b : Bool} {xs : List Int} (h : b = true → xs.length ≤ 10) : (ifN b xs).length ≤ 10000000 := by
  unfold ifN
  split
  · rename_i hb
    have := h hb
    omega
  · simp
theorem fitB_len {xs : List Int} {m : Int} (_h0 : 0 ≤ m) : ((fitB xs m).length : Int) ≤ m ∨ fitB xs m = xs := by
  unfold fitB
  split
  · left
    rw [List.length_drop]
    omega
  · exact .inr rfl
end Go.Proofs.Ytoglgeinnocfjaa
/-
  The model's small functions over numbers, second part: the first ones, turned.
-/
namespace Go.Proofs.Ytoglgeinnocfjaa
open Go.RowKit Go.Deep

set_option maxHeartbeats 800000 in
set_option maxRecDepth 100000 in
theorem fitFront_any (v : Value) (xs : List Int) (m : Int) (w : World) (h : Nums w v xs) (hn : xs.length ≤ 1000000) :
    Calls Try.prog 117 #[v, .int .i64 m] w fun e w' => ∃ v', e = .returned (.agg #[v', .int .i64 m]) ∧ OwnR w' w.heap.size v' (fitF xs m) ∧ Below w.heap.size w w' := by
  have HX : Hid (Nums (w.alloc (.cells #[.slice none 0 0, .int .i64 0] 25)) v xs) := h.mono ((Below.refl _ _).alloc (Nat.le_refl _) _) (Nat.le_refl _)
  obtain ⟨ao, cap, rfl, hlc, hcm⟩ := h.slice
  clear h
  go_enter Try.func117, Try.ntmps117
  by_cases hm : 0 ≤ m ∧ m < xs.length
  · obtain ⟨n, rfl⟩ : ∃ n : Nat, m = n := ⟨m.toNat, by omega⟩
    have HF : Hid (fitF xs n = xs.take n) := by show _ = _; unfold fitF; rw [if_pos hm, Int.toNat_natCast]
    have HD : Hid (Nums (w.alloc (.cells #[.slice none 0 0, .int .i64 0] 25)) (.slice ao n cap) (fitF xs n)) := by rw [HF.out]; exact HX.out.takeA (by omega)
    have HL : Hid ((fitF xs n).length = n) := by show _ = _; rw [HF.out, List.length_take]; omega
    go_wp2_with fail
    refine (copyInts_any _ (fitF xs n) _ HD.out (by rw [HL.out]; omega)).mono ?_
    rintro e w1 ⟨v', rfl, ho, hb⟩
    obtain ⟨xo, xcap, rfl, _, _⟩ := ho.nums.slice
    have HO := Lib.hid ho
    simp at hb
    have HB := Lib.hid hb
    have G1 := (res_two (a := .slice xo (fitF xs n).length xcap) (b := .int .i64 n) hb).1
    have q0 := two_cell0 G1
    have q1 := two_cell1 G1
    have f0 := two_free G1 0
    have f1 := two_free G1 1
    clear ho hb G1
    go_wp2
    exact bodyPost_ret (v := .agg #[.slice xo (fitF xs n).length xcap, .int .i64 n]) (by simp [results, Try.results117, go_sem, q0, q1]) rfl ⟨_, rfl, ((HO.out.keeps (K := fun k => w.heap.size + 1 ≤ k) (((Keeps.refl _ _).setCell (by simp) _).setCell (by simp) _) (by simp)).base (by simp)), (res_two HB.out).2⟩
  · have HF : Hid (fitF xs m = xs) := by show _ = _; unfold fitF; rw [if_neg hm]
    have HD : Hid (Nums (w.alloc (.cells #[.slice none 0 0, .int .i64 0] 25)) (.slice ao xs.length cap) (fitF xs m)) := by rw [HF.out]; exact HX.out
    have hmb : m < 0 ∨ (xs.length : Int) ≤ m := by omega
    clear hm
    rcases hmb with hm | hm
    all_goals
      go_wp2_with fail
      refine (copyInts_any _ (fitF xs m) _ HD.out (by rw [HF.out]; exact hn)).mono ?_
      rintro e w1 ⟨v', rfl, ho, hb⟩
      obtain ⟨xo, xcap, rfl, _, _⟩ := ho.nums.slice
      have HO := Lib.hid ho
      simp at hb
      have HB := Lib.hid hb
      have G1 := (res_two (a := .slice xo (fitF xs m).length xcap) (b := .int .i64 m) hb).1
      have q0 := two_cell0 G1
      have q1 := two_cell1 G1
      have f0 := two_free G1 0
      have f1 := two_free G1 1
      clear ho hb G1
      go_wp2
      exact bodyPost_ret (v := .agg #[.slice xo (fitF xs m).length xcap, .int .i64 m]) (by simp [results, Try.results117, go_sem, q0, q1]) rfl ⟨_, rfl, ((HO.out.keeps (K := fun k => w.heap.size + 1 ≤ k) (((Keeps.refl _ _).setCell (by simp) _).setCell (by simp) _) (by simp)).base (by simp)), (res_two HB.out).2⟩

theorem Nums_one (w : World) (x : Int) (E : TypeId) (hx : -9223372036854775808 ≤ x ∧ x ≤ 9223372036854775807) : Nums (w.alloc (.cells #[.int .i64 x] E)) (.slice (some ⟨w.heap.size, 0, none⟩) 1 1) [x] := by
  refine ⟨_, 1, rfl, Nat.le_refl _, by omega, fun y hy => ?_, fun k hk => ?_⟩
  · rw [List.mem_singleton.1 hy]; exact hx
  · obtain rfl : k = 0 := by simpa using hk
    exact ⟨w.heap.size, 0, rfl, by simp, by simp⟩

set_option maxHeartbeats 800000 in
set_option maxRecDepth 100000 in
theorem turned_any (v : Value) (xs : List Int) (w : World) (h : Nums w v xs) (hl : xs.length ≤ 1000) :
    Calls Try.prog 118 #[v] w (FreshR xs.reverse w) := by
  obtain ⟨ao, cap, rfl, hlc, hcm, hok, hcell⟩ := h
  have hown0 := World.ownsRow_lit (base := w.heap.size) (e := 3) (size := 1) w #[] 0 (Nat.le_refl _) (by unfold maxLen; omega) rfl
  go_enter Try.func118, Try.ntmps118
  go_wp2
  go_loopw [3, 4] (fun x i wr => ∃ k : Nat, k ≤ xs.length ∧ i = .int .i64 ((xs.length : Int) - 1 - k) ∧ wr.ownsRow w.heap.size 3 1 x k (cellsN ((xs.reverse).take k)) ∧ Below w.heap.size w wr ∧ w.heap.size < wr.heap.size) (fun _ i _ => (intOf i + 1).toNat)
  case atStart => exact ⟨0, Nat.zero_le _, by go_num, hown0, (Below.refl _ _).alloc (Nat.le_refl _) _, by simp⟩
  case round =>
    obtain ⟨k, hk, rfl, hrow, hbl, hsz⟩ := hrel
    by_cases hlt : k < xs.length
    · obtain ⟨j, hj⟩ : ∃ j : Nat, j = xs.length - 1 - k := ⟨_, rfl⟩
      have hjl : j < xs.length := by omega
      obtain ⟨b, o, rfl, hb, h1⟩ := hcell j hjl
      have c1 := (hbl.cell (p := ⟨b, _, none⟩) hb).trans h1
      have ej : (xs.length : Int) - 1 - (k : Int) = (j : Int) := by omega
      rw [ej]
      have hrv : (xs.reverse).take (k + 1) = (xs.reverse).take k ++ [xs[j]] := by
        rw [List.take_succ_eq_append_getElem (by simpa using hlt), List.getElem_reverse]
        simp only [hj]
      have e1 := Lib.hid hrv
      have HJ := Lib.hid hj
      have HEJ := Lib.hid ej
      clear h1 hrv hj ej
      obtain ⟨xo, xcap, rfl, _, _⟩ := own_slice hrow
      have hs' := hok _ (List.getElem_mem hjl)
      go_wp2_with (at_builtin; refine wpl_append_nums _ rfl _ _ rfl w.heap.size (.slice xo k xcap) k (cellsN ((xs.reverse).take k)) rfl (hrow.alloc _) (.slice (some ⟨wr.heap.size, 0, none⟩) 1 1) [xs[j]] rfl (Nums_one _ _ _ hs') (by omega) (by simp) (by simp; omega) ?_; intro v' w2 hown2 hgrow2)
      have hs2 := hgrow2.size
      simp at hs2
      have hrow3 : w2.ownsRow w.heap.size 3 1 v' (k + 1) (cellsN ((xs.reverse).take (k + 1))) := by
        rw [e1.out, cellsN_append]; exact hown2
      have hb3 := (hbl.alloc (Nat.le_of_lt hsz) _).grown hgrow2 (by simp; omega) (fun j hj => (hrow.lt j hj).1)
      clear hown2 hrow c1 hgrow2
      go_roundw
      case rel => exact ⟨k + 1, by omega, by have := HEJ.out; go_num, hrow3, hb3, by omega⟩
      case measure => simp [intOf]
    · obtain rfl : k = xs.length := by omega
      rw [List.take_of_length_le (by simp)] at hrow
      have hokr : okN xs.reverse := fun x hx => hok x (List.mem_reverse.1 hx)
      go_wp2
      go_ret
      refine ⟨_, rfl, ⟨?_, hokr⟩, hbl⟩
      rw [List.length_reverse]
      exact hrow
end Go.Proofs.Ytoglgeinnocfjaa
/-
  A deque with another limit, a deque turned: by the model and by the program.
-/
namespace Go.Proofs.Ytoglgeinnocfjaa
open Go.RowKit Go.Deep

/-- A new deque and whether it is one. -/
abbrev NewD (xs : List Int) (m : Int) (b : Bool) (w : World) (e : Ending) (w' : World) : Prop := NewN (fun v => .tuple #[.agg #[v, .int .i64 m], .bool b]) xs w e w'
theorem newD_no {w w' : World} {xs : List Int} {m : Int} {b : Bool} (hb : Hid (b = false)) (h : Below w.heap.size w w') : NewD (ifN b xs) (ifI b m) b w (.returned (okD (.slice none 0 0) 0 false)) w' := by
  rw [hb.out]
  exact ⟨_, rfl, OwnN.none (by omega), h⟩
theorem newD_yes {w w' : World} {v : Value} {xs : List Int} {m : Int} {b : Bool} (hb : Hid (b = true)) (ho : OwnN w.heap.size w'.heap.size w' v xs) (h : Below w.heap.size w w') : NewD (ifN b xs) (ifI b m) b w (.returned (okD v m true)) w' := by
  rw [hb.out]
  exact ⟨_, rfl, ho, h⟩
theorem and_no1 {a b : Bool} (h : Hid (a = false)) : Hid ((a && b) = false) := by show _ = _; rw [h.out]; rfl
theorem and_no2 {a b : Bool} (h : Hid (b = false)) : Hid ((a && b) = false) := by show _ = _; rw [h.out, Bool.and_false]
theorem and_yes {a b : Bool} (h : Hid (a = true)) (h' : Hid (b = true)) : Hid ((a && b) = true) := by show _ = _; rw [h.out, h'.out]; rfl
theorem fitB_le (xs : List Int) (m : Int) : (fitB xs m).length ≤ xs.length := by
  unfold fitB
  split
  · rw [List.length_drop]; omega
  · exact Nat.le_refl _

/-! ### another limit -/
def wmB (xs : List Int) (m q : Int) : Bool := validD xs m && limB q
theorem wm_le (xs : List Int) (m q : Int) : (ifN (wmB xs m q) (fitB xs q)).length ≤ 10000000 := ifN_le fun h => by
  unfold wmB at h
  rw [Bool.and_eq_true] at h
  have h1 := validD_len h.1
  have h2 := fitB_le xs q
  omega

end Go.Proofs.Ytoglgeinnocfjaa
/-
  A deque turned: by the model and by the program.
-/
namespace Go.Proofs.Ytoglgeinnocfjaa
open Go.RowKit Go.Deep

/-- A new deque. -/
abbrev NewE (xs : List Int) (m : Int) (w : World) (e : Ending) (w' : World) : Prop := NewN (fun v => .agg #[v, .int .i64 m]) xs w e w'
theorem newE_no {w w' : World} {xs : List Int} {m : Int} {b : Bool} (hb : Hid (b = false)) (h : Below w.heap.size w w') : NewE (ifN b xs) (ifI b m) w (.returned (.agg #[.slice none 0 0, .int .i64 0])) w' := by
  rw [hb.out]
  exact ⟨_, rfl, OwnN.none (by omega), h⟩
theorem newE_yes {w w' : World} {v : Value} {xs : List Int} {m : Int} {b : Bool} (hb : Hid (b = true)) (ho : OwnN w.heap.size w'.heap.size w' v xs) (h : Below w.heap.size w w') : NewE (ifN b xs) (ifI b m) w (.returned (.agg #[v, .int .i64 m])) w' := by
  rw [hb.out]
  exact ⟨_, rfl, ho, h⟩
def tdB (xs : List Int) (m : Int) : Bool := validD xs m
theorem td_le (xs : List Int) (m : Int) : (ifN (tdB xs m) xs.reverse).length ≤ 10000000 := ifN_le fun h => by
  have h1 := validD_len h
  simpa using h1
theorem items_turned {xs : List Int} (h : xs.length ≤ 10) : itemsR (frontN (newRowN []) 10 xs) (10 - xs.length) 10 = xs.reverse := by
  have := items_front (xs := []) (ys := xs) (e := 10) h (by omega) (by simp)
  rw [List.append_nil, List.take_of_length_le (by rw [List.length_reverse]; omega)] at this
  exact this

set_option maxHeartbeats 1600000 in
set_option maxRecDepth 100000 in
theorem TurnDeque_any (v : Value) (xs : List Int) (m : Int) (w : World) (h : Nums w v xs) :
    Calls Try.prog 20 #[.agg #[v, .int .i64 m]] w (NewE (ifN (tdB xs m) xs.reverse) (ifI (tdB xs m) m) w) := by
  have HX := Lib.hid h
  have HK := Lib.hid h.inK
  obtain ⟨ao, cap, rfl, _, _⟩ := h.slice
  clear h
  go_enter Try.func20, Try.ntmps20
  have D := DFrame.new w (.slice ao xs.length cap) m
  have c0 := D.c0
  have c1 := D.c1
  cases hv : validD xs m
  all_goals
    have HV := Lib.hid hv
    clear hv
    go_wp2_with fail
    refine (VD_v _ (D.nums HX.out) HV.out).mono ?_
    rintro e w1 ⟨rfl, hb⟩
    have D1 := D.step hb
    clear hb c0 c1
    have c0 := D1.c0
    have c1 := D1.c1
    have r0 := D1.r0
    have r1 := D1.r1
    have f0 := D1.free 0
    have f1 := D1.free 1
  · go_wp2
    exact bodyPost_ret (v := .agg #[.slice none 0 0, .int .i64 0]) (by simp [results, Try.results20, go_sem, r0, r1]) rfl (newE_no HV (D1.done _ _))
  · have hl := validD_len HV.out
    have hsz := D1.size
    go_wp2_with fail
    refine (rowOf_any _ [] _ (Nums.nil _) (by simp)).mono ?_
    rintro e w2 ⟨rfl, hr, hb⟩
    have HR := Lib.hid hr
    have D2 := D1.step hb
    clear hr hb c0 c1 r0 r1 f0 f1
    have c0 := D2.c0
    go_wp2_with fail
    refine (extendFront_any _ xs _ HR.out (D2.nums HX.out) (HK.out.mono (fun k hk => by omega)) (by omega) (by omega)).mono ?_
    rintro e w3 ⟨rfl, hr, hb⟩
    have HR3 := Lib.hid hr
    have D3 := D2.past hb hsz
    clear hr hb c0
    have c1 := D3.c1
    go_wp2_with fail
    refine (deque_any m _ HR3.out (okN_front (okN_new okN_nil) HX.out.ok) (by simp) (by simp)).mono ?_
    rw [show 10 + ([] : List Int).length = 10 from rfl, items_turned hl]
    rintro e w4 ⟨v', rfl, ho, hb⟩
    have hsz3 := D3.size
    have D4 := D3.step hb
    obtain ⟨xo, xcap, rfl, _, _⟩ := ho.nums.slice
    have HO := Lib.hid ho
    clear ho hb c1
    have r0 := D4.r0
    have r1 := D4.r1
    have f0 := D4.free 0
    have f1 := D4.free 1
    go_wp2
    exact bodyPost_ret (v := .agg #[.slice xo xs.reverse.length xcap, .int .i64 m]) (by simp [results, Try.results20, go_sem, r0, r1]) rfl (newE_yes HV (D4.own HO.out hsz3 _ _) (D4.done _ _))
end Go.Proofs.Ytoglgeinnocfjaa
/-
  Numbers put behind a deque's, or ahead of them: by the model and by the program.
-/
namespace Go.Proofs.Ytoglgeinnocfjaa
open Go.RowKit Go.Deep

def extL (xs ys : List Int) (m : Int) : List Int := fitB (xs ++ ys) m
def exfL (xs ys : List Int) (m : Int) : List Int := fitF (ys.reverse ++ xs) m
def extB (xs ys : List Int) (m : Int) : Bool := (validD xs m && areN ys) && validD (extL xs ys m) m
def exfB (xs ys : List Int) (m : Int) : Bool := (validD xs m && areN ys) && validD (exfL xs ys m) m
theorem ext_le (xs ys : List Int) (m : Int) : (ifN (extB xs ys m) (extL xs ys m)).length ≤ 10000000 := ifN_le fun h => by
  unfold extB at h
  rw [Bool.and_eq_true] at h
  exact validD_len h.2
theorem exf_le (xs ys : List Int) (m : Int) : (ifN (exfB xs ys m) (exfL xs ys m)).length ≤ 10000000 := ifN_le fun h => by
  unfold exfB at h
  rw [Bool.and_eq_true] at h
  exact validD_len h.2
theorem fitF_le (xs : List Int) (m : Int) : (fitF xs m).length ≤ xs.length := by
  unfold fitF
  split
  · rw [List.length_take]; omega
  · exact Nat.le_refl _
/-- What a checked result is, told by what it was asked. -/
theorem newD_chk {w w' : World} {v : Value} {xs : List Int} {m : Int} {b : Bool} (hb : Hid (b = true)) (ho : OwnN w.heap.size w'.heap.size w' v (chkN xs m)) (h : Below w.heap.size w w') : NewD (ifN (b && validD xs m) xs) (ifI (b && validD xs m) m) (b && validD xs m) w (.returned (okD v (chkM xs m) (validD xs m))) w' := by
  rw [hb.out, Bool.true_and]
  exact ⟨_, rfl, ho, h⟩
theorem app_own {w' : World} {base : Nat} {v' : Value} {xs ys : List Int} (h1 : okN xs) (h2 : okN ys) (h : w'.ownsRow base 3 1 v' (xs.length + ys.length) (cellsN xs ++ cellsN ys)) : OwnR w' base v' (xs ++ ys) := by
  refine ⟨?_, okN_append h1 h2⟩
  rw [cellsN_append, List.length_append]
  exact h

set_option maxHeartbeats 3200000 in
set_option maxRecDepth 100000 in
theorem sExtendBack_any (v u : Value) (xs ys : List Int) (m : Int) (w : World) (h : Nums w v xs) (h' : Nums w u ys) :
    Calls Try.prog 24 #[.agg #[v, .int .i64 m], u] w (NewD (ifN (extB xs ys m) (extL xs ys m)) (ifI (extB xs ys m) m) (extB xs ys m) w) := by
  have HX := Lib.hid h
  have HY := Lib.hid h'
  obtain ⟨ao, cap, rfl, _, _⟩ := h.slice
  obtain ⟨bo, bap, rfl, _, _⟩ := h'.slice
  clear h h'
  go_enter Try.func24, Try.ntmps24
  have D := DFrame.new w (.slice ao xs.length cap) m
  have c0 := D.c0
  have c1 := D.c1
  cases hv : validD xs m
  all_goals
    have HV := Lib.hid hv
    clear hv
    go_wp2_with fail
    refine (svD_v _ (D.nums HX.out) HV.out).mono ?_
    rintro e w1 ⟨rfl, hb⟩
    have D1 := D.step hb
    clear hb c0 c1
    have r0 := D1.r0
    have r1 := D1.r1
    have f0 := D1.free 0
    have f1 := D1.free 1
  · go_wp2
    exact bodyPost_ret (v := okD (.slice none 0 0) 0 false) (by simp [okD, results, Try.results24, go_sem, r0, r1]) rfl (newD_no (and_no1 (and_no1 HV)) (D1.done _ _))
  · clear r0 r1 f0 f1
    have hl := validD_len HV.out
    have hmm := validD_lim HV.out
    cases hm : areN ys
    all_goals
      have HM := Lib.hid hm
      go_wp2_with fail
      refine (svI_v _ (D1.nums HY.out) HM.out).mono ?_
      rintro e w2 ⟨rfl, hb⟩
      have D2 := D1.step hb
      clear hb
    · clear hm
      have r0 := D2.r0
      have r1 := D2.r1
      have f0 := D2.free 0
      have f1 := D2.free 1
      go_wp2
      exact bodyPost_ret (v := okD (.slice none 0 0) 0 false) (by simp [okD, results, Try.results24, go_sem, r0, r1]) rfl (newD_no (and_no1 (and_no2 HM)) (D2.done _ _))
    · have hq := (areN_iff.1 hm).1
      clear hm
      have hsz := D2.size
      have c0 := D2.c0
      have c1 := D2.c1
      have DD : DFrame w w2.drew (.slice ao xs.length cap) m := ⟨D2.arg, D2.res, D2.below.drew⟩
      have HRL : Hid (xs.length = xs.length) := by rfl
      go_wp2_with fail
      go_region_law (first
        | (go_simp; go_at_call 84; refine (copyInts_any _ xs _ (DD.nums HX.out) (by omega)).mono ?_; rintro e w3 ⟨v3, rfl, ho3, hb3⟩; have D3 := DD.step hb3; have k0 := D3.c0; have k1 := D3.c1)
        | (refine step_append_nums _ rfl (.tmp 17) (.tmp 18) rfl _ v3 _ _ (by simp [Act.eval]) ho3.1 (.slice bo ys.length bap) ys (by simp [Act.eval]) (D3.nums HY.out) (by have := HRL.out; omega) (by omega) hb3.size ?_; intro v4 w4 hown4 hgrow4; have hb4 := hb3.grown hgrow4 hb3.size (fun j hj => (ho3.1.lt j hj).1); have ho4 := app_own ho3.2 HY.out.ok hown4; have D4 := DD.step hb4; have k0 := D4.c0; have k1 := D4.c1)
        | (go_simp; go_at_call 83; refine (fitBack_any v4 (xs ++ ys) m _ ho4.nums (by have := HRL.out; rw [List.length_append]; omega) hmm.1 hmm.2).mono ?_; rintro e w5 ⟨v5, rfl, ho5, hb5⟩; have D5 := D4.step hb5)
        | (go_simp; go_at_call 82; refine (schkD_any v5 (extL xs ys m) m _ ho5.own (Nat.le_refl _)).mono ?_; rintro e w6 ⟨v6, rfl, ho6, hb6⟩; have D6 := D5.step hb6; obtain ⟨xo, xcap, rfl, _, _⟩ := ho6.nums.slice; have HO := Lib.hid ho6; have r0 := D6.r0; have r1 := D6.r1; have f0 := D6.free 0; have f1 := D6.free 1))
      all_goals go_wp2
      all_goals exact bodyPost_ret (v := okD (.slice xo (chkN (extL xs ys m) m).length xcap) (chkM (extL xs ys m) m) (validD (extL xs ys m) m)) (by simp [okD, results, Try.results24, go_sem, r0, r1]) rfl (newD_chk (and_yes HV HM) (D6.own HO.out (Nat.le_trans hsz hb4.size) _ _) (D6.done _ _))

set_option maxHeartbeats 3200000 in
set_option maxRecDepth 100000 in
theorem sExtendFront_any (v u : Value) (xs ys : List Int) (m : Int) (w : World) (h : Nums w v xs) (h' : Nums w u ys) :
    Calls Try.prog 68 #[.agg #[v, .int .i64 m], u] w (NewD (ifN (exfB xs ys m) (exfL xs ys m)) (ifI (exfB xs ys m) m) (exfB xs ys m) w) := by
  have HX := Lib.hid h
  have HY := Lib.hid h'
  obtain ⟨ao, cap, rfl, _, _⟩ := h.slice
  obtain ⟨bo, bap, rfl, _, _⟩ := h'.slice
  clear h h'
  go_enter Try.func68, Try.ntmps68
  have D := DFrame.new w (.slice ao xs.length cap) m
  have c0 := D.c0
  have c1 := D.c1
  cases hv : validD xs m
  all_goals
    have HV := Lib.hid hv
    clear hv
    go_wp2_with fail
    refine (svD_v _ (D.nums HX.out) HV.out).mono ?_
    rintro e w1 ⟨rfl, hb⟩
    have D1 := D.step hb
    clear hb c0 c1
    have r0 := D1.r0
    have r1 := D1.r1
    have f0 := D1.free 0
    have f1 := D1.free 1
  · go_wp2
    exact bodyPost_ret (v := okD (.slice none 0 0) 0 false) (by simp [okD, results, Try.results68, go_sem, r0, r1]) rfl (newD_no (and_no1 (and_no1 HV)) (D1.done _ _))
  · clear r0 r1 f0 f1
    have hl := validD_len HV.out
    have hmm := validD_lim HV.out
    cases hm : areN ys
    all_goals
      have HM := Lib.hid hm
      go_wp2_with fail
      refine (svI_v _ (D1.nums HY.out) HM.out).mono ?_
      rintro e w2 ⟨rfl, hb⟩
      have D2 := D1.step hb
      clear hb
    · clear hm
      have r0 := D2.r0
      have r1 := D2.r1
      have f0 := D2.free 0
      have f1 := D2.free 1
      go_wp2
      exact bodyPost_ret (v := okD (.slice none 0 0) 0 false) (by simp [okD, results, Try.results68, go_sem, r0, r1]) rfl (newD_no (and_no1 (and_no2 HM)) (D2.done _ _))
    · have hq := (areN_iff.1 hm).1
      clear hm
      have hsz := D2.size
      have c0 := D2.c0
      have c1 := D2.c1
      have DD : DFrame w w2.drew (.slice ao xs.length cap) m := ⟨D2.arg, D2.res, D2.below.drew⟩
      have HRL : Hid (ys.reverse.length = ys.length) := by exact List.length_reverse
      go_wp2_with fail
      go_region_law (first
        | (go_simp; go_at_call 118; refine (turned_any _ ys _ (DD.nums HY.out) (by omega)).mono ?_; rintro e w3 ⟨v3, rfl, ho3, hb3⟩; have D3 := DD.step hb3; have k0 := D3.c0; have k1 := D3.c1)
        | (refine step_append_nums _ rfl (.tmp 16) (.tmp 18) rfl _ v3 _ _ (by simp [Act.eval]) ho3.1 (.slice ao xs.length cap) xs (by simp [Act.eval]) (D3.nums HX.out) (by have := HRL.out; omega) (by omega) hb3.size ?_; intro v4 w4 hown4 hgrow4; have hb4 := hb3.grown hgrow4 hb3.size (fun j hj => (ho3.1.lt j hj).1); have ho4 := app_own ho3.2 HX.out.ok hown4; have D4 := DD.step hb4; have k0 := D4.c0; have k1 := D4.c1)
        | (go_simp; go_at_call 117; refine (fitFront_any v4 (ys.reverse ++ xs) m _ ho4.nums (by have := HRL.out; rw [List.length_append]; omega) ).mono ?_; rintro e w5 ⟨v5, rfl, ho5, hb5⟩; have D5 := D4.step hb5)
        | (go_simp; go_at_call 82; refine (schkD_any v5 (exfL xs ys m) m _ ho5.own (Nat.le_refl _)).mono ?_; rintro e w6 ⟨v6, rfl, ho6, hb6⟩; have D6 := D5.step hb6; obtain ⟨xo, xcap, rfl, _, _⟩ := ho6.nums.slice; have HO := Lib.hid ho6; have r0 := D6.r0; have r1 := D6.r1; have f0 := D6.free 0; have f1 := D6.free 1))
      all_goals go_wp2
      all_goals exact bodyPost_ret (v := okD (.slice xo (chkN (exfL xs ys m) m).length xcap) (chkM (exfL xs ys m) m) (validD (exfL xs ys m) m)) (by simp [okD, results, Try.results68, go_sem, r0, r1]) rfl (newD_chk (and_yes HV HM) (D6.own HO.out (Nat.le_trans hsz hb4.size) _ _) (D6.done _ _))

set_option maxHeartbeats 3200000 in
set_option maxRecDepth 100000 in
theorem ExtendBack_any (v u : Value) (xs ys : List Int) (m : Int) (w : World) (h : Nums w v xs) (h' : Nums w u ys) :
    Calls Try.prog 23 #[.agg #[v, .int .i64 m], u] w (NewD (ifN (extB xs ys m) (extL xs ys m)) (ifI (extB xs ys m) m) (extB xs ys m) w) := by
  have HX := Lib.hid h
  have HY := Lib.hid h'
  have HK := Lib.hid h'.inK
  obtain ⟨ao, cap, rfl, _, _⟩ := h.slice
  obtain ⟨bo, bap, rfl, _, _⟩ := h'.slice
  clear h h'
  go_enter Try.func23, Try.ntmps23
  have D := DFrame.new w (.slice ao xs.length cap) m
  have c0 := D.c0
  have c1 := D.c1
  cases hv : validD xs m
  all_goals
    have HV := Lib.hid hv
    clear hv
    go_wp2_with fail
    refine (VD_v _ (D.nums HX.out) HV.out).mono ?_
    rintro e w1 ⟨rfl, hb⟩
    have D1 := D.step hb
    clear hb c0 c1
    have c0 := D1.c0
    have r0 := D1.r0
    have r1 := D1.r1
    have f0 := D1.free 0
    have f1 := D1.free 1
  · go_wp2
    exact bodyPost_ret (v := okD (.slice none 0 0) 0 false) (by simp [okD, results, Try.results23, go_sem, r0, r1]) rfl (newD_no (and_no1 (and_no1 HV)) (D1.done _ _))
  · have hl := validD_len HV.out
    have hmm := validD_lim HV.out
    cases hm : areN ys
    all_goals
      have HM := Lib.hid hm
      go_wp2_with fail
      refine (are_v _ (D1.nums HY.out) HM.out).mono ?_
      rintro e w2 ⟨rfl, rfl⟩
    · clear hm
      go_wp2
      exact bodyPost_ret (v := okD (.slice none 0 0) 0 false) (by simp [okD, results, Try.results23, go_sem, r0, r1]) rfl (newD_no (and_no1 (and_no2 HM)) (D1.done _ _))
    · have hq := (areN_iff.1 hm).1
      clear hm
      have hsz := D1.size
      obtain ⟨hm1, hm2⟩ := hmm
      go_wp2_with fail
      refine (rowOf_any _ xs _ (D1.nums HX.out) (by omega)).mono ?_
      rintro e w2 ⟨rfl, hr, hb⟩
      have HR := Lib.hid hr
      have D2 := D1.step hb
      clear hr hb c0 r0 r1 f0 f1
      go_wp2_with fail
      refine (extendBack_any _ ys _ HR.out (D2.nums HY.out) (by omega)).mono ?_
      rintro e w3 ⟨rfl, hr, hb⟩
      rw [new_append (by omega), Nat.add_assoc, ← List.length_append] at hr
      have hla : (xs ++ ys).length = xs.length + ys.length := List.length_append
      have HLA := Lib.hid hla
      clear hla
      have HR3 := Lib.hid hr
      have D3 := D2.past hb hsz
      clear hr hb
      have c1 := D3.c1
      go_wp2_with fail
      refine (keepLast_any m _ HR3.out (by have := HLA.out; omega) (by have := HLA.out; omega) hm1 hm2).mono ?_
      rintro e w4 ⟨rfl, hr, hb⟩
      have HR4 := Lib.hid hr
      have D4 := D3.past hb hsz
      clear hr hb c1
      have c1 := D4.c1
      have HI : Hid (itemsR (newRowN (xs ++ ys)) (keepL 10 (10 + (xs ++ ys).length) m) (10 + (xs ++ ys).length) = extL xs ys m) := by show _ = _; exact items_last hm1
      have hkk : keepL 10 (10 + (xs ++ ys).length) m ≤ 10 + (xs ++ ys).length ∧ 10 + (xs ++ ys).length ≤ 30 := by have := HLA.out; unfold keepL; split <;> omega
      have HKK := Lib.hid hkk
      clear hkk
      go_wp2_with fail
      refine (deque_any m _ HR4.out (okN_new (okN_append HX.out.ok HY.out.ok)) (by have := HKK.out; omega) (by have := HKK.out; omega)).mono ?_
      rw [HI.out]
      rintro e w5 ⟨v5, rfl, ho, hb⟩
      have D5 := D4.step hb
      have hsz4 := D4.size
      have HO := Lib.hid ho
      clear ho hb c1
      go_wp2_with fail
      refine (chkD_any v5 (extL xs ys m) m _ HO.out (Nat.le_refl _)).mono ?_
      rintro e w6 ⟨v6, rfl, ho, hb⟩
      have D6 := D5.step hb
      obtain ⟨xo, xcap, rfl, _, _⟩ := ho.nums.slice
      have HO6 := Lib.hid ho
      clear ho hb
      have r0 := D6.r0
      have r1 := D6.r1
      have f0 := D6.free 0
      have f1 := D6.free 1
      go_wp2
      exact bodyPost_ret (v := okD (.slice xo (chkN (extL xs ys m) m).length xcap) (chkM (extL xs ys m) m) (validD (extL xs ys m) m)) (by simp [okD, results, Try.results23, go_sem, r0, r1]) rfl (newD_chk (and_yes HV HM) (D6.own HO6.out hsz4 _ _) (D6.done _ _))

set_option maxHeartbeats 3200000 in
set_option maxRecDepth 100000 in
theorem ExtendFront_any (v u : Value) (xs ys : List Int) (m : Int) (w : World) (h : Nums w v xs) (h' : Nums w u ys) :
    Calls Try.prog 67 #[.agg #[v, .int .i64 m], u] w (NewD (ifN (exfB xs ys m) (exfL xs ys m)) (ifI (exfB xs ys m) m) (exfB xs ys m) w) := by
  have HX := Lib.hid h
  have HY := Lib.hid h'
  have HK := Lib.hid h'.inK
  obtain ⟨ao, cap, rfl, _, _⟩ := h.slice
  obtain ⟨bo, bap, rfl, _, _⟩ := h'.slice
  clear h h'
  go_enter Try.func67, Try.ntmps67
  have D := DFrame.new w (.slice ao xs.length cap) m
  have c0 := D.c0
  have c1 := D.c1
  cases hv : validD xs m
  all_goals
    have HV := Lib.hid hv
    clear hv
    go_wp2_with fail
    refine (VD_v _ (D.nums HX.out) HV.out).mono ?_
    rintro e w1 ⟨rfl, hb⟩
    have D1 := D.step hb
    clear hb c0 c1
    have c0 := D1.c0
    have r0 := D1.r0
    have r1 := D1.r1
    have f0 := D1.free 0
    have f1 := D1.free 1
  · go_wp2
    exact bodyPost_ret (v := okD (.slice none 0 0) 0 false) (by simp [okD, results, Try.results67, go_sem, r0, r1]) rfl (newD_no (and_no1 (and_no1 HV)) (D1.done _ _))
  · have hl := validD_len HV.out
    have hmm := validD_lim HV.out
    cases hm : areN ys
    all_goals
      have HM := Lib.hid hm
      go_wp2_with fail
      refine (are_v _ (D1.nums HY.out) HM.out).mono ?_
      rintro e w2 ⟨rfl, rfl⟩
    · clear hm
      go_wp2
      exact bodyPost_ret (v := okD (.slice none 0 0) 0 false) (by simp [okD, results, Try.results67, go_sem, r0, r1]) rfl (newD_no (and_no1 (and_no2 HM)) (D1.done _ _))
    · have hq := (areN_iff.1 hm).1
      clear hm
      have hsz := D1.size
      obtain ⟨hm1, hm2⟩ := hmm
      go_wp2_with fail
      refine (rowOf_any _ xs _ (D1.nums HX.out) (by omega)).mono ?_
      rintro e w2 ⟨rfl, hr, hb⟩
      have HR := Lib.hid hr
      have D2 := D1.step hb
      clear hr hb c0 r0 r1 f0 f1
      go_wp2_with fail
      refine (extendFront_any _ ys _ HR.out (D2.nums HY.out) (HK.out.mono (fun k hk => by omega)) (by omega) (by omega)).mono ?_
      rintro e w3 ⟨rfl, hr, hb⟩
      skip
      have HR3 := Lib.hid hr
      have D3 := D2.past hb hsz
      clear hr hb
      have c1 := D3.c1
      go_wp2_with fail
      refine (keepFirst_any m _ HR3.out (by omega) (by omega) hm1 hm2).mono ?_
      rintro e w4 ⟨rfl, hr, hb⟩
      have HR4 := Lib.hid hr
      have D4 := D3.past hb hsz
      clear hr hb c1
      have c1 := D4.c1
      have HI : Hid (itemsR (frontN (newRowN xs) 10 ys) (10 - ys.length) (keepF (10 - ys.length) (10 + xs.length) m) = exfL xs ys m) := by show _ = _; exact items_first hq hm1
      have hkk : 10 - ys.length ≤ keepF (10 - ys.length) (10 + xs.length) m ∧ keepF (10 - ys.length) (10 + xs.length) m ≤ 30 := by unfold keepF; split <;> omega
      have HKK := Lib.hid hkk
      clear hkk
      go_wp2_with fail
      refine (deque_any m _ HR4.out (okN_front (okN_new HX.out.ok) HY.out.ok) (by have := HKK.out; omega) (by have := HKK.out; omega)).mono ?_
      rw [HI.out]
      rintro e w5 ⟨v5, rfl, ho, hb⟩
      have D5 := D4.step hb
      have hsz4 := D4.size
      have HO := Lib.hid ho
      clear ho hb c1
      go_wp2_with fail
      refine (chkD_any v5 (exfL xs ys m) m _ HO.out (Nat.le_refl _)).mono ?_
      rintro e w6 ⟨v6, rfl, ho, hb⟩
      have D6 := D5.step hb
      obtain ⟨xo, xcap, rfl, _, _⟩ := ho.nums.slice
      have HO6 := Lib.hid ho
      clear ho hb
      have r0 := D6.r0
      have r1 := D6.r1
      have f0 := D6.free 0
      have f1 := D6.free 1
      go_wp2
      exact bodyPost_ret (v := okD (.slice xo (chkN (exfL xs ys m) m).length xcap) (chkM (exfL xs ys m) m) (validD (exfL xs ys m) m)) (by simp [okD, results, Try.results67, go_sem, r0, r1]) rfl (newD_chk (and_yes HV HM) (D6.own HO6.out hsz4 _ _) (D6.done _ _))
end Go.Proofs.Ytoglgeinnocfjaa
/-
  A number pushed, two deques added: by the model and by the program.
-/
namespace Go.Proofs.Ytoglgeinnocfjaa
open Go.RowKit Go.Deep

theorem newD_of {w w' : World} {v : Value} {xs : List Int} {m : Int} {b : Bool} (ho : OwnN w.heap.size w'.heap.size w' v xs) (h : Below w.heap.size w w') : NewD xs m b w (.returned (okD v m b)) w' := ⟨_, rfl, ho, h⟩
theorem ad_no {a b : Bool} {xs : List Int} {m : Int} {w w' : World} (ha : Hid (a = false)) (h : Below w.heap.size w w') : NewD (ifN (a && b) xs) (ifI (a && b) m) (a && b) w (.returned (okD (.slice none 0 0) 0 false)) w' := newD_no (and_no1 ha) h
theorem ad_yes {a b : Bool} {xs : List Int} {m : Int} {w : World} {e : Ending} {w' : World} (ha : Hid (a = true)) (h : NewD (ifN b xs) (ifI b m) b w e w') : NewD (ifN (a && b) xs) (ifI (a && b) m) (a && b) w e w' := by rw [ha.out, Bool.true_and]; exact h
def adB (xs ys : List Int) (m q : Int) : Bool := validD ys q && extB xs ys m
theorem ad_le (xs ys : List Int) (m q : Int) : (ifN (adB xs ys m q) (extL xs ys m)).length ≤ 10000000 := ifN_le fun h => by
  unfold adB extB at h
  rw [Bool.and_eq_true, Bool.and_eq_true] at h
  exact validD_len h.2.2

/-- Two arguments' boxes and the result's. -/
structure DFrame3 (W0 W : World) (v : Value) (m : Int) (u : Value) (q : Int) : Prop where
  arg : W.heap[W0.heap.size]? = some (.cells #[v, .int .i64 m] 25 (0, 0))
  arg2 : W.heap[W0.heap.size + 1]? = some (.cells #[u, .int .i64 q] 25 (0, 0))
  res : W.heap[W0.heap.size + 1 + 1]? = some (.cells #[.slice none 0 0, .int .i64 0] 25 (0, 0))
  below : Below W0.heap.size W0 W
theorem DFrame3.new (w : World) (v : Value) (m : Int) (u : Value) (q : Int) : DFrame3 w (((w.alloc (.cells #[v, .int .i64 m] 25)).alloc (.cells #[u, .int .i64 q] 25)).alloc (.cells #[.slice none 0 0, .int .i64 0] 25)) v m u q :=
  ⟨heap_old (heap_old (heap_new w _) _) _, heap_old (heap_at _ _ (by simp)) _, heap_at _ _ (by simp), (((Below.refl _ _).alloc (Nat.le_refl _) _).alloc (by simp) _).alloc (by simp <;> omega) _⟩
section
variable {W0 W : World} {v u : Value} {m q : Int}
theorem DFrame3.size (D : DFrame3 W0 W v m u q) : W0.heap.size + 3 ≤ W.heap.size := by
  have := (Array.getElem?_eq_some_iff.1 D.res).1
  omega
theorem DFrame3.step (D : DFrame3 W0 W v m u q) {W' : World} (hb : Below W.heap.size W W') : DFrame3 W0 W' v m u q := by
  have hs := D.size
  exact ⟨(hb.block _ (by omega)).trans D.arg, (hb.block _ (by omega)).trans D.arg2, (hb.block _ (by omega)).trans D.res, D.below.trans (hb.mono (by omega))⟩
theorem DFrame3.nums (D : DFrame3 W0 W v m u q) {z : Value} {xs : List Int} (h : Nums W0 z xs) : Nums W z xs := h.mono D.below (Nat.le_refl _)
theorem DFrame3.done (D : DFrame3 W0 W v m u q) (a b : Value) : Below W0.heap.size W0 ((W.setCell ⟨W0.heap.size + 1 + 1, 0, none⟩ a).setCell ⟨W0.heap.size + 1 + 1, 1, none⟩ b) := (D.below.setCell (by simp <;> omega) _).setCell (by simp <;> omega) _
theorem DFrame3.own (_D : DFrame3 W0 W v m u q) {lo : Nat} {z : Value} {xs : List Int} (h : OwnN lo W.heap.size W z xs) (hlo : W0.heap.size + 3 ≤ lo) (a b : Value) :
    OwnN W0.heap.size ((W.setCell ⟨W0.heap.size + 1 + 1, 0, none⟩ a).setCell ⟨W0.heap.size + 1 + 1, 1, none⟩ b).heap.size ((W.setCell ⟨W0.heap.size + 1 + 1, 0, none⟩ a).setCell ⟨W0.heap.size + 1 + 1, 1, none⟩ b) z xs :=
  (h.keeps (((Keeps.refl _ _).setCell (by simp [In]; omega) _).setCell (by simp [In]; omega) _)).wide (by omega) (by simp)
end
set_option maxHeartbeats 800000 in
set_option maxRecDepth 100000 in
theorem sPushFront_gen (v : Value) (xs : List Int) (m x : Int) (w : World) (h : Nums w v xs) (hx : -9223372036854775808 ≤ x ∧ x ≤ 9223372036854775807) (L : List Int) (N : Int) (B : Bool)
    (HE : ∀ v u w, Nums w v xs → Nums w u [x] → Calls Try.prog 68 #[.agg #[v, .int .i64 m], u] w (NewD L N B w)) :
    Calls Try.prog 17 #[.agg #[v, .int .i64 m], .int .i64 x] w (NewD L N B w) := by
  have HX := Lib.hid h
  have HEE := Lib.hid HE
  obtain ⟨ao, cap, rfl, _, _⟩ := h.slice
  clear h HE
  go_enter Try.func17, Try.ntmps17
  have D := DFrame.new w (.slice ao xs.length cap) m
  have c0 := D.c0
  have c1 := D.c1
  have D1 := D.step ((Below.refl _ _).alloc (Nat.le_refl _) (.cells #[.int .i64 x] 3))
  have hn := Nums_one ((w.alloc (.cells #[.slice ao xs.length cap, .int .i64 m] 25)).alloc (.cells #[.slice none 0 0, .int .i64 0] 25)) x 3 hx
  rw [show ((w.alloc (.cells #[.slice ao xs.length cap, .int .i64 m] 25)).alloc (.cells #[.slice none 0 0, .int .i64 0] 25)).heap.size = w.heap.size + 1 + 1 by simp] at hn
  have HN := Lib.hid hn
  clear hn
  go_wp2_with fail
  refine (HEE.out _ _ _ (D1.nums HX.out) HN.out).mono ?_
  rintro e w2 ⟨v2, rfl, ho, hb⟩
  have D2 := D1.step hb
  obtain ⟨xo, xcap, rfl, _, _⟩ := ho.nums.slice
  have HO := Lib.hid ho
  have hsz := D1.size
  clear ho hb c0 c1
  have r0 := D2.r0
  have r1 := D2.r1
  have f0 := D2.free 0
  have f1 := D2.free 1
  go_wp2
  exact bodyPost_ret (v := okD (.slice xo L.length xcap) N B) (by simp [okD, results, Try.results17, go_sem, r0, r1]) rfl (newD_of (D2.own HO.out hsz _ _) (D2.done _ _))
theorem sPushFront_any (v : Value) (xs : List Int) (m x : Int) (w : World) (h : Nums w v xs) (hx : -9223372036854775808 ≤ x ∧ x ≤ 9223372036854775807) :
    Calls Try.prog 17 #[.agg #[v, .int .i64 m], .int .i64 x] w (NewD (ifN (exfB xs [x] m) (exfL xs [x] m)) (ifI (exfB xs [x] m) m) (exfB xs [x] m) w) :=
  sPushFront_gen v xs m x w h hx _ _ _ (fun v u w h h' => sExtendFront_any v u xs [x] m w h h')

set_option maxHeartbeats 1600000 in
set_option maxRecDepth 100000 in
theorem sAddDeques_gen (v u : Value) (xs ys : List Int) (m q : Int) (w : World) (h : Nums w v xs) (h' : Nums w u ys) (L : List Int) (N : Int) (B : Bool)
    (HE : validD ys q = true → ∀ v u w, Nums w v xs → Nums w u ys → Calls Try.prog 24 #[.agg #[v, .int .i64 m], u] w (NewD L N B w))
    (HN : validD ys q = false → L = [] ∧ N = 0 ∧ B = false) :
    Calls Try.prog 32 #[.agg #[v, .int .i64 m], .agg #[u, .int .i64 q]] w (NewD L N B w) := by
  have HX := Lib.hid h
  have HY := Lib.hid h'
  have HEE := Lib.hid HE
  have HNN := Lib.hid HN
  obtain ⟨ao, cap, rfl, _, _⟩ := h.slice
  obtain ⟨bo, bap, rfl, _, _⟩ := h'.slice
  clear h h' HE HN
  go_enter Try.func32, Try.ntmps32
  have D := DFrame3.new w (.slice ao xs.length cap) m (.slice bo ys.length bap) q
  have c0 := two_cell0 D.arg
  have c1 := two_cell1 D.arg
  have d0 := two_cell0 D.arg2
  have d1 := two_cell1 D.arg2
  cases hv : validD ys q
  all_goals
    have HV := Lib.hid hv
    clear hv
    go_wp2_with fail
    refine (svD_v _ (D.nums HY.out) HV.out).mono ?_
    rintro e w1 ⟨rfl, hb⟩
    have D1 := D.step hb
    clear hb c0 c1 d0 d1
    have c0 := two_cell0 D1.arg
    have c1 := two_cell1 D1.arg
    have d0 := two_cell0 D1.arg2
  · obtain ⟨h1, h2, h3⟩ := HNN.out HV.out
    have r0 := two_cell0 D1.res
    have r1 := two_cell1 D1.res
    have f0 := two_free D1.res 0
    have f1 := two_free D1.res 1
    subst h1 h2 h3
    go_wp2
    exact bodyPost_ret (v := okD (.slice none 0 0) 0 false) (by simp [okD, results, Try.results32, go_sem, r0, r1]) rfl (newD_of (OwnN.none (by omega)) (D1.done _ _))
  · have hsz := D1.size
    go_wp2_with fail
    refine (HEE.out HV.out _ _ _ (D1.nums HX.out) (D1.nums HY.out)).mono ?_
    rintro e w2 ⟨v2, rfl, ho, hb⟩
    have D2 := D1.step hb
    obtain ⟨xo, xcap, rfl, _, _⟩ := ho.nums.slice
    have HO := Lib.hid ho
    clear ho hb c0 c1 d0
    have r0 := two_cell0 D2.res
    have r1 := two_cell1 D2.res
    have f0 := two_free D2.res 0
    have f1 := two_free D2.res 1
    go_wp2
    exact bodyPost_ret (v := okD (.slice xo L.length xcap) N B) (by simp [okD, results, Try.results32, go_sem, r0, r1]) rfl (newD_of (D2.own HO.out hsz _ _) (D2.done _ _))
theorem sAddDeques_any (v u : Value) (xs ys : List Int) (m q : Int) (w : World) (h : Nums w v xs) (h' : Nums w u ys) :
    Calls Try.prog 32 #[.agg #[v, .int .i64 m], .agg #[u, .int .i64 q]] w (NewD (ifN (adB xs ys m q) (extL xs ys m)) (ifI (adB xs ys m q) m) (adB xs ys m q) w) :=
  sAddDeques_gen v u xs ys m q w h h' _ _ _ (fun hv v u w h h' => by unfold adB; rw [hv, Bool.true_and]; exact sExtendBack_any v u xs ys m w h h') (fun hv => by unfold adB; rw [hv]; exact ⟨rfl, rfl, rfl⟩)

set_option maxHeartbeats 800000 in
set_option maxRecDepth 100000 in
theorem PushBack_gen (v : Value) (xs : List Int) (m x : Int) (w : World) (h : Nums w v xs) (hx : -9223372036854775808 ≤ x ∧ x ≤ 9223372036854775807) (L : List Int) (N : Int) (B : Bool)
    (HE : ∀ v u w, Nums w v xs → Nums w u [x] → Calls Try.prog 23 #[.agg #[v, .int .i64 m], u] w (NewD L N B w)) :
    Calls Try.prog 19 #[.agg #[v, .int .i64 m], .int .i64 x] w (NewD L N B w) := by
  have HX := Lib.hid h
  have HEE := Lib.hid HE
  obtain ⟨ao, cap, rfl, _, _⟩ := h.slice
  clear h HE
  go_enter Try.func19, Try.ntmps19
  have D := DFrame.new w (.slice ao xs.length cap) m
  have c0 := D.c0
  have c1 := D.c1
  have D1 := D.step ((Below.refl _ _).alloc (Nat.le_refl _) (.cells #[.int .i64 x] 3))
  have hn := Nums_one ((w.alloc (.cells #[.slice ao xs.length cap, .int .i64 m] 25)).alloc (.cells #[.slice none 0 0, .int .i64 0] 25)) x 3 hx
  rw [show ((w.alloc (.cells #[.slice ao xs.length cap, .int .i64 m] 25)).alloc (.cells #[.slice none 0 0, .int .i64 0] 25)).heap.size = w.heap.size + 1 + 1 by simp] at hn
  have HN := Lib.hid hn
  clear hn
  go_wp2_with fail
  refine (HEE.out _ _ _ (D1.nums HX.out) HN.out).mono ?_
  rintro e w2 ⟨v2, rfl, ho, hb⟩
  have D2 := D1.step hb
  obtain ⟨xo, xcap, rfl, _, _⟩ := ho.nums.slice
  have HO := Lib.hid ho
  have hsz := D1.size
  clear ho hb c0 c1
  have r0 := D2.r0
  have r1 := D2.r1
  have f0 := D2.free 0
  have f1 := D2.free 1
  go_wp2
  exact bodyPost_ret (v := okD (.slice xo L.length xcap) N B) (by simp [okD, results, Try.results19, go_sem, r0, r1]) rfl (newD_of (D2.own HO.out hsz _ _) (D2.done _ _))
theorem PushBack_any (v : Value) (xs : List Int) (m x : Int) (w : World) (h : Nums w v xs) (hx : -9223372036854775808 ≤ x ∧ x ≤ 9223372036854775807) :
    Calls Try.prog 19 #[.agg #[v, .int .i64 m], .int .i64 x] w (NewD (ifN (extB xs [x] m) (extL xs [x] m)) (ifI (extB xs [x] m) m) (extB xs [x] m) w) :=
  PushBack_gen v xs m x w h hx _ _ _ (fun v u w h h' => ExtendBack_any v u xs [x] m w h h')

set_option maxHeartbeats 800000 in
set_option maxRecDepth 100000 in
theorem PushFront_gen (v : Value) (xs : List Int) (m x : Int) (w : World) (h : Nums w v xs) (hx : -9223372036854775808 ≤ x ∧ x ≤ 9223372036854775807) (L : List Int) (N : Int) (B : Bool)
    (HE : ∀ v u w, Nums w v xs → Nums w u [x] → Calls Try.prog 67 #[.agg #[v, .int .i64 m], u] w (NewD L N B w)) :
    Calls Try.prog 16 #[.agg #[v, .int .i64 m], .int .i64 x] w (NewD L N B w) := by
  have HX := Lib.hid h
  have HEE := Lib.hid HE
  obtain ⟨ao, cap, rfl, _, _⟩ := h.slice
  clear h HE
  go_enter Try.func16, Try.ntmps16
  have D := DFrame.new w (.slice ao xs.length cap) m
  have c0 := D.c0
  have c1 := D.c1
  have D1 := D.step ((Below.refl _ _).alloc (Nat.le_refl _) (.cells #[.int .i64 x] 3))
  have hn := Nums_one ((w.alloc (.cells #[.slice ao xs.length cap, .int .i64 m] 25)).alloc (.cells #[.slice none 0 0, .int .i64 0] 25)) x 3 hx
  rw [show ((w.alloc (.cells #[.slice ao xs.length cap, .int .i64 m] 25)).alloc (.cells #[.slice none 0 0, .int .i64 0] 25)).heap.size = w.heap.size + 1 + 1 by simp] at hn
  have HN := Lib.hid hn
  clear hn
  go_wp2_with fail
  refine (HEE.out _ _ _ (D1.nums HX.out) HN.out).mono ?_
  rintro e w2 ⟨v2, rfl, ho, hb⟩
  have D2 := D1.step hb
  obtain ⟨xo, xcap, rfl, _, _⟩ := ho.nums.slice
  have HO := Lib.hid ho
  have hsz := D1.size
  clear ho hb c0 c1
  have r0 := D2.r0
  have r1 := D2.r1
  have f0 := D2.free 0
  have f1 := D2.free 1
  go_wp2
  exact bodyPost_ret (v := okD (.slice xo L.length xcap) N B) (by simp [okD, results, Try.results16, go_sem, r0, r1]) rfl (newD_of (D2.own HO.out hsz _ _) (D2.done _ _))
theorem PushFront_any (v : Value) (xs : List Int) (m x : Int) (w : World) (h : Nums w v xs) (hx : -9223372036854775808 ≤ x ∧ x ≤ 9223372036854775807) :
    Calls Try.prog 16 #[.agg #[v, .int .i64 m], .int .i64 x] w (NewD (ifN (exfB xs [x] m) (exfL xs [x] m)) (ifI (exfB xs [x] m) m) (exfB xs [x] m) w) :=
  PushFront_gen v xs m x w h hx _ _ _ (fun v u w h h' => ExtendFront_any v u xs [x] m w h h')

set_option maxHeartbeats 1600000 in
set_option maxRecDepth 100000 in
theorem AddDeques_gen (v u : Value) (xs ys : List Int) (m q : Int) (w : World) (h : Nums w v xs) (h' : Nums w u ys) (L : List Int) (N : Int) (B : Bool)
    (HE : validD ys q = true → ∀ v u w, Nums w v xs → Nums w u ys → Calls Try.prog 23 #[.agg #[v, .int .i64 m], u] w (NewD L N B w))
    (HN : validD ys q = false → L = [] ∧ N = 0 ∧ B = false) :
    Calls Try.prog 31 #[.agg #[v, .int .i64 m], .agg #[u, .int .i64 q]] w (NewD L N B w) := by
  have HX := Lib.hid h
  have HY := Lib.hid h'
  have HEE := Lib.hid HE
  have HNN := Lib.hid HN
  obtain ⟨ao, cap, rfl, _, _⟩ := h.slice
  obtain ⟨bo, bap, rfl, _, _⟩ := h'.slice
  clear h h' HE HN
  go_enter Try.func31, Try.ntmps31
  have D := DFrame3.new w (.slice ao xs.length cap) m (.slice bo ys.length bap) q
  have c0 := two_cell0 D.arg
  have c1 := two_cell1 D.arg
  have d0 := two_cell0 D.arg2
  have d1 := two_cell1 D.arg2
  cases hv : validD ys q
  all_goals
    have HV := Lib.hid hv
    clear hv
    go_wp2_with fail
    refine (VD_v _ (D.nums HY.out) HV.out).mono ?_
    rintro e w1 ⟨rfl, hb⟩
    have D1 := D.step hb
    clear hb c0 c1 d0 d1
    have c0 := two_cell0 D1.arg
    have c1 := two_cell1 D1.arg
    have d0 := two_cell0 D1.arg2
  · obtain ⟨h1, h2, h3⟩ := HNN.out HV.out
    have r0 := two_cell0 D1.res
    have r1 := two_cell1 D1.res
    have f0 := two_free D1.res 0
    have f1 := two_free D1.res 1
    subst h1 h2 h3
    go_wp2
    exact bodyPost_ret (v := okD (.slice none 0 0) 0 false) (by simp [okD, results, Try.results31, go_sem, r0, r1]) rfl (newD_of (OwnN.none (by omega)) (D1.done _ _))
  · have hsz := D1.size
    go_wp2_with fail
    refine (HEE.out HV.out _ _ _ (D1.nums HX.out) (D1.nums HY.out)).mono ?_
    rintro e w2 ⟨v2, rfl, ho, hb⟩
    have D2 := D1.step hb
    obtain ⟨xo, xcap, rfl, _, _⟩ := ho.nums.slice
    have HO := Lib.hid ho
    clear ho hb c0 c1 d0
    have r0 := two_cell0 D2.res
    have r1 := two_cell1 D2.res
    have f0 := two_free D2.res 0
    have f1 := two_free D2.res 1
    go_wp2
    exact bodyPost_ret (v := okD (.slice xo L.length xcap) N B) (by simp [okD, results, Try.results31, go_sem, r0, r1]) rfl (newD_of (D2.own HO.out hsz _ _) (D2.done _ _))
theorem AddDeques_any (v u : Value) (xs ys : List Int) (m q : Int) (w : World) (h : Nums w v xs) (h' : Nums w u ys) :
    Calls Try.prog 31 #[.agg #[v, .int .i64 m], .agg #[u, .int .i64 q]] w (NewD (ifN (adB xs ys m q) (extL xs ys m)) (ifI (adB xs ys m q) m) (adB xs ys m q) w) :=
  AddDeques_gen v u xs ys m q w h h' _ _ _ (fun hv v u w h h' => by unfold adB; rw [hv, Bool.true_and]; exact ExtendBack_any v u xs ys m w h h') (fun hv => by unfold adB; rw [hv]; exact ⟨rfl, rfl, rfl⟩)
end Go.Proofs.Ytoglgeinnocfjaa
