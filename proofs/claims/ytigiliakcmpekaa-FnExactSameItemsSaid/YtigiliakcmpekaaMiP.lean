/-
  Items that two lists have: by the program.
-/
import Derived.Test.YtigiliakcmpekaaKyP
import Derived.Test.YtigiliakcmpekaaNeq
namespace Go.Proofs.Ytigiliakcmpekaa
open Go.RowKit

theorem item_eql (a b : ByteArray) (m n : Int) (w : World) :
    (binOp .eql 104 (.agg #[.string a, .int .i64 m]) (.agg #[.string b, .int .i64 n])).run Try.prog w = .ok (.bool (decide (((a, m) : Itm) = (b, n)))) w := by
  have h := item_equalIn 9998 a b m n w
  simp only [binOp]
  simp only [Op.equal, Op.maxDepth, Sem.run_bind]
  rw [show (10000 : Nat) = 9998 + 1 + 1 from rfl, h, eqI_parts]
  rfl
theorem item_guardE (x y : Operand) (xs ys : Array Value) (w : World) : (eqGuard .eql 104 x y (.agg xs) (.agg ys)).run Try.prog w = .ok () w := by
  have hm : Try.prog.eqGuardType Try.prog.depth 104 = false := by kernel_rfl
  simp [eqGuard, run_program, hm]

/-- Is the item there? -/
def memI (x : Itm) (xs : List Itm) : Bool := xs.any fun y => decide (x = y)
theorem mem_step {xs : List Itm} {x : Itm} {k : Nat} (h : k < xs.length) (hx : ¬ x = xs[k]) : memI x (xs.drop k) = memI x (xs.drop (k + 1)) := by
  unfold memI
  rw [List.drop_eq_getElem_cons h, List.any_cons, decide_eq_false hx, Bool.false_or]
theorem mem_at {xs : List Itm} {x : Itm} {k : Nat} (h : k < xs.length) (hx : x = xs[k]) : memI x xs = true := by
  unfold memI
  rw [List.any_eq_true]
  exact ⟨xs[k], List.getElem_mem h, decide_eq_true hx⟩

set_option maxHeartbeats 1600000 in
set_option maxRecDepth 100000 in
theorem Index_any (v : Value) (xs : List Itm) (x : Itm) (w : World) (h : Items w v xs) :
    Calls Try.prog 188 #[v, .agg #[.string x.1, .int .i64 x.2]] w fun e w' => ∃ r : Int, e = .returned (.int .i64 r) ∧ Hid (decide (0 ≤ r) = memI x xs) ∧ Below w.heap.size w w' := by
  obtain ⟨ao, cap, rfl, hlc, hcm, hok, hcell⟩ := h
  have hg2 := item_guardE
  obtain ⟨s, n⟩ := x
  go_enter Try.func188, Try.ntmps188
  go_wp2
  go_loopw [8] (fun i wr => ∃ k : Nat, k ≤ xs.length ∧ i = .int .i64 k ∧ Hid (memI (s, n) xs = memI (s, n) (xs.drop k)) ∧ Hid (Below w.heap.size w wr) ∧ Hid (wr.heap[w.heap.size]? = some (.cells #[.string s, .int .i64 n] 104 (0, 0)))) (fun i _ => xs.length - (intOf i).toNat)
  case atStart => exact ⟨0, Nat.zero_le _, rfl, rfl, (Below.refl _ _).alloc (Nat.le_refl _) _, heap_alloc_new _ _⟩
  case round =>
    obtain ⟨k, hk, rfl, HQ, HB, HX⟩ := hrel
    by_cases hlt : k < xs.length
    · obtain ⟨b1, o1, rfl, hb1', h1, h2⟩ := hcell k hlt
      have c1 := (HB.out.cell (p := ⟨b1, _, none⟩) hb1').trans h1
      have c2 := (HB.out.cell (p := ⟨b1, _, none⟩) hb1').trans h2
      have d1 := two_cell0 HX.out
      have d2 := two_cell1 HX.out
      clear h1 h2
      by_cases hx : (s, n) = xs[k]
      · have hq : ∀ w', (binOp .eql 104 (.agg #[.string s, .int .i64 n]) (.agg #[.string xs[k].1, .int .i64 xs[k].2])).run Try.prog w' = .ok (.bool true) w' := fun w' => by
          rw [item_eql, decide_eq_true hx]
        have HM := Lib.hid (show memI (s, n) xs = true from mem_at hlt hx)
        clear hx
        go_wp2_with fail
        go_quiet (fail)
        go_wp2
        go_ret
        exact ⟨_, rfl, by rw [HM.out]; unfold Hid; simp, HB.out.trans ((drewN_belows ⟨_, rfl⟩).mono HB.out.size)⟩
      · have hq : ∀ w', (binOp .eql 104 (.agg #[.string s, .int .i64 n]) (.agg #[.string xs[k].1, .int .i64 xs[k].2])).run Try.prog w' = .ok (.bool false) w' := fun w' => by
          rw [item_eql, decide_eq_false hx]
        have HQ2 := Lib.hid (HQ.out.trans (mem_step hlt hx))
        clear hx
        go_wp2_with fail
        go_quiet (fail)
        go_wp2
        go_roundw
        case rel => exact ⟨k + 1, by omega, by go_num, HQ2, HB.out.trans ((drewN_belows ⟨_, rfl⟩).mono HB.out.size), HX⟩
        case measure => simp [intOf]; omega
    · obtain rfl : k = xs.length := by omega
      have HQ2 := Lib.hid (HQ.out.trans (show memI (s, n) (xs.drop xs.length) = false by unfold memI; simp))
      go_wp2
      go_ret
      exact ⟨_, rfl, by rw [HQ2.out]; unfold Hid; simp, HB.out⟩
theorem ContainsI_any (v : Value) (xs : List Itm) (x : Itm) (w : World) (h : Items w v xs) :
    Calls Try.prog 144 #[v, .agg #[.string x.1, .int .i64 x.2]] w (RetQ (.bool (memI x xs)) w) := by
  obtain ⟨s, n⟩ := x
  have HW : Hid (Below w.heap.size w (w.alloc (.cells #[.string s, .int .i64 n] 104))) := (Below.refl _ _).alloc (Nat.le_refl _) _
  go_enter Try.func144, Try.ntmps144
  go_wp2_with fail
  refine (Index_any v xs (s, n) _ (h.mono HW.out (Nat.le_refl _))).mono ?_
  rintro e w1 ⟨r, rfl, HR, hb1⟩
  have HB := Lib.hid (HW.out.trans (hb1.mono HW.out.size))
  clear hb1
  go_wp2
  go_ret
  exact ⟨ret_b (by rw [← HR.out]), HB.out⟩

def miI (a b : List Itm) : List Itm := a.filter fun x => memI x b
def miL (a b : List Itm) : List Itm := if okAB a b = true then miI a b else []
theorem mi_step {a b : List Itm} {k : Nat} (h : k < a.length) : miI (a.take (k + 1)) b = if memI a[k] b = true then miI (a.take k) b ++ [a[k]] else miI (a.take k) b := by
  unfold miI
  rw [List.take_succ_eq_append_getElem h, List.filter_append]
  cases hx : memI a[k] b
  · simp [hx]
  · simp [hx]
theorem mii_le (a b : List Itm) : (miI a b).length ≤ a.length := List.length_filter_le _ _
theorem mi_le (a b : List Itm) : (miL a b).length ≤ 10000000 := if_len fun h => by
  have := valid_len (okAB_iff.1 h).1
  have := mii_le a b
  omega

set_option maxHeartbeats 3200000 in
set_option maxRecDepth 100000 in
theorem MeetItems_any (va vb : Value) (a b : List Itm) (w : World) (ha : Items w va a) (hb : Items w vb b) :
    Calls Try.prog 67 #[va, vb] w (NewL (fun v => v) (miL a b) w) := by
  go_enter Try.func67, Try.ntmps67
  cases hv : okAB a b
  all_goals
    have HV := Lib.hid hv
    clear hv
    go_wp2_with fail
    refine (bothValid_v _ ha hb HV.out).mono ?_
    rintro e w1 ⟨rfl, hb1⟩
  · go_wp2
    go_ret
    exact ⟨_, rfl, by rw [show miL a b = [] by unfold miL; rw [HV.out]; rfl]; exact OwnI_nil _ _ _, hb1⟩
  · have hl := valid_len (okAB_iff.1 HV.out).1
    obtain ⟨i0, hi0, hz0, hz1, hz2⟩ := info_parts Try.infoI
    have HB1 := Lib.hid hb1
    have HBB := Lib.hid hb
    obtain ⟨ao, cap, rfl, hlc, hcm, hok, hcell⟩ := ha
    have HC := Lib.hid hcell
    have HOK := Lib.hid hok
    clear hb1 hcell hok hb
    go_wp2_with fail
    go_loopw [5, 14] (fun x i wr => ∃ k : Nat, k ≤ a.length ∧ i = .int .i64 k ∧ wr.ownsRow w.heap.size 104 2 x (miI (a.take k) b).length (cellsI (miI (a.take k) b)) ∧ Hid (Below w.heap.size w wr)) (fun _ i _ => a.length - (intOf i).toNat)
    case atStart => exact ⟨0, Nat.zero_le _, rfl, World.ownsRow_nil _ _ _ _, HB1⟩
    case round =>
      obtain ⟨k, hk, rfl, hrow, HB⟩ := hrel
      by_cases hlt : k < a.length
      · obtain ⟨b', o', rfl, hb', k1, k2⟩ := HC.out k hlt
        have c1 := (HB.out.cell (p := ⟨b', _, none⟩) hb').trans k1
        have c2 := (HB.out.cell (p := ⟨b', _, none⟩) hb').trans k2
        have HST := Lib.hid (mi_step (b := b) hlt)
        have hle := mii_le (a.take k) b
        have hle2 : (a.take k).length ≤ 8 := by simp; omega
        have HH := Lib.hid (show Items (wr.alloc (.cells #[.string a[k].1, .int .i64 a[k].2] 104)) vb b from HBB.out.mono (HB.out.alloc HB.out.size _) (Nat.le_refl _))
        have HX := Lib.hid (heap_alloc_new wr (.cells #[.string a[k].1, .int .i64 a[k].2] 104))
        have HROW := Lib.hid hrow
        have HSZ := Lib.hid HB.out.size
        clear k1 k2 hrow
        go_wp2_with fail
        refine (ContainsI_any _ b a[k] _ HH.out).mono ?_
        rintro e w3 ⟨rfl, hb3⟩
        have hB3 : Below wr.heap.size wr w3 := ((Below.refl wr.heap.size wr).alloc (Nat.le_refl _) _).trans (hb3.mono (by simp))
        have HX3 := (hb3.block wr.heap.size (by simp)).trans HX.out
        have d1 := two_cell0 HX3
        have d2 := two_cell1 HX3
        have hrow3 := ownsRow_below HROW.out hB3 (Nat.le_refl _)
        have hs3 := hB3.size
        have hbl3 := Lib.hid (HB.out.trans (hB3.mono HB.out.size))
        have hsz3 := hbl3.out.size
        generalize miI (a.take k) b = L at *
        obtain ⟨xo, xcap, rfl, _, _⟩ := own_slice hrow3
        clear hb3 hB3 c1 c2 HROW HH HX HX3
        cases hq : memI a[k] b
        · have HE := Lib.hid (HST.out.trans (if_neg (by simp [hq])))
          have HR3 := Lib.hid hrow3
          clear HST hrow3 d1 d2
          go_wp2
          go_roundw
          case rel => exact ⟨k + 1, by omega, by go_num, by rw [HE.out]; exact HR3.out, hbl3⟩
          case measure => simp [intOf]; omega
        · have HE := Lib.hid (HST.out.trans (if_pos hq))
          clear HST
          go_wp2_with (at_builtin; refine wpList_append_own _ rfl _ _ 34 rfl w.heap.size 104 i0 (.agg #[.string ⟨#[]⟩, .int .i64 0]) 2 24 Try.underlying34 hi0 hz0 hz1 hz2 rfl (by decide) (.slice xo L.length xcap) L.length (cellsI L) rfl (hrow3.alloc _) ⟨w3.heap.size, 0, none⟩ 1 1 [.string a[k].1, .int .i64 a[k].2] rfl rfl (cells_two_new _ _ _ _) (by intro u hu; simp at hu; rcases hu with rfl | rfl <;> rfl) (by unfold maxLen; omega) (by omega) (by simp; omega) ?_; intro v' w4 hown4 hgrow4 hnil4)
          have hs4 := hgrow4.size
          simp at hs4
          have hrow4 : w4.ownsRow w.heap.size 104 2 v' (L ++ [a[k]]).length (cellsI (L ++ [a[k]])) := by
            have e3 : (L ++ [a[k]]).length = L.length + 1 := by simp
            rw [cellsI_snoc, e3]; exact hown4
          have hb4 := (hbl3.out.alloc hbl3.out.size _).grown hgrow4 (by simp; omega) (fun j hj => (hrow3.lt j hj).1)
          have HB4 := Lib.hid hb4
          rw [← HE.out] at hrow4
          clear hown4 hgrow4 hnil4 hb4 hrow3 d1 d2
          go_wp2
          go_roundw
          case rel => exact ⟨k + 1, by omega, by go_num, hrow4, HB4⟩
          case measure => simp [intOf]; omega
      · obtain rfl : k = a.length := by omega
        rw [List.take_length] at hrow
        go_wp2
        go_ret
        exact ⟨_, rfl, by rw [show miL a b = miI a b from if_pos HV.out]; exact ⟨hrow, okI_filter HOK.out _⟩, HB.out⟩
end Go.Proofs.Ytigiliakcmpekaa
