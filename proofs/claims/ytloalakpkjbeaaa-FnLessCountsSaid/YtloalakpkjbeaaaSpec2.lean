/-
  The model's sums.
-/
import Derived.Test.YtloalakpkjbeaaaSpecB
import Derived.Test.YtloalakpkjbeaaaSpecR
namespace Go.Proofs.Ytloalakpkjbeaaa
open Go.RowKit

theorem count_v {v : Value} {xs : List Itm} {s : ByteArray} (w : World) (h : Items w v xs) : Calls Try.prog 64 #[v, .string s] w fun e w' => e = .returned (.int .i64 (cnt xs s)) ∧ w' = w :=
  (count_any v xs s w h).mono fun _ _ ⟨he, hw⟩ => ⟨he, hw.symm⟩

set_option maxHeartbeats 1600000 in
set_option maxRecDepth 100000 in
theorem updated_any (va vb : Value) (a b : List Itm) (m : Int) (w : World) (ha : Items w va a) (hb : Items w vb b) (hla : a.length ≤ 1000) (hca : cntLe a 1000000000) (hsb : smallI b m) :
    Calls Try.prog 72 #[va, vb, .int .i64 m] w (FreshI (addAll a b m) w) := by
  obtain ⟨ao, cap, rfl, hlc, hcm, hok, hcell⟩ := hb
  have hl40 := hsb.1
  go_enter Try.func72, Try.ntmps72
  go_wp2_with fail
  refine (copyItems_any va a w ha (by omega)).mono ?_
  rintro e w1 ⟨v1, rfl, ho1, hb1⟩
  clear ha
  go_wp2
  go_loopw [7, 8] (fun x i wr => ∃ k : Nat, k ≤ b.length ∧ i = .int .i64 k ∧ OwnI 39 wr w.heap.size x (addAll a (b.take k) m) ∧ Below w.heap.size w wr) (fun _ i _ => b.length - (intOf i).toNat)
  case atStart => exact ⟨0, Nat.zero_le _, rfl, ho1, hb1⟩
  case round =>
    obtain ⟨k, hk, rfl, hrow, hbl⟩ := hrel
    by_cases hlt : k < b.length
    · obtain ⟨b1, o1, rfl, hb1', h1, h2⟩ := hcell k hlt
      have c1 := (hbl.cell (p := ⟨b1, _, none⟩) hb1').trans h1
      have c2 := (hbl.cell (p := ⟨b1, _, none⟩) hb1').trans h2
      have hs := (hok _ (List.getElem_mem hlt)).1
      have hsm := sum_step hsb hca hlt
      have hmul := hsb.2 _ (List.getElem_mem hlt)
      rw [Int.mul_comm b[k].2 m] at hmul hsm
      have hln := addAll_length (b.take k) m a
      have htk : (b.take k).length ≤ 40 := (take_small hsb k).1
      have hI := Lib.hid hrow.items
      have e1 : IntKind.i64.wrap (m * b[k].2) = m * b[k].2 := IntWalk.i64_in _ (by omega)
      have e2 : IntKind.i64.wrap (cnt (addAll a (b.take k) m) b[k].1 + m * b[k].2) = cnt (addAll a (b.take k) m) b[k].1 + m * b[k].2 := IntWalk.i64_in _ (by omega)
      obtain ⟨xo, xcap, rfl, _, _⟩ := own_slice hrow.1
      have HR := Lib.hid hrow
      clear h1 h2 hrow
      go_wp2_with fail
      refine wp_region_still_tail 21 (by kernel_rfl) (by kernel_rfl) ?_
      simp only [List.take_succ_cons, List.take_zero, List.drop_succ_cons, List.drop_zero]
      repeat still_step
      still_call (count_v _ hI.out.drew)
      repeat still_step
      refine wpStill_nil ?_
      change wpList _ _ _ _ _ wr.drew
      go_wp2_with fail
      refine (put_any _ _ _ _ _ hI.out.drew (by omega) hs (by omega)).mono ?_
      rintro e w2 ⟨v2, rfl, ho2, hb2⟩
      have ho3 := Lib.hid (ho2.base (show w.heap.size ≤ wr.drew.heap.size from hbl.size))
      have hb3 := Lib.hid (hbl.drew.trans (hb2.mono hbl.size))
      have ht := Lib.hid (addAll_take (t := a) (m := m) hlt)
      have hm := Lib.hid (Int.mul_comm b[k].2 m)
      clear ho2 hb2 c1 c2 e1 e2 hln htk hmul hsm
      go_wp2
      go_roundw
      case rel => exact ⟨k + 1, by omega, by go_num, by rw [ht.out, hm.out]; exact ho3.out, hb3.out⟩
      case measure => simp [intOf]; omega
    · obtain rfl : k = b.length := by omega
      rw [List.take_length] at hrow
      go_wp2
      go_ret
      exact ⟨_, rfl, hrow, hbl⟩
end Go.Proofs.Ytloalakpkjbeaaa
