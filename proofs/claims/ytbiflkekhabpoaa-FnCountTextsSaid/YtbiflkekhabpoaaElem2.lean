/-
  The program's function.
-/
import Derived.Test.YtbiflkekhabpoaaElem
namespace Go.Proofs.Ytbiflkekhabpoaa
open Go.RowKit

theorem els_bad {a : List Itm} {k : Nat} (h : k < a.length) (hp : (40 : Int) < ((elsI (a.take k)).length : Int) + a[k].2) : ¬ (elsI a).length ≤ 40 := by
  have h1 := els_le a (k + 1)
  rw [els_take h, List.length_append, List.length_replicate] at h1
  omega

set_option maxHeartbeats 1600000 in
set_option maxRecDepth 100000 in
theorem Elements_gen (va : Value) (a : List Itm) (w : World) (G : List ByteArray) (K : Bool) (ha : Items w va a) (H : Hid (validI a = true))
    (hy : (elsI a).length ≤ 40 → Hid (G = elsI a) ∧ Hid (K = true)) (hno : ¬ (elsI a).length ≤ 40 → Hid (G = []) ∧ Hid (K = false)) :
    Calls Try.prog 63 #[va] w (NewT2 G K w) := by
  go_enter Try.func63, Try.ntmps63
  have hn := valid_len H.out
  have hnum := valid_num H.out
  go_wp2_with fail
  refine (Vi_v _ ha H.out).mono ?_
  rintro e w1 ⟨rfl, hb1⟩
  have ha3 := ha.mono hb1 (Nat.le_refl _)
  obtain ⟨ao, cap, rfl, hlc, hcm, hok, hcell⟩ := ha3
  clear ha
  obtain ⟨i0, hi0, hz0, hz1, hz2⟩ := info_parts Try.infoS
  have hown0 : w1.ownsRow w1.heap.size 9 1 (.slice none 0 0) 0 [] := World.ownsRow_nil _ _ _ _
  go_wp2
  go_loopw [4, 12] (fun x i wr => ∃ k : Nat, k ≤ a.length ∧ i = .int .i64 k ∧ (elsI (a.take k)).length ≤ 40 ∧ wr.ownsRow w1.heap.size 9 1 x (elsI (a.take k)).length (cellsT (elsI (a.take k))) ∧ Below w1.heap.size w1 wr) (fun _ i _ => a.length - (intOf i).toNat)
  case atStart => exact ⟨0, Nat.zero_le _, rfl, by simp [elsI], hown0, Below.refl _ _⟩
  case round =>
    obtain ⟨k, hk, rfl, h40, hrow, hbl⟩ := hrel
    by_cases hlt : k < a.length
    · obtain ⟨b, o, rfl, hb, h1, h2⟩ := hcell k hlt
      have c1 := (hbl.cell (p := ⟨b, _, none⟩) hb).trans h1
      have c2 := (hbl.cell (p := ⟨b, _, none⟩) hb).trans h2
      have hN := hnum _ (List.getElem_mem hlt)
      have hB := fun hp => hno (els_bad hlt hp)
      obtain ⟨L, hL⟩ : ∃ L, L = elsI (a.take k) := ⟨_, rfl⟩
      rw [← hL] at hrow h40 hB
      have HL := Lib.hid hL
      clear hL h1 h2 hy hno
      obtain ⟨xo, xcap, rfl, _, _⟩ := own_slice hrow
      have e1 : IntKind.i64.wrap ((L.length : Int) + a[k].2) = (L.length : Int) + a[k].2 := IntWalk.i64_in _ (by omega)
      by_cases hp : (40 : Int) < (L.length : Int) + a[k].2
      · have HG := (hB hp).1
        have HK := (hB hp).2
        clear hB
        go_wp2
        go_ret2
        rw [HG.out, HK.out]
        exact ⟨_, rfl, OwnT_nil _ _, hb1.trans (((hbl.alloc hbl.size _)).mono hb1.size)⟩
      · clear hB
        obtain ⟨wo, rfl⟩ : ∃ wo, wo = wr := ⟨_, rfl⟩
        have hblk : (wo.alloc (.cells #[.string a[k].1, .int .i64 a[k].2] 54)).heap[wo.heap.size]? = some (.cells #[.string a[k].1, .int .i64 a[k].2] 54 (0, 0)) := by
          show (wo.heap.push _)[wo.heap.size]? = _
          simp
        have hrow0 := hrow.alloc (.cells #[.string a[k].1, .int .i64 a[k].2] 54)
        have hbl0 := hbl.alloc hbl.size (.cells #[.string a[k].1, .int .i64 a[k].2] 54)
        go_wp2
        clear c1 c2
        go_loopw [4, 24] (fun x n wr => ∃ j : Nat, j ≤ a[k].2.toNat ∧ n = .int .i64 j ∧ wr.ownsRow w1.heap.size 9 1 x (L ++ List.replicate j a[k].1).length (cellsT (L ++ List.replicate j a[k].1)) ∧ Below w1.heap.size w1 wr ∧ wr.heap[wo.heap.size]? = some (.cells #[.string a[k].1, .int .i64 a[k].2] 54 (0, 0))) (fun _ n _ => a[k].2.toNat - (intOf n).toNat)
        case atStart => exact ⟨0, Nat.zero_le _, rfl, by simpa using hrow0, hbl0, hblk⟩
        case round =>
          clear hrow hrow0 hbl0 hblk
          obtain ⟨j, hj, rfl, hrow, hbl2, hblk⟩ := hrel
          have hlen : (L ++ List.replicate j a[k].1).length = L.length + j := by simp
          by_cases hq : (j : Int) < a[k].2
          · have c1 := two_cell0 hblk
            have hjlt : j < a[k].2.toNat := by omega
            obtain ⟨xo2, xcap2, rfl, _, _⟩ := own_slice hrow
            have hne := own_ne hrow hblk (by decide)
            go_wp2_with (at_builtin; refine wpList_append_own _ rfl _ _ 31 rfl w1.heap.size 9 i0 (.string ⟨#[]⟩) 1 16 Try.underlying31 hi0 hz0 hz1 hz2 rfl (by decide) (.slice xo2 (L ++ List.replicate j a[k].1).length xcap2) (L ++ List.replicate j a[k].1).length (cellsT (L ++ List.replicate j a[k].1)) rfl (hrow.alloc _) ⟨wr.heap.size, 0, none⟩ 1 1 [.string a[k].1] rfl rfl (cell_one_new _ _ _) (by intro u hu; simp at hu; subst hu; rfl) (by unfold maxLen; omega) (by omega) (by have := hbl2.size; simp; omega) ?_; intro v' w4 hown4 hgrow4 hnil4)
            have hrow4 : w4.ownsRow w1.heap.size 9 1 v' (L ++ List.replicate (j + 1) a[k].1).length (cellsT (L ++ List.replicate (j + 1) a[k].1)) := by
              have e3 : (L ++ List.replicate (j + 1) a[k].1).length = (L ++ List.replicate j a[k].1).length + 1 := by simp; omega
              rw [rep_snoc, e3]; exact hown4
            have hb4 := (hbl2.alloc hbl2.size _).grown hgrow4 (by have := hbl2.size; simp; omega) (fun j hj => (hrow.lt j hj).1)
            have hblk4 := grow_block hblk hgrow4 hne
            clear hown4 hrow c1 hgrow4 hnil4 hblk
            go_roundw
            case rel => exact ⟨j + 1, by omega, by go_num, hrow4, hb4, hblk4⟩
            case measure => simp [intOf]; omega
          · have hje : j = a[k].2.toNat := by omega
            have e5 : elsI (a.take (k + 1)) = L ++ List.replicate j a[k].1 := by rw [els_take hlt, ← HL.out, hje]
            have h40' : (elsI (a.take (k + 1))).length ≤ 40 := by rw [e5, hlen]; omega
            rw [← e5] at hrow
            have HR := Lib.hid hrow
            clear hrow e5 hlen hblk
            go_wp2
            go_roundw
            case rel => exact ⟨k + 1, by omega, by go_num, h40', HR.out, hbl2⟩
            case measure => simp [intOf]; omega
    · obtain rfl : k = a.length := by omega
      rw [List.take_length] at hrow h40
      have HG := (hy h40).1
      have HK := (hy h40).2
      clear hy hno
      go_wp2
      go_ret2
      rw [HG.out, HK.out]
      exact ⟨_, rfl, ⟨ownsRow_base hrow hb1.size, els_ok hok⟩, hb1.trans (hbl.mono hb1.size)⟩
theorem Elements_any (va : Value) (a : List Itm) (w : World) (ha : Items w va a) :
    Calls Try.prog 63 #[va] w (NewT2 (if (validI a && decide ((elsI a).length ≤ 40)) = true then elsI a else []) (validI a && decide ((elsI a).length ≤ 40)) w) := by
  cases hv : validI a
  · have H := Lib.hid hv
    clear hv
    go_enter Try.func63, Try.ntmps63
    go_wp2_with fail
    refine (Vi_v _ ha H.out).mono ?_
    rintro e w1 ⟨rfl, hb1⟩
    go_wp2
    go_ret2
    exact ⟨_, rfl, OwnT_nil _ _, hb1⟩
  · refine Elements_gen va a w _ _ ha hv (fun h => ?_) (fun h => ?_)
    · exact ⟨by unfold Hid; simp [h], by unfold Hid; simp [h]⟩
    · exact ⟨by unfold Hid; simp [h], by unfold Hid; simp [h]⟩
theorem if_els_le (a : List Itm) : (if (validI a && decide ((elsI a).length ≤ 40)) = true then elsI a else []).length ≤ 10000000 := by
  split
  · rename_i h
    simp only [Bool.and_eq_true, decide_eq_true_eq] at h
    omega
  · simp
end Go.Proofs.Ytbiflkekhabpoaa
