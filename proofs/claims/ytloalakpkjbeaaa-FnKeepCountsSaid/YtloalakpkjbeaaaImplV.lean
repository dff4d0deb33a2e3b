/-
  The program's valid items.
-/
import Derived.Test.YtloalakpkjbeaaaValid
namespace Go.Proofs.Ytloalakpkjbeaaa
open Go.RowKit

theorem zeroB (w : World) : (zeroValue 4).run Try.prog w = .ok (.bool false) w := by kernel_rfl

theorem isKey_v {s : ByteArray} {b : Bool} (w : World) (hs : s.size ≤ 9223372036854775807) (h : keyB s = b) : Calls Try.prog 57 #[.string s] w fun e w' => e = .returned (.bool b) ∧ w = w' :=
  (isKey_any s w hs).mono fun _ _ ⟨he, hw⟩ => ⟨h ▸ he, hw⟩
theorem isNumber_v {n : Int} {b : Bool} (w : World) (h : numB n = b) : Calls Try.prog 58 #[.int .i64 n] w fun e w' => e = .returned (.bool b) ∧ w = w' :=
  (isNumber_any n w).mono fun _ _ ⟨he, hw⟩ => ⟨h ▸ he, hw⟩

theorem long_bad {xs : List Itm} (h : 8 < xs.length) : false = validI xs := by
  unfold validI
  rw [decide_eq_false (by omega), Bool.and_false]

set_option maxHeartbeats 800000 in
theorem ValidItems_any (v : Value) (xs : List Itm) (w : World) (h : Items w v xs) :
    Calls Try.prog 16 #[v] w fun e w' => e = .returned (.bool (validI xs)) ∧ Below w.heap.size w w' := by
  obtain ⟨ao, cap, rfl, hlc, hcm, hok, hcell⟩ := h
  have hmm := @run_makeMap Try.prog
  go_enter Try.func16, Try.ntmps16
  by_cases hlen : xs.length ≤ 8
  · go_wp2
    go_loopw [12] (fun i wr => ∃ k : Nat, k ≤ xs.length ∧ i = .int .i64 k ∧ Hid (goodI [] (xs.take k) = true) ∧ MapB 4 wr w.heap.size (xs.take k) ∧ Below w.heap.size w wr ∧ w.heap.size < wr.heap.size) (fun i _ => xs.length - (intOf i).toNat)
    case atStart => exact ⟨0, Nat.zero_le _, rfl, rfl, MapB_made _ _, (Below.refl _ _).alloc (Nat.le_refl _) _, by simp⟩
    case round =>
      obtain ⟨k, hk, rfl, HG, hown, hbl, hsz⟩ := hrel
      by_cases hlt : k < xs.length
      · obtain ⟨b, o, rfl, hb, h1, h2⟩ := hcell k hlt
        have c1 := (hbl.cell (p := ⟨b, _, none⟩) hb).trans h1
        have c2 := (hbl.cell (p := ⟨b, _, none⟩) hb).trans h2
        have hs := (hok _ (List.getElem_mem hlt)).1
        clear h1 h2
        cases hkey : keyB xs[k].1
        · have HK := Lib.hid hkey
          clear hkey
          go_wp2_with (go_at_call 57; refine (isKey_v _ hs HK.out).mono ?_; rintro e w1 ⟨rfl, rfl⟩)
          go_ret
          exact ⟨ret_bool (good_bad hlt (by rw [HK.out]; rfl)), hbl.alloc (Nat.le_of_lt hsz) _⟩
        · have HK := Lib.hid hkey
          clear hkey
          cases hnum : numB xs[k].2
          · have HN := Lib.hid hnum
            clear hnum
            go_wp2_with (first | (go_at_call 57; refine (isKey_v _ hs HK.out).mono ?_; rintro e w1 ⟨rfl, rfl⟩) | (go_at_call 58; refine (isNumber_v _ HN.out).mono ?_; rintro e w1 ⟨rfl, rfl⟩))
            go_ret
            exact ⟨ret_bool (good_bad hlt (by rw [HN.out, Bool.and_false])), hbl.alloc (Nat.le_of_lt hsz) _⟩
          · have HN := Lib.hid hnum
            clear hnum
            cases hhas : hasI (xs.take k) xs[k].1
            all_goals
              have HH := Lib.hid hhas
              clear hhas
            · go_wp2_with (first | (go_at_call 57; refine (isKey_v _ hs HK.out).mono ?_; rintro e w1 ⟨rfl, rfl⟩) | (go_at_call 58; refine (isNumber_v _ HN.out).mono ?_; rintro e w1 ⟨rfl, rfl⟩) | (at_lookup; refine wpl_lookB _ rfl _ _ 49 rfl (hown.alloc _) Try.underlying49 Try.underlying4 (zeroB _) rfl _ rfl hs ?_; rw [HH.out]) | (at_mapUpdate; refine wpl_storeB _ rfl _ _ _ 49 rfl (hown.alloc _) Try.underlying49 Try.underlying4 rfl _ rfl rfl xs[k].2 hs (by simp; omega) ?_; intro w2 hown2 hgrow2))
              have HG' : Hid (goodI [] (xs.take (k + 1)) = true) := by
                unfold Hid
                rw [good_step hlt, HG.out, HK.out, HH.out, HN.out]
                rfl
              have hs2 := hgrow2.size
              simp at hs2
              clear c1 c2
              go_roundw
              case rel => exact ⟨k + 1, by omega, by go_num, HG', by rw [List.take_succ_eq_append_getElem hlt]; exact hown2, (hbl.alloc (Nat.le_of_lt hsz) _).grown hgrow2 (by simp; omega) (fun j hj => by cases hj; exact Nat.le_refl _), by omega⟩
              case measure => simp [intOf]; omega
            · go_wp2_with (first | (go_at_call 57; refine (isKey_v _ hs HK.out).mono ?_; rintro e w1 ⟨rfl, rfl⟩) | (go_at_call 58; refine (isNumber_v _ HN.out).mono ?_; rintro e w1 ⟨rfl, rfl⟩) | (at_lookup; refine wpl_lookB _ rfl _ _ 49 rfl (hown.alloc _) Try.underlying49 Try.underlying4 (zeroB _) rfl _ rfl hs ?_; rw [HH.out]) | (at_mapUpdate; refine wpl_storeB _ rfl _ _ _ 49 rfl (hown.alloc _) Try.underlying49 Try.underlying4 rfl _ rfl rfl xs[k].2 hs (by simp; omega) ?_; intro w2 hown2 hgrow2))
              go_ret
              exact ⟨ret_bool (good_bad hlt (by rw [HH.out, HK.out]; rfl)), hbl.alloc (Nat.le_of_lt hsz) _⟩
      · obtain rfl : k = xs.length := by omega
        go_wp2
        go_ret
        refine ⟨ret_bool ?_, hbl⟩
        unfold validI
        have hg := HG.out
        rw [List.take_length] at hg
        rw [hg, decide_eq_true hlen]
        rfl
  · go_wp2
    go_ret
    exact ⟨ret_bool (long_bad (by omega)), Below.refl _ _⟩
end Go.Proofs.Ytloalakpkjbeaaa
