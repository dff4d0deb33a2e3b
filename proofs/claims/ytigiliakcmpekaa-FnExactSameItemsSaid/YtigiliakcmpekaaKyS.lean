/-
  The keys of items as a new list of texts: the model's and the program's.
-/
import Derived.Test.YtigiliakcmpekaaSpecR
import Derived.Test.YtigiliakcmpekaaStr2
import Derived.Test.YtigiliakcmpekaaNew
namespace Go.Proofs.Ytigiliakcmpekaa
open Go.RowKit

def kysI (l : List Itm) : List ByteArray := l.map Prod.fst
theorem kys_step {l : List Itm} {k : Nat} (h : k < l.length) : kysI (l.take (k + 1)) = kysI (l.take k) ++ [l[k].1] := by
  unfold kysI
  rw [List.take_succ_eq_append_getElem h, List.map_append]
  rfl
theorem kys_len (l : List Itm) : (kysI l).length = l.length := by unfold kysI; simp
theorem kys_ok {l : List Itm} (h : okI l) : okT (kysI l) := fun t ht => by
  obtain ⟨x, hx, rfl⟩ := List.mem_map.1 ht
  exact (h x hx).1

theorem cell_new1 (w : World) (X : Go.Obj) (a : Value) (E : TypeId) : ∀ (j : Nat) (u : Value), [a][j]? = some u → ((w.alloc X).alloc (.cells #[a] E)).cell? ((⟨w.heap.size + 1, 0, none⟩ : Addr).add j) = some u := by
  have h := cell_one_new (w.alloc X) a E
  have e : (w.alloc X).heap.size = w.heap.size + 1 := by simp
  rw [e] at h
  exact h

set_option maxHeartbeats 1600000 in
set_option maxRecDepth 100000 in
theorem skeysOf_any (v : Value) (xs : List Itm) (w : World) (h : Items w v xs) (hn : xs.length ≤ 1000000) :
    Calls Try.prog 137 #[v] w (NewT (fun v => v) (kysI xs) w) := by
  obtain ⟨ao, cap, rfl, hlc, hcm, hok, hcell⟩ := h
  obtain ⟨i0, hi0, hz0, hz1, hz2⟩ := info_parts Try.infoS
  have hown0 := World.ownsRow_lit (base := w.heap.size) (e := 9) (size := 1) w #[] 0 (Nat.le_refl _) (by unfold maxLen; omega) rfl
  go_enter Try.func137, Try.ntmps137
  go_wp2
  go_loopw [3, 4] (fun x i wr => ∃ k : Nat, k ≤ xs.length ∧ i = .int .i64 k ∧ wr.ownsRow w.heap.size 9 1 x (kysI (xs.take k)).length (cellsT (kysI (xs.take k))) ∧ Below w.heap.size w wr ∧ w.heap.size < wr.heap.size) (fun _ i _ => xs.length - (intOf i).toNat)
  case atStart => exact ⟨0, Nat.zero_le _, rfl, hown0, (Below.refl _ _).alloc (Nat.le_refl _) _, by simp⟩
  case round =>
    obtain ⟨k, hk, rfl, hrow, hbl, hsz⟩ := hrel
    by_cases hlt : k < xs.length
    · obtain ⟨b, o, rfl, hb, h1, _⟩ := hcell k hlt
      have c1 := (hbl.cell (p := ⟨b, _, none⟩) hb).trans h1
      have HLN : (kysI (xs.take k)).length ≤ 1000000 := by rw [kys_len]; simp; omega
      have HE := Lib.hid (kys_step hlt)
      generalize kysI (xs.take k) = L at *
      obtain ⟨xo, xcap, rfl, _, _⟩ := own_slice hrow
      clear h1
      go_wp2_with (at_builtin; refine wpList_append_own _ rfl _ _ 57 rfl w.heap.size 9 i0 (.string ⟨#[]⟩) 1 16 Try.underlying57 hi0 hz0 hz1 hz2 rfl (by decide) (.slice xo L.length xcap) L.length (cellsT L) rfl (hrow.alloc _) ⟨wr.heap.size, 0, none⟩ 1 1 [.string xs[k].1] rfl rfl (cell_one_new _ _ _) (by intro u hu; simp at hu; subst hu; rfl) (by unfold maxLen; omega) (by omega) (by simp; omega) ?_; intro v' w4 hown4 hgrow4 hnil4)
      have hs4 := hgrow4.size
      simp at hs4
      have hrow4 : w4.ownsRow w.heap.size 9 1 v' (L ++ [xs[k].1]).length (cellsT (L ++ [xs[k].1])) := by
        have e3 : (L ++ [xs[k].1]).length = L.length + 1 := by simp
        rw [cellsT_snoc, e3]; exact hown4
      have hb4 := (hbl.alloc (Nat.le_of_lt hsz) _).grown hgrow4 (by simp; omega) (fun j hj => (hrow.lt j hj).1)
      rw [← HE.out] at hrow4
      clear hown4 hgrow4 hnil4 hrow c1
      go_roundw
      case rel => exact ⟨k + 1, by omega, by go_num, hrow4, hb4, by omega⟩
      case measure => simp [intOf]; omega
    · obtain rfl : k = xs.length := by omega
      rw [List.take_length] at hrow
      go_wp2
      go_ret
      exact ⟨_, rfl, ⟨hrow, kys_ok hok⟩, hbl⟩

set_option maxHeartbeats 1600000 in
set_option maxRecDepth 100000 in
theorem keysOf_any (v : Value) (xs : List Itm) (w : World) (h : Items w v xs) (hn : xs.length ≤ 100000) :
    Calls Try.prog 143 #[v] w (NewT (fun v => v) (kysI xs) w) := by
  obtain ⟨ao, cap, rfl, hlc, hcm, hok, hcell⟩ := h
  obtain ⟨i0, hi0, hz0, hz1, hz2⟩ := info_parts Try.infoS
  have hbytes : i0.bytes * xs.length ≤ 281474976710656 := by rw [hz2]; omega
  go_enter Try.func143, Try.ntmps143
  go_wp2_with (at_make; refine wpList_make_own _ rfl _ _ 57 rfl w.heap.size 9 i0 _ 1 Try.underlying57 hi0 hz0 hz1 _ _ _ xs.length rfl rfl rfl hbytes (by unfold maxLen; omega) (Nat.le_refl _) ?_; intro w1 hown1 hgrow1)
  have hb1 : Below w.heap.size w w1 := (Below.refl _ _).grown hgrow1 (Nat.le_refl _) (fun k hk => by cases hk)
  have hlt0 := (hown1.lt w.heap.size rfl).2
  have HO1 := Lib.hid hown1
  clear hgrow1 hown1
  go_wp2_with fail
  go_loopw [3, 11] (fun x i wr => ∃ k : Nat, k ≤ xs.length ∧ i = .int .i64 k ∧ wr.ownsRow w.heap.size 9 1 x (kysI (xs.take k)).length (cellsT (kysI (xs.take k))) ∧ Below w.heap.size w wr ∧ w.heap.size < wr.heap.size) (fun _ i _ => xs.length - (intOf i).toNat)
  case atStart => exact ⟨0, Nat.zero_le _, rfl, HO1.out, hb1, hlt0⟩
  case round =>
    obtain ⟨k, hk, rfl, hrow, hbl, hsz⟩ := hrel
    by_cases hlt : k < xs.length
    · obtain ⟨b, o, rfl, hb, h1, h2⟩ := hcell k hlt
      have c1 := (hbl.cell (p := ⟨b, _, none⟩) hb).trans h1
      have c2 := (hbl.cell (p := ⟨b, _, none⟩) hb).trans h2
      have HLN : (kysI (xs.take k)).length ≤ 1000000 := by rw [kys_len]; simp; omega
      have HE := Lib.hid (kys_step hlt)
      generalize kysI (xs.take k) = L at *
      obtain ⟨xo, xcap, rfl, _, _⟩ := own_slice hrow
      clear h1 h2
      go_wp2_with (at_builtin; refine wpList_append_own _ rfl _ _ 57 rfl w.heap.size 9 i0 (.string ⟨#[]⟩) 1 16 Try.underlying57 hi0 hz0 hz1 hz2 rfl (by decide) (.slice xo L.length xcap) L.length (cellsT L) rfl ((hrow.alloc _).alloc _) ⟨wr.heap.size + 1, 0, none⟩ 1 1 [.string xs[k].1] rfl rfl (cell_new1 _ _ _ _) (by intro u hu; simp at hu; subst hu; rfl) (by unfold maxLen; omega) (by omega) (by simp; omega) ?_; intro v' w4 hown4 hgrow4 hnil4)
      have hs4 := hgrow4.size
      simp at hs4
      have hrow4 : w4.ownsRow w.heap.size 9 1 v' (L ++ [xs[k].1]).length (cellsT (L ++ [xs[k].1])) := by
        have e3 : (L ++ [xs[k].1]).length = L.length + 1 := by simp
        rw [cellsT_snoc, e3]; exact hown4
      have hb4 := ((hbl.alloc (Nat.le_of_lt hsz) _).alloc (by simp; omega) _).grown hgrow4 (by simp; omega) (fun j hj => (hrow.lt j hj).1)
      rw [← HE.out] at hrow4
      clear hown4 hgrow4 hnil4 hrow c1 c2
      go_roundw
      case rel => exact ⟨k + 1, by omega, by go_num, hrow4, hb4, by omega⟩
      case measure => simp [intOf]; omega
    · obtain rfl : k = xs.length := by omega
      rw [List.take_length] at hrow
      go_wp2
      go_ret
      exact ⟨_, rfl, ⟨hrow, kys_ok hok⟩, hbl⟩
end Go.Proofs.Ytigiliakcmpekaa
