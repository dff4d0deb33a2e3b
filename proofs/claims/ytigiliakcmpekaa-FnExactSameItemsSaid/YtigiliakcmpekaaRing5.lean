/-
  The program's ring: listed, made of a list; a key found in it, an item put into it.
-/
import Derived.Test.YtigiliakcmpekaaRing4
namespace Go.Proofs.Ytigiliakcmpekaa
open Go.RowKit

section
variable {K : Nat → Prop} {w w' : World} {r rt : Nat} {ns : List Nod}

theorem its_app (a b : List Nod) : its (a ++ b) = its a ++ its b := by simp
theorem its_len (a : List Nod) : (its a).length = a.length := by simp

set_option maxHeartbeats 1600000 in
set_option maxRecDepth 100000 in
theorem values_any (h : RingAt K w r rt ns) (hl : ns.length ≤ 100000) :
    Calls Try.prog 253 #[.pointer (some ⟨r, 0, none⟩)] w (FreshI (its ns) w) := by
  have HR := Lib.hid h
  have c1 := two_cell1 h.head
  clear h
  obtain ⟨i0, hi, hz0, hz1, hz2⟩ := info_parts Try.infoI
  have hbytes : i0.bytes * ns.length ≤ 281474976710656 := by rw [hz2]; omega
  go_enter Try.func253, Try.ntmps253
  go_wp2_with (at_make; refine wpList_make_own _ rfl _ _ 34 rfl w.heap.size 104 i0 _ 2 Try.underlying34 hi hz0 hz1 _ _ _ ns.length rfl rfl rfl hbytes (by unfold maxLen; omega) (Nat.le_refl _) ?_; intro w1 hown1 hgrow1)
  have hb1 : Below w.heap.size w w1 := (Below.refl _ _).grown hgrow1 (Nat.le_refl _) (fun k hk => by cases hk)
  have hlt0 := (hown1.lt w.heap.size rfl).2
  have HB1 := Lib.hid hb1
  have HO1 := Lib.hid hown1
  clear hgrow1 hown1 hb1 c1
  refine (first_any (HR.out.below HB1.out)).mono ?_
  rintro e w2 ⟨rfl, rfl⟩
  go_wp2_with fail
  go_loopg [3, 4] ns.length (fun g x at' wr => ∃ (l r2 : List Nod), Hid (ns = l ++ r2) ∧ at' = .pointer (some ⟨fstOr r2 rt, 0, none⟩) ∧ r2.length ≤ g ∧ x = .slice (some ⟨w.heap.size, 0, none⟩) l.length ns.length ∧
      Hid (wr.ownsRow w.heap.size 104 2 (.slice (some ⟨w.heap.size, 0, none⟩) l.length ns.length) l.length (cellsI (its l))) ∧ Hid (Below w.heap.size w wr) ∧ w.heap.size < wr.heap.size)
  case atStart => exact ⟨[], ns, rfl, rfl, Nat.le_refl _, rfl, HO1.out, HB1.out, hlt0⟩
  case round =>
    obtain ⟨l, r2, HN, rfl, hle, rfl, HO, HB, hsz⟩ := hrel
    have hRr := HR.out.below HB.out
    have c0 := two_cell0 hRr.head
    cases r2 with
    | nil =>
      have e0 : fstOr [] rt = rt := rfl
      rw [e0]
      have hq := neq_same wr rt
      clear hRr
      go_wp2
      go_ret
      have hn : ns = l := by rw [HN.out]; simp
      refine ⟨_, rfl, ⟨?_, HR.out.ok⟩, HB.out⟩
      have := HO.out
      rw [its_len]
      rw [← hn] at this
      rw [← hn]
      exact this
    | cons n r3 =>
      obtain ⟨a, x⟩ := n
      have hnd := chain_at (l := l) (r2 := r3) (a := a) (x := x) (by rw [← HN.out]; exact hRr)
      have hne : a ≠ rt := by
        have := HR.out.nodup
        rw [HN.out] at this
        have h2 := (List.nodup_cons.1 this).1
        intro e
        exact h2 (by rw [← e]; simp)
      have hlt : a < wr.heap.size := lt_of_block hnd
      have halt : a < w.heap.size := HR.out.lt.2 a (by rw [HN.out]; simp)
      obtain ⟨d0, d1, d2, d3⟩ := nd_cells hnd
      have e0 : fstOr ((a, x) :: r3) rt = a := rfl
      rw [e0]
      obtain ⟨zr, hz⟩ := hRr.root
      have hq := neq_other hne hnd hz
      have hll : l.length < ns.length := by rw [HN.out]; simp
      have HN2 : Hid (ns = (l ++ [(a, x)]) ++ r3) := by unfold Hid; rw [HN.out]; simp
      have hle' : r3.length + 1 ≤ gk := by simpa using hle
      clear hz hnd hRr d2 hle
      go_wp2_with (at_builtin; refine wpList_append_fits _ rfl _ _ 34 rfl w.heap.size 104 i0 2 Try.underlying34 hi hz1 w.heap.size l.length ns.length (cellsI (its l)) rfl (HO.out.alloc _) ⟨wr.heap.size, 0, none⟩ 1 1 [.string x.1, .int .i64 x.2] rfl rfl (cells_two_new _ _ _ _) (by intro u hu; simp at hu; rcases hu with rfl | rfl <;> rfl) (by omega) ?_; intro w2 hrow2 hgrow2; have d3' : w2.cell? ⟨a, 3, none⟩ = some (.pointer (some ⟨fstOr r3 rt, 0, none⟩)) := ((((HB.out.alloc (Nat.le_of_lt hsz) _).grown hgrow2 (by simp; omega) (fun j hj => by cases hj; exact Nat.le_refl _)).cell (p := ⟨a, 3, none⟩) halt).trans (HB.out.cell (p := ⟨a, 3, none⟩) halt).symm).trans d3)
      have hs2 := hgrow2.size
      simp at hs2
      have HB2 := Lib.hid ((HB.out.alloc (Nat.le_of_lt hsz) (.cells #[.string x.1, .int .i64 x.2] 104)).grown hgrow2 (by simp; omega) (fun j hj => by cases hj; exact Nat.le_refl _))
      have HO2 : Hid (w2.ownsRow w.heap.size 104 2 (.slice (some ⟨w.heap.size, 0, none⟩) (l ++ [(a, x)]).length ns.length) (l ++ [(a, x)]).length (cellsI (its (l ++ [(a, x)])))) := by
        unfold Hid
        rw [its_app, List.length_append, show its [(a, x)] = [x] from rfl, cellsI_snoc]
        exact hrow2
      have hll2 : (l ++ [(a, x)]).length = l.length + 1 := by simp
      have HLL := Lib.hid hll2
      clear hrow2 hgrow2 d0 d1 d3 d3' HN HO HB hll2
      go_roundg r3.length
      case measure => omega
      case rel => exact ⟨l ++ [(a, x)], r3, HN2, rfl, Nat.le_refl _, by rw [HLL.out], HO2, HB2, by omega⟩

def RingPost (xs : List Itm) (w : World) (e : Ending) (w' : World) : Prop :=
  ∃ r rt ns, e = .returned (.pointer (some ⟨r, 0, none⟩)) ∧ its ns = xs ∧ RingAt (· < w.heap.size) w' r rt ns ∧ Below w.heap.size w w'

theorem ring_made (w : World) : RingAt (· < w.heap.size) ((w.alloc (.cells #[.string ⟨#[]⟩, .int .i64 0, .pointer (some ⟨w.heap.size, 0, none⟩), .pointer (some ⟨w.heap.size, 0, none⟩)] 199)).alloc (.cells #[.pointer (some ⟨w.heap.size, 0, none⟩), .int .i64 0] 201)) (w.heap.size + 1) w.heap.size [] := by
  refine ⟨?_, ⟨(⟨#[]⟩, 0), ?_, trivial⟩, by simp, ⟨by omega, fun b hb => ?_⟩, fun x hx => by simp at hx⟩
  · have := heap_alloc_new (w.alloc (.cells #[.string ⟨#[]⟩, .int .i64 0, .pointer (some ⟨w.heap.size, 0, none⟩), .pointer (some ⟨w.heap.size, 0, none⟩)] 199)) (.cells #[.pointer (some ⟨w.heap.size, 0, none⟩), .int .i64 0] 201)
    simpa using this
  · show Nd _ _ _ _ _
    unfold Nd
    rw [Below.heap_alloc _ _ _ (by simp), heap_alloc_new]
    rfl
  · have : b = w.heap.size := by simpa using hb
    omega

set_option maxHeartbeats 1600000 in
set_option maxRecDepth 100000 in
theorem ringOf_any (v : Value) (xs : List Itm) (w : World) (h : Items w v xs) (hl : xs.length ≤ 100000) :
    Calls Try.prog 124 #[v] w (RingPost xs w) := by
  have hok := Lib.hid h.ok
  obtain ⟨ao, cap, rfl, hlc, hcm, _, hcell⟩ := h
  go_enter Try.func124, Try.ntmps124
  go_wp2
  go_loopw [22] (fun i wr => ∃ (k : Nat) (ns : List Nod), k ≤ xs.length ∧ i = .int .i64 k ∧ Hid (its ns = xs.take k) ∧ Hid (RingAt (· < w.heap.size) wr (w.heap.size + 1) w.heap.size ns) ∧ Hid (Below w.heap.size w wr)) (fun i _ => xs.length - (intOf i).toNat)
  case atStart =>
    refine ⟨0, [], Nat.zero_le _, rfl, rfl, ?_, ?_⟩
    · exact ring_made w
    · exact ((Below.refl _ _).alloc (Nat.le_refl _) _).alloc (by simp) _
  case round =>
    obtain ⟨k, ns, hk, rfl, HN, HR, HB⟩ := hrel
    by_cases hlt : k < xs.length
    · obtain ⟨b, o, rfl, hb, h1, h2⟩ := hcell k hlt
      have c1 := (HB.out.cell (p := ⟨b, _, none⟩) hb).trans h1
      have c2 := (HB.out.cell (p := ⟨b, _, none⟩) hb).trans h2
      have hx := hok.out _ (List.getElem_mem hlt)
      have hln : ns.length ≤ 100000 := by
        have := congrArg List.length HN.out
        rw [its_len] at this
        have h3 := List.length_take_le k xs
        omega
      have HSB := Lib.hid HB.out.size
      clear h1 h2
      go_wp2_with fail
      have HR1 := Lib.hid (HR.out.below ((Below.refl wr.heap.size wr).alloc (Nat.le_refl _) (.cells #[.string xs[k].1, .int .i64 xs[k].2] 104)))
      refine (push_any (fun j (hj : j < w.heap.size) => Nat.lt_of_lt_of_le hj (size_alloc_le HSB.out _)) HR1.out xs[k] (fun y hy => by rw [List.mem_singleton.1 hy]; exact hx) hln).mono ?_
      rintro e w2 ⟨a, rfl, hR2, hk2⟩
      have HN2 : Hid (its (ns ++ [(a, xs[k])]) = xs.take (k + 1)) := by
        unfold Hid
        rw [its_app, HN.out, List.take_succ_eq_append_getElem hlt]
        rfl
      have HR2 := Lib.hid hR2
      have HB2 := Lib.hid (show Below w.heap.size w w2 from (HB.out.alloc HSB.out _).trans (hk2.below (fun _ h => h)))
      clear hR2 hk2 HR1 HR HN HB c1 c2
      go_wp2
      go_roundw
      case rel => exact ⟨k + 1, ns ++ [(a, xs[k])], by omega, by go_num, HN2, HR2, HB2⟩
      case measure => simp [intOf]; omega
    · obtain rfl : k = xs.length := by omega
      go_wp2
      go_ret
      refine ⟨_, _, ns, rfl, ?_, HR.out, HB.out⟩
      rw [HN.out, List.take_length]
end
end Go.Proofs.Ytigiliakcmpekaa
