/-
  The program's ring: a key found in it, an item put into it.
-/
import Derived.Test.YtigiliakcmpekaaRing5
namespace Go.Proofs.Ytigiliakcmpekaa
open Go.RowKit

section
variable {K : Nat → Prop} {w w' : World} {r rt : Nat} {ns : List Nod}

theorem find_no {l : List Nod} {s : ByteArray} (h : hasI (its l) s = false) : findI l s = none := by
  induction l with
  | nil => rfl
  | cons n l ih =>
    simp only [List.map_cons, hasI, Bool.or_eq_false_iff, decide_eq_false_iff_not] at h
    unfold findI
    rw [if_neg h.1]
    exact ih h.2
theorem find_yes {l : List Nod} {s : ByteArray} (h : hasI (its l) s = true) : ∃ p a x q, l = p ++ (a, x) :: q ∧ x.1 = s ∧ hasI (its p) s = false ∧ findI l s = some ⟨a, 0, none⟩ := by
  induction l with
  | nil => simp [hasI] at h
  | cons n l ih =>
    by_cases e : n.2.1 = s
    · exact ⟨[], n.1, n.2, l, rfl, e, rfl, by unfold findI; rw [if_pos e]⟩
    · simp only [List.map_cons, hasI, e, decide_false, Bool.false_or] at h
      obtain ⟨p, a, x, q, rfl, h1, h2, h3⟩ := ih h
      exact ⟨n :: p, a, x, q, rfl, h1, by simp only [List.map_cons, hasI, e, decide_false, Bool.false_or]; exact h2, by unfold findI; rw [if_neg e]; exact h3⟩

/-- Looked for by its key: a block for the key, and the link. -/
theorem look_any (h : RingAt K w r rt ns) (hK : ∀ k, K k → k < w.heap.size) (s : ByteArray) :
    Calls Try.prog 256 #[.pointer (some ⟨r, 0, none⟩), .func (.func 207) #[] #[.pointer (some ⟨w.heap.size, 0, none⟩)]] (w.alloc (.cells #[.string s] 9)) fun e w' => e = .returned (.pointer (findI ns s)) ∧ RingAt K w' r rt ns ∧ Keeps K w w' ∧ Below w.heap.size w w' := by
  have hb : Below w.heap.size w (w.alloc (.cells #[.string s] 9)) := (Below.refl _ _).alloc (Nat.le_refl _) _
  refine (find_any (h.below hb) s w.heap.size (heap_alloc_new _ _)).mono ?_
  rintro e w' ⟨rfl, hb2⟩
  have hb3 := hb.trans (hb2.mono hb.size)
  exact ⟨rfl, h.below hb3, Keeps.of_below hb3 hK, hb3⟩

def PutPost (K : Nat → Prop) (r rt : Nat) (ns : List Nod) (s : ByteArray) (n : Int) (w : World) (e : Ending) (w' : World) : Prop :=
  ∃ p a q, e = .returned (.pointer (some ⟨a, 0, none⟩)) ∧ its (p ++ (a, (s, n)) :: q) = putI (its ns) s n ∧ hasI (its p) s = false ∧ RingAt K w' r rt (p ++ (a, (s, n)) :: q) ∧ Keeps K w w'

theorem ring_val {p q : List Nod} {a : Nat} {x y : Itm} (h : RingAt K w r rt (p ++ (a, x) :: q)) (hy : okI [y]) {j : Nat} {u : Value} (hset : ∀ p q, Nd w a x p q → Nd (w.setCell ⟨a, j, none⟩ u) a y p q) : RingAt K (w.setCell ⟨a, j, none⟩ u) r rt (p ++ (a, y) :: q) := by
  obtain ⟨z, hc⟩ := h.chain
  have hra : r ≠ a := fun e => h.ne (by rw [e]; exact List.mem_cons_of_mem _ (by simp))
  have hb : blk (p ++ (a, y) :: q) = blk (p ++ (a, x) :: q) := by simp
  have hl : lstOr rt (p ++ (a, y) :: q) = lstOr rt (p ++ (a, x) :: q) := by rw [lstOr_app, lstOr_app]; rfl
  refine ⟨?_, ⟨z, ?_⟩, by rw [hb]; exact h.nodup, by rw [hb]; exact h.out, ?_⟩
  · rw [heap_setCell_other _ _ _ _ hra, h.head]
    simp
  · rw [hl]
    exact chain_val (l := (rt, z) :: p) hc h.nodup hset
  · intro v hv
    simp only [List.map_append, List.map_cons, List.mem_append, List.mem_cons] at hv
    rcases hv with e | e | e
    · exact h.ok v (by simp only [List.map_append]; exact List.mem_append_left _ e)
    · exact hy v (by simp [e])
    · exact h.ok v (by simp only [List.map_append, List.map_cons]; exact List.mem_append_right _ (List.mem_cons_of_mem _ e))

set_option maxHeartbeats 1600000 in
set_option maxRecDepth 100000 in
theorem putIn_any (hK : ∀ k, K k → k < w.heap.size) (h : RingAt K w r rt ns) (s : ByteArray) (n : Int) (hx : okI [(s, n)]) (hl : ns.length ≤ 100000) :
    Calls Try.prog 251 #[.pointer (some ⟨r, 0, none⟩), .string s, .int .i64 n] w (PutPost K r rt ns s n w) := by
  have HKK := Lib.hid hK
  clear hK
  go_enter Try.func251, Try.ntmps251
  go_wp2_with fail
  refine (hasKey_any s w).mono ?_
  rintro e w1 ⟨rfl, rfl⟩
  cases hh : hasI (its ns) s
  · have HF := Lib.hid (find_no hh)
    have HH := Lib.hid hh
    clear hh
    go_wp2_with fail
    refine (look_any h HKK.out s).mono ?_
    rw [HF.out]
    rintro e w2 ⟨rfl, hR, hk2, hb2⟩
    have HB := Lib.hid hb2
    have HP := Lib.hid (putI_new (n := n) HH.out)
    clear hb2 h
    go_wp2_with fail
    refine (push_any (fun k hk => Nat.lt_of_lt_of_le (HKK.out k hk) HB.out.size) hR (s, n) hx hl).mono ?_
    rintro e w3 ⟨a, rfl, hR3, hk3⟩
    go_wp2
    go_ret
    exact ⟨ns, a, [], rfl, by rw [HP.out]; simp, HH.out, hR3, hk2.trans hk3⟩
  · obtain ⟨p, a, x, q, rfl, hxs, hp, hf⟩ := find_yes hh
    have HF := Lib.hid hf
    have HX := Lib.hid hxs
    have HP := Lib.hid hp
    clear hh hf hxs hp
    go_wp2_with fail
    refine (look_any h HKK.out s).mono ?_
    rw [HF.out]
    rintro e w2 ⟨rfl, hR, hk2, hb2⟩
    have hnd := chain_at hR
    have c1 := (nd_cells hnd).2.1
    have f1 := nd_free hnd 1
    have hKa : ¬ K a := hR.out.2 a (List.mem_cons_of_mem _ (by simp))
    have HR2 := Lib.hid (ring_val (y := (s, n)) hR hx (j := 1) (u := .int .i64 n) (fun p q hN => by have := nd_set1 hN n; rw [HX.out] at this; exact this))
    clear hb2 h hnd hR
    go_wp2
    go_ret
    refine ⟨p, a, q, rfl, ?_, HP.out, HR2.out, hk2.setCell (a := ⟨a, 1, none⟩) hKa _⟩
    rw [its_app, its_app]
    exact (putI_sp HX.out HP.out n).symm

def FoundPost (xs : List Itm) (s : ByteArray) (w : World) (e : Ending) (w' : World) : Prop :=
  ∃ r rt p a x q, e = .returned (.tuple #[.pointer (some ⟨r, 0, none⟩), .pointer (some ⟨a, 0, none⟩)]) ∧ its (p ++ (a, x) :: q) = xs ∧ x.1 = s ∧ hasI (its p) s = false ∧ RingAt (· < w.heap.size) w' r rt (p ++ (a, x) :: q) ∧ Below w.heap.size w w'
def NotFoundPost (w : World) (e : Ending) (w' : World) : Prop :=
  ∃ v, e = .returned (.tuple #[v, .pointer none]) ∧ Below w.heap.size w w'

set_option maxHeartbeats 1600000 in
set_option maxRecDepth 100000 in
theorem findItem_yes (v : Value) (xs : List Itm) (s : ByteArray) (w : World) (h : Items w v xs) (hv : validI xs = true) (hh : hasI xs s = true) :
    Calls Try.prog 254 #[v, .string s] w (FoundPost xs s w) := by
  have HV := Lib.hid hv
  have HH := Lib.hid hh
  have hl := valid_len hv
  clear hv hh
  go_enter Try.func254, Try.ntmps254
  go_wp2_with fail
  refine (Vi_v _ h HV.out).mono ?_
  rintro e w1 ⟨rfl, hb1⟩
  go_wp2_with fail
  refine (ringOf_any _ _ _ (h.mono hb1 (Nat.le_refl _)) (by omega)).mono ?_
  rintro e w2 ⟨r, rt, ns, rfl, hns, hR, hb2⟩
  subst hns
  obtain ⟨p, a, x, q, rfl, hxs, hp, hf⟩ := find_yes HH.out
  have HF := Lib.hid hf
  have HX := Lib.hid hxs
  have HP := Lib.hid hp
  have HB2 := Lib.hid hb2
  clear hf hxs hp hb2
  go_wp2_with fail
  refine (hasKey_any s w2).mono ?_
  rintro e w3 ⟨rfl, rfl⟩
  go_wp2_with fail
  refine (look_any hR (fun k (hk : k < w1.heap.size) => Nat.lt_of_lt_of_le hk HB2.out.size) s).mono ?_
  rw [HF.out]
  rintro e w4 ⟨rfl, hR4, hk4, hb4⟩
  have hB : Below w.heap.size w w4 := hb1.trans ((HB2.out.trans (hb4.mono HB2.out.size)).mono hb1.size)
  have hR5 : RingAt (· < w.heap.size) w4 r rt (p ++ (a, x) :: q) := ⟨hR4.head, hR4.chain, hR4.nodup, ⟨fun hk => hR4.out.1 (Nat.lt_of_lt_of_le hk hb1.size), fun b hb hk => hR4.out.2 b hb (Nat.lt_of_lt_of_le hk hb1.size)⟩, hR4.ok⟩
  clear hR hR4 hk4 hb4 h
  go_wp2
  go_ret2
  exact ⟨r, rt, p, a, x, q, rfl, rfl, HX.out, HP.out, hR5, hB⟩

set_option maxHeartbeats 1600000 in
set_option maxRecDepth 100000 in
theorem findItem_no (v : Value) (xs : List Itm) (s : ByteArray) (w : World) (h : Items w v xs) (hh : (validI xs && hasI xs s) = false) :
    Calls Try.prog 254 #[v, .string s] w (NotFoundPost w) := by
  have HHH := Lib.hid hh
  clear hh
  go_enter Try.func254, Try.ntmps254
  cases hv : validI xs
  all_goals
    have HV := Lib.hid hv
    clear hv
    go_wp2_with fail
    refine (Vi_v _ h HV.out).mono ?_
    rintro e w1 ⟨rfl, hb1⟩
  · go_wp2
    go_ret2
    exact ⟨_, rfl, hb1⟩
  · have hl := valid_len HV.out
    have HH := Lib.hid (show hasI xs s = false by have := HHH.out; rw [HV.out, Bool.true_and] at this; exact this)
    clear HHH
    go_wp2_with fail
    refine (ringOf_any _ _ _ (h.mono hb1 (Nat.le_refl _)) (by omega)).mono ?_
    rintro e w2 ⟨r, rt, ns, rfl, hns, hR, hb2⟩
    subst hns
    have HF := Lib.hid (find_no HH.out)
    have HB2 := Lib.hid hb2
    clear hb2
    go_wp2_with fail
    refine (hasKey_any s w2).mono ?_
    rintro e w3 ⟨rfl, rfl⟩
    go_wp2_with fail
    refine (look_any hR (fun k (hk : k < w1.heap.size) => Nat.lt_of_lt_of_le hk HB2.out.size) s).mono ?_
    rw [HF.out]
    rintro e w4 ⟨rfl, hR4, hk4, hb4⟩
    have hB : Below w.heap.size w w4 := hb1.trans ((HB2.out.trans (hb4.mono HB2.out.size)).mono hb1.size)
    clear hR hR4 hk4 hb4 h
    go_wp2
    go_ret2
    exact ⟨_, rfl, hB⟩
end
end Go.Proofs.Ytigiliakcmpekaa
