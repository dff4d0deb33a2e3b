/-
  What is stored in a cache: the pure result, and the program's own store.
-/
import Derived.Test.YtojepjpmegbdmaaLook
import Derived.Test.YtojepjpmegbdmaaTrim
namespace Go.Proofs.Ytojepjpmegbdmaa
open Go.RowKit

theorem delI_put (l : List Itm) (k : ByteArray) (n : Int) : delI (putI l k n) k = delI l k := by
  induction l with
  | nil => simp [putI, delI]
  | cons x r ih =>
    unfold putI
    split
    · rename_i h; simp [delI, h]
    · rename_i h; simp [delI, h, ih]
/-- With n for k behind all others, and no more than m. -/
def stI (xs : List Itm) (m : Int) (k : ByteArray) (n : Int) : List Itm := (delI xs k ++ [(k, n)]).drop ((delI xs k ++ [(k, n)]).length - m.toNat)
theorem uniqI_app_one {l : List Itm} {k : ByteArray} {n : Int} (h : uniqI l = true) (hk : hasI l k = false) : uniqI (l ++ [(k, n)]) = true := by
  induction l with
  | nil => simp [uniqI, hasI]
  | cons x r ih =>
    simp only [uniqI, Bool.and_eq_true, Bool.not_eq_true'] at h
    simp only [hasI, Bool.or_eq_false_iff, decide_eq_false_iff_not] at hk
    simp only [List.cons_append, uniqI, hasI_append, hasI, ih h.2 hk.2, h.1, Bool.or_false, Bool.and_true, Bool.false_or, Bool.not_eq_true', decide_eq_false_iff_not]
    exact fun e => hk.1 e.symm
theorem uniqI_drop {l : List Itm} (h : uniqI l = true) (j : Nat) : uniqI (l.drop j) = true := by
  induction l generalizing j with
  | nil => simpa using h
  | cons x r ih =>
    cases j with
    | zero => exact h
    | succ j =>
      simp only [uniqI, Bool.and_eq_true] at h
      exact ih h.2 j
theorem del_mem {l : List Itm} {k : ByteArray} {x : Itm} (h : x ∈ delI l k) : x ∈ l := by
  induction l with
  | nil => simp [delI] at h
  | cons y r ih =>
    unfold delI at h
    split at h
    · exact List.mem_cons_of_mem _ h
    · rcases List.mem_cons.1 h with rfl | h
      · exact List.mem_cons_self
      · exact List.mem_cons_of_mem _ (ih h)
theorem hasI_del_self {l : List Itm} {k : ByteArray} (h : uniqI l = true) : hasI (delI l k) k = false := by
  rw [hasI_delI k k h]
  simp
theorem stI_len (xs : List Itm) (m : Int) (k : ByteArray) (n : Int) (hm : 1 ≤ m) : (stI xs m k n).length ≤ m.toNat ∧ 1 ≤ (stI xs m k n).length ∧ (stI xs m k n).length ≤ xs.length + 1 := by
  unfold stI
  have h1 := del_le xs k
  simp only [List.length_drop, List.length_append, List.length_cons, List.length_nil]
  omega
theorem stI_last (xs : List Itm) (m : Int) (k : ByteArray) (n : Int) (hm : 1 ≤ m) : ∃ r, stI xs m k n = r ++ [(k, n)] := by
  unfold stI
  refine ⟨(delI xs k).drop ((delI xs k ++ [(k, n)]).length - m.toNat), ?_⟩
  rw [List.drop_append]
  have : (delI xs k ++ [(k, n)]).length - m.toNat - (delI xs k).length = 0 := by
    simp only [List.length_append, List.length_cons, List.length_nil]
    omega
  rw [this]
  rfl
theorem st_valid {xs : List Itm} {m g s : Int} {k : ByteArray} {n : Int} (h : vcB xs m g s = true) : vcB (stI xs m k n) m g s = (keyB k && numB n) := by
  obtain ⟨hv, hm, hl, hg, hs⟩ := vc_yes h
  have hlen := stI_len xs m k n hm.1
  obtain ⟨r, hr⟩ := stI_last xs m k n hm.1
  have hu := valid_uniq hv
  have e1 : vcB (stI xs m k n) m g s = validI (stI xs m k n) := by
    unfold vcB rgB
    rw [show decide ((1 : Int) ≤ m) = true by simp; omega, show decide (m ≤ (8 : Int)) = true by simp; omega, show decide (((stI xs m k n).length : Int) ≤ m) = true by simp; omega,
      show decide ((0 : Int) ≤ g) = true by simp; omega, show decide (g ≤ (9999 : Int)) = true by simp; omega, show decide ((0 : Int) ≤ s) = true by simp; omega, show decide (s ≤ (9999 : Int)) = true by simp; omega]
    simp
  rw [e1, Bool.eq_iff_iff, validI_iff, Bool.and_eq_true]
  constructor
  · rintro ⟨ha, _⟩
    exact ha (k, n) (by rw [hr]; simp)
  · rintro ⟨h1, h2⟩
    refine ⟨fun x hx => ?_, ?_, by omega⟩
    · have hx' : x ∈ delI xs k ++ [(k, n)] := List.mem_of_mem_drop hx
      rcases List.mem_append.1 hx' with hx' | hx'
      · exact ((validI_iff xs).1 hv).1 x (del_mem hx')
      · rw [List.mem_singleton.1 hx']
        exact ⟨h1, h2⟩
    · exact uniqI_drop (uniqI_app_one (uniqI_delI k hu) (hasI_del_self hu)) _
theorem okI_app1 {l : List Itm} {x : Itm} (h : okI l) (hx : okI [x]) : okI (l ++ [x]) := okI_app h hx
theorem okI_drop {l : List Itm} (h : okI l) (j : Nat) : okI (l.drop j) := okI_sub h fun _ hx => List.mem_of_mem_drop hx

/-! ### the program -/
def StorePost (K : Nat → Prop) (sb r rt : Nat) (m g s : Int) (xs : List Itm) (k : ByteArray) (n : Int) (w : World) (e : Ending) (w' : World) : Prop :=
  ∃ ns, e = .returned (.tuple #[]) ∧ its ns = stI xs m k n ∧ ShelfAt w' sb r m g s ∧ RingAt K w' r rt ns ∧ Keeps K w w'
theorem ShelfAt.sh04 {w : World} {sb r : Nat} {m g s : Int} (h : ShelfAt w sb r m g s) : w.cell? ⟨sb, 0, none⟩ = some (.pointer (some ⟨r, 0, none⟩)) ∧ w.cell? ⟨sb, 4, none⟩ = some (.func (.func 162) #[.pointer (some ⟨r, 0, none⟩)] #[]) := ⟨h.cells.1, h.cells.2.2.2.2.1⟩
theorem put_nodes {xs : List Itm} {p q : List Nod} {a : Nat} {k : ByteArray} {n : Int} (h : its (p ++ (a, (k, n)) :: q) = putI xs k n) (hp : hasI (its p) k = false) : its ((p ++ q) ++ [(a, (k, n))]) = delI xs k ++ [(k, n)] := by
  have h1 : delI (its (p ++ (a, (k, n)) :: q)) k = its p ++ its q := by rw [its_app]; exact delI_sp rfl hp
  rw [h, delI_put] at h1
  rw [its_app, its_app, h1]
  rfl

set_option maxHeartbeats 1600000 in
set_option maxRecDepth 100000 in
theorem store_any {K : Nat → Prop} {w : World} {sb r rt : Nat} {m g s : Int} {ns : List Nod} (hS : ShelfAt w sb r m g s) (hR : RingAt K w r rt ns) (hl : ns.length ≤ 10000) (hK : ∀ j, K j → j < w.heap.size) (hsb : K sb) (hm : 0 ≤ m ∧ m ≤ 100000) (k : ByteArray) (n : Int) (hx : okI [(k, n)]) :
    Calls Try.prog 130 #[.pointer (some ⟨sb, 0, none⟩), .string k, .int .i64 n] w (StorePost K sb r rt m g s (its ns) k n w) := by
  have HS : Hid (ShelfAt w.drew sb r m g s) := hS
  have HRd := Lib.hid (hR.below (Below.refl _ _).drew)
  have HK := Lib.hid hK
  have HSB := Lib.hid hsb
  have HM := Lib.hid hm
  have HX := Lib.hid hx
  have c04 := hS.sh04
  obtain ⟨c0, c4⟩ := c04
  clear hS hR hK hsb hm hx
  go_enter Try.func130, Try.ntmps130
  go_wp2_with fail
  go_region_held3 (fun w' : World => w'.cell? ⟨sb, 0, none⟩ = some (.pointer (some ⟨r, 0, none⟩)) ∧ w'.cell? ⟨sb, 4, none⟩ = some (.func (.func 162) #[.pointer (some ⟨r, 0, none⟩)] #[]))
    (first | exact ⟨c0, c4⟩ | assumption | exact hS2.sh04 | exact hS3.sh04)
    (first
      | (go_at_call 164; refine (putIn_any (w := w.drew) HK.out HRd.out k n HX.out (by omega)).mono ?_; rintro e w2 ⟨p, a, q, rfl, hits, hp, hR2, hk2⟩; have hS2 := HS.out.keeps hk2 HSB.out; have hlen : (p ++ (a, (k, n)) :: q).length ≤ 100000 := (by have h1 := congrArg List.length hits; rw [its_len, putI_length, its_len] at h1; split at h1 <;> omega))
      | (go_at_call 162; refine (moveLast_any hR2 hlen).mono ?_; rintro e w3 ⟨rfl, hR3, hk3, hs3⟩; have hS3 := hS2.keeps hk3 HSB.out))
  all_goals
    have HN3 := Lib.hid (put_nodes hits hp)
    have HS3 := Lib.hid hS3
    have HR3 := Lib.hid hR3
    have HK3 : Hid (Keeps K w w3) := (Keeps.trans ⟨hk2.os, hk2.tape, hk2.output, hk2.size, hk2.block⟩ hk3)
    have hl3 : ((p ++ q) ++ [(a, (k, n))]).length ≤ 100000 := by simp at hlen ⊢; omega
    clear hits hp hS3 hR3 hk2 hk3 hs3 hR2 hS2 hlen
    go_wp2_with fail
    refine (trim_any HS3.out HR3.out hl3 HSB.out HM.out).mono ?_
    rintro e w4 ⟨rfl, hS4, hR4, hk4⟩
    have HN4 : Hid (its (((p ++ q) ++ [(a, (k, n))]).drop (((p ++ q) ++ [(a, (k, n))]).length - m.toNat)) = stI (its ns) m k n) := by
      unfold Hid stI
      rw [← HN3.out, its_len]
      show List.map _ (List.drop _ _) = List.drop _ (List.map _ _)
      rw [List.map_drop]
    have HS4 := Lib.hid hS4
    have HR4 := Lib.hid hR4
    have HK4 := Lib.hid (HK3.out.trans hk4)
    clear hS4 hR4 hk4
    go_wp2
    go_end0
    exact ⟨_, rfl, HN4.out, HS4.out, HR4.out, HK4.out⟩
end Go.Proofs.Ytojepjpmegbdmaa
