/-
  Sums of counts: plain mathematics.
-/
import Derived.Test.YtloalakpkjbeaaaPlain
namespace Go.Proofs.Ytloalakpkjbeaaa

def cntLe (t : List Itm) (M : Int) : Prop := ∀ s, -M ≤ cnt t s ∧ cnt t s ≤ M
def smallI (b : List Itm) (m : Int) : Prop := b.length ≤ 40 ∧ ∀ x ∈ b, -1000000000 ≤ x.2 * m ∧ x.2 * m ≤ 1000000000

theorem cntLe_nil : cntLe [] 0 := fun _ => by simp [cnt]
theorem cntLe_put {t : List Itm} {M D d : Int} (h : cntLe t M) (k : ByteArray) (h1 : -D ≤ d) (h2 : d ≤ D) : cntLe (putI t k (cnt t k + d)) (M + D) := by
  intro s
  by_cases e : s = k
  · subst e
    rw [cnt_putI_same]
    have := h s
    omega
  · rw [cnt_putI_other _ _ _ _ e]
    have := h s
    omega
theorem addAll_snoc (t b : List Itm) (x : Itm) (m : Int) : addAll t (b ++ [x]) m = putI (addAll t b m) x.1 (cnt (addAll t b m) x.1 + x.2 * m) := by simp [addAll]
theorem addAll_take {t b : List Itm} {m : Int} {k : Nat} (h : k < b.length) : addAll t (b.take (k + 1)) m = putI (addAll t (b.take k) m) b[k].1 (cnt (addAll t (b.take k) m) b[k].1 + b[k].2 * m) := by
  rw [List.take_succ_eq_append_getElem h, addAll_snoc]
theorem addAll_length (b : List Itm) (m : Int) : ∀ t : List Itm, (addAll t b m).length ≤ t.length + b.length := by
  induction b with
  | nil => intro t; simp [addAll]
  | cons x r ih =>
    intro t
    have h1 := ih (putI t x.1 (cnt t x.1 + x.2 * m))
    have h2 := putI_length t x.1 (cnt t x.1 + x.2 * m)
    have e : addAll t (x :: r) m = addAll (putI t x.1 (cnt t x.1 + x.2 * m)) r m := rfl
    rw [e, List.length_cons]
    split at h2 <;> omega
theorem addAll_le (b : List Itm) (m : Int) (hb : ∀ x ∈ b, -1000000000 ≤ x.2 * m ∧ x.2 * m ≤ 1000000000) : ∀ (t : List Itm) (M : Int), cntLe t M → cntLe (addAll t b m) (M + b.length * 1000000000) := by
  induction b with
  | nil => intro t M h; simpa [addAll] using h
  | cons x r ih =>
    intro t M h
    have hx := hb x (by simp)
    have h1 := ih (fun y hy => hb y (by simp [hy])) _ _ (cntLe_put (D := 1000000000) (d := x.2 * m) h x.1 (by omega) (by omega))
    have e : addAll t (x :: r) m = addAll (putI t x.1 (cnt t x.1 + x.2 * m)) r m := rfl
    rw [e]
    intro s
    have := h1 s
    simp only [List.length_cons]
    omega
theorem take_small {b : List Itm} {m : Int} (h : smallI b m) (k : Nat) : smallI (b.take k) m :=
  ⟨by have := h.1; simp; omega, fun x hx => h.2 x (List.mem_of_mem_take hx)⟩
theorem uniqI_addAll (b : List Itm) (m : Int) : ∀ t : List Itm, uniqI t = true → uniqI (addAll t b m) = true := by
  induction b with
  | nil => intro t h; exact h
  | cons x r ih => intro t h; exact ih _ (uniqI_putI _ _ h)
/-- Once round a, times over b. -/
def sumL (a b : List Itm) (m : Int) : List Itm := addAll (addAll [] a 1) b m

end Go.Proofs.Ytloalakpkjbeaaa
