/-
  Whether a cache is valid, by the model and by the program.
-/
import Derived.Test.YtfocobgceelnoaaBox
import Derived.Test.YtfocobgceelnoaaKeep
namespace Go.Proofs.Ytfocobgceelnoaa
open Go.RowKit

def rgB (n lo hi : Int) : Bool := decide (lo ≤ n) && decide (n ≤ hi)
def vcB (xs : List Itm) (m g s : Int) : Bool := validI xs && rgB m 1 8 && decide ((xs.length : Int) ≤ m) && rgB g 0 9999 && rgB s 0 9999
def cacheV (v : Value) (m g s : Int) : Value := .agg #[v, .int .i64 m, .int .i64 g, .int .i64 s]

theorem rg_v {n lo hi : Int} {b : Bool} (w : World) (h : rgB n lo hi = b) : Calls Try.prog 87 #[.int .i64 n, .int .i64 lo, .int .i64 hi] w fun e w' => e = .returned (.bool b) ∧ w = w' :=
  (inRange_v w h).mono fun _ _ ⟨he, hw⟩ => ⟨he, hw.symm⟩
theorem vc_a {xs : List Itm} {m g s : Int} (H : Hid (validI xs = false)) : false = vcB xs m g s := by unfold vcB; rw [H.out]; rfl
theorem vc_b {xs : List Itm} {m g s : Int} (H : Hid (rgB m 1 8 = false)) : false = vcB xs m g s := by unfold vcB; rw [H.out]; simp
theorem vc_c {xs : List Itm} {m g s : Int} (H : ¬ ((xs.length : Int) ≤ m)) : false = vcB xs m g s := by unfold vcB; rw [decide_eq_false H]; simp
theorem vc_d {xs : List Itm} {m g s : Int} (H : Hid (rgB g 0 9999 = false)) : false = vcB xs m g s := by unfold vcB; rw [H.out]; simp
theorem vc_e {xs : List Itm} {m g s : Int} {b : Bool} (h1 : Hid (validI xs = true)) (h2 : Hid (rgB m 1 8 = true)) (h3 : (xs.length : Int) ≤ m) (h4 : Hid (rgB g 0 9999 = true)) (h5 : Hid (rgB s 0 9999 = b)) : b = vcB xs m g s := by
  unfold vcB
  rw [h1.out, h2.out, h4.out, h5.out, decide_eq_true h3]
  cases b <;> rfl

end Go.Proofs.Ytfocobgceelnoaa
