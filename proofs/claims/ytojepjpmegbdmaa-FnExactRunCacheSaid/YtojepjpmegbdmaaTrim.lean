/-
  A cache in use cut down to its limit.
-/
import Derived.Test.YtojepjpmegbdmaaShelf2
namespace Go.Proofs.Ytojepjpmegbdmaa
open Go.RowKit

theorem ShelfAt.sh05 {w : World} {sb r : Nat} {m g s : Int} (h : ShelfAt w sb r m g s) : w.cell? ⟨sb, 0, none⟩ = some (.pointer (some ⟨r, 0, none⟩)) ∧ w.cell? ⟨sb, 5, none⟩ = some (.func (.func 163) #[.pointer (some ⟨r, 0, none⟩)] #[]) := ⟨h.cells.1, h.cells.2.2.2.2.2⟩

def TrimPost (K : Nat → Prop) (sb r rt : Nat) (m g s : Int) (ns : List Nod) (w : World) (e : Ending) (w' : World) : Prop :=
  e = .returned (.tuple #[]) ∧ ShelfAt w' sb r m g s ∧ RingAt K w' r rt (ns.drop (ns.length - m.toNat)) ∧ Keeps K w w'

set_option maxHeartbeats 1600000 in
set_option maxRecDepth 100000 in
theorem trim_any {K : Nat → Prop} {w : World} {sb r rt : Nat} {m g s : Int} {ns : List Nod} (hS : ShelfAt w sb r m g s) (hR : RingAt K w r rt ns) (hl : ns.length ≤ 100000) (hsb : K sb) (hm : 0 ≤ m ∧ m ≤ 100000) :
    Calls Try.prog 165 #[.pointer (some ⟨sb, 0, none⟩)] w (TrimPost K sb r rt m g s ns w) := by
  have HS := Lib.hid hS
  have HR := Lib.hid hR
  have HSB := Lib.hid hsb
  clear hS hR hsb
  go_enter Try.func165, Try.ntmps165
  go_wp2_with fail
  go_loopg [] ns.length (fun gk wr => ∃ k : Nat, k ≤ ns.length ∧ ns.length - k ≤ gk ∧ Hid (k = 0 ∨ m.toNat + k ≤ ns.length) ∧ Hid (ShelfAt wr sb r m g s) ∧ Hid (RingAt K wr r rt (ns.drop k)) ∧ Hid (Keeps K w wr))
  case atStart => exact ⟨0, Nat.zero_le _, Nat.le_refl _, .inl rfl, HS.out, HR.out, Keeps.refl _ _⟩
  case round =>
    obtain ⟨k, hk, hgk, HM, HS, HR, HK⟩ := hrel
    have hlen : (ns.drop k).length = ns.length - k := by simp
    have c0 := HS.out.cells.1
    have c1 := HS.out.cells.2.1
    have c5 := HS.out.cells.2.2.2.2.2
    have e1 := two_cell1 HR.out.head
    rw [hlen] at e1
    by_cases hlt : m < ((ns.length - k : Nat) : Int)
    · have hkl : k < ns.length := by omega
      have hdr : ns.drop k = ns[k] :: ns.drop (k + 1) := List.drop_eq_getElem_cons hkl
      obtain ⟨a, x, hax⟩ : ∃ a x, ns[k] = (a, x) := ⟨_, _, rfl⟩
      have HRd : Hid (RingAt K wr.drew.drew r rt ([] ++ (a, x) :: ns.drop (k + 1))) := by
        have := HR.out.below ((Below.refl wr.heap.size wr).drew.drew)
        rw [hdr, hax] at this
        exact this
      have HSd : Hid (ShelfAt wr.drew.drew sb r m g s) := HS.out
      have hql : ([] ++ (a, x) :: ns.drop (k + 1)).length ≤ 1000000 := by simp; omega
      clear hdr hax
      go_wp2_with fail
      go_still_tail 11, (by kernel_rfl)
      change wpList _ _ _ _ _ wr.drew
      go_wp2_with fail
      have d := HSd.out.sh05
      go_region_held3 (fun w' : World => w'.cell? ⟨sb, 0, none⟩ = some (.pointer (some ⟨r, 0, none⟩)) ∧ w'.cell? ⟨sb, 5, none⟩ = some (.func (.func 163) #[.pointer (some ⟨r, 0, none⟩)] #[]))
        (first | exact d | assumption | exact hS3.sh05)
        (first
          | (go_at_call 163; refine (show Calls Try.prog 163 #[.pointer (some ⟨r, 0, none⟩)] wr.drew.drew (fun e w' => e = .returned (.pointer (some ⟨a, 0, none⟩)) ∧ wr.drew.drew = w') from first_any HRd.out).mono ?_; rintro e w2 ⟨rfl, rfl⟩)
          | (go_at_call 178; refine (cut_any HRd.out hql).mono ?_; rintro e w3 ⟨rfl, hR3, _, hk3, hs3⟩; have hS3 := HSd.out.keeps hk3 HSB.out))
      all_goals
        have HR3 : Hid (RingAt K w3 r rt (ns.drop (k + 1))) := hR3
        have HS3 := Lib.hid hS3
        have HK3 : Hid (Keeps K w w3) := HK.out.drew.drew.trans hk3
        clear hR3 hS3 hk3 hs3 d c0 c1 c5 e1
        go_wp2
        go_roundg (ns.length - (k + 1))
        case measure => omega
        case rel => exact ⟨k + 1, by omega, Nat.le_refl _, .inr (by omega), HS3, HR3, HK3⟩
    · have hdr : ns.drop k = ns.drop (ns.length - m.toNat) := by
        rcases HM.out with h | h
        · have : ns.length - m.toNat = 0 := by omega
          rw [h, this]
        · have : ns.length - m.toNat = k := by omega
          rw [this]
      have HR2 : Hid (RingAt K wr.drew r rt (ns.drop (ns.length - m.toNat))) := hdr ▸ HR.out.below ((Below.refl wr.heap.size wr).drew)
      have HS2 : Hid (ShelfAt wr.drew sb r m g s) := HS.out
      have HK2 := Lib.hid HK.out.drew
      go_wp2_with fail
      go_still_tail 11, (by kernel_rfl)
      change wpList _ _ _ _ _ wr.drew
      go_wp2
      go_end0
      exact ⟨rfl, HS2.out, HR2.out, HK2.out⟩
end Go.Proofs.Ytojepjpmegbdmaa
