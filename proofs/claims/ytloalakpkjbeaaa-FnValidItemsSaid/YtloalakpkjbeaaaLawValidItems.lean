/-
  FnValidItems: true, for every code.
-/
import Derived.Test.YtloalakpkjbeaaaP4
import Derived.Test.YtloalakpkjbeaaaP5
import Derived.Test.YtloalakpkjbeaaaP11
import Derived.Test.YtloalakpkjbeaaaP12
import Derived.Test.YtloalakpkjbeaaaP14
import Derived.Test.YtloalakpkjbeaaaP15
namespace Go.Proofs.Ytloalakpkjbeaaa
open Go.RowKit
open Go.ChangeShapes Go.WideShapes Go.ChangeAt Go.Deep

theorem valid_take {l : List Itm} (h : validI l = true) (k : Nat) : validI (l.take k) = true := by
  have h1 := (validI_iff l).1 h
  have hs : (l.take k).Sublist l := List.take_sublist k l
  refine (validI_iff _).2 ⟨fun x hx => h1.1 x (hs.subset hx), ?_, Nat.le_trans hs.length_le h1.2.2⟩
  have hn := uniq_nodup.1 h1.2.1
  exact uniq_nodup.2 (hn.sublist (hs.map _))
theorem sValidItems_any (v : Value) (xs : List Itm) (w : World) (h : Items w v xs) :
    Calls Try.prog 17 #[v] w (RetQ (.bool (validI xs)) w) := by
  go_enter Try.func17, Try.ntmps17
  go_wp2_with (go_at_call 59; refine (validItems_any _ _ _ h).mono ?_; rintro e w1 ⟨rfl, hb1⟩)
  go_ret
  exact ⟨rfl, drewN_belows hb1⟩
theorem valid_rev {l : List Itm} (h : validI l = true) : validI l.reverse = true := by
  rw [valid_perm (List.reverse_perm l)]
  exact h

set_option maxHeartbeats 3200000 in
set_option maxRecDepth 100000 in
theorem FnValidItems_walk (v : Value) (bs : List Int) (w : World) (h : Bytes w v bs) :
    Calls Try.prog 3 #[v] w fun e w' => e = .returned (.bool true) ∧ Below w.heap.size w w' := by
  have h0 := h
  obtain ⟨ao, cap, rfl, hl, hc, hok, hcell⟩ := h0
  clear hcell hok
  go_enter Try.func3, Try.ntmps3
  by_cases hbig : (1048576 : Int) < (bs.length : Int)
  · go_wp2
    go_ret
    exact ⟨rfl, Below.refl _ _⟩
  go_wp2_with fail
  refine (DrawValidItems_any _ bs w h).mono ?_
  rintro e w1 ⟨va, xs, rfl, hlen, hxa, hb1⟩
  have H1 := Things.nil w1
  obtain ⟨V, hV⟩ : ∃ V, Hid (V = validI xs) := ⟨_, Lib.hid rfl⟩
  have cI := Lib.hid (fun (v0 : Value) (w : World) (h0 : Items w v0 xs) => castB (ValidItems_any v0 xs w h0) hV.out.symm)
  have cS := Lib.hid (fun (v0 : Value) (w : World) (h0 : Items w v0 xs) => castB (sValidItems_any v0 xs w h0) hV.out.symm)
  go_wp2_with fail
  refine (cI.out _ _ (H1.arg hxa)).mono ?_
  rintro e w2 ⟨rfl, hb⟩
  have H2 := H1.quiet hb
  clear hb H1
  go_wp2_with fail
  refine (cS.out _ _ (H2.arg hxa)).mono ?_
  rintro e w3 ⟨rfl, hb⟩
  have H3 := H2.quiet hb
  clear hb H2
  cases V
  · skip
    go_wp2_with fail
    refine (cS.out _ _ (H3.arg hxa)).mono ?_
    rintro e w4 ⟨rfl, hb⟩
    have H4 := H3.quiet hb
    clear hb H3
    go_wp2
    go_ret
    exact ⟨rfl, hb1.trans (H4.below.mono hb1.size)⟩
  · have hv := hV.out.symm
    obtain ⟨R, hR⟩ : ∃ R, Hid (R = turL xs) := ⟨_, Lib.hid rfl⟩
    have c2 := Lib.hid (fun (v0 : Value) (w : World) (h0 : Items w v0 xs) => castI (TurnItems_any v0 xs w h0) hR.out.symm)
    have c3 := Lib.hid (fun (v0 : Value) (w : World) (h0 : Items w v0 R) => castB (ValidItems_any v0 R w h0) (show validI R = true by rw [hR.out]; unfold turL; rw [if_pos hv]; exact valid_rev hv))
    have c1 := Lib.hid (fun (q : Nat) (v0 : Value) (w : World) (h0 : Items w v0 (xs.take q)) => castB (ValidItems_any v0 (xs.take q) w h0) (valid_take hv q))
    clear cI cS hV hv hR
    have hxa0 := hxa
    obtain ⟨ao1, cap1, rfl, hlc1, hcm1, _, _⟩ := hxa0
    by_cases hz : xs.length = 0
    · have hb0 : ((xs.length : Int) == 0) = true := by rw [hz]; rfl
      clear hz
      go_wp2
      go_ret
      exact ⟨rfl, hb1.trans (H3.below.mono hb1.size)⟩
    · have hb0 : ((xs.length : Int) == 0) = false := by rw [beq_eq_false_iff_ne]; omega
      obtain ⟨q, hq⟩ : ∃ q : Nat, xs.length = q + 1 := ⟨xs.length - 1, by omega⟩
      have hwr : IntKind.i64.wrap ((xs.length : Int) - 1) = (q : Int) := by rw [IntWalk.i64_in _ (by omega)]; omega
      have hq1 : (q : Int) ≤ (cap1 : Int) := by omega
      have hq2 : (0 : Int) ≤ (q : Int) := by omega
      have hqx : q ≤ xs.length := by omega
      have HT := Lib.hid (H3.arg hxa |>.take hqx)
      clear hq hz hqx
      go_wp2_with fail
      refine (c1.out q _ _ HT.out).mono ?_
      rintro e w4 ⟨rfl, hb⟩
      have H4 := H3.quiet hb
      clear hb H3
      go_wp2_with fail
      refine (c2.out _ _ (H4.arg hxa)).mono ?_
      rintro e w5 ⟨v2, rfl, ho, hb⟩
      have H5 := H4.newI ho hb
      clear ho hb H4
      go_wp2_with fail
      refine (c3.out _ _ (H5.items 0 rfl)).mono ?_
      rintro e w6 ⟨rfl, hb⟩
      have H6 := H5.quiet hb
      clear hb H5
      go_wp2
      go_ret
      exact ⟨rfl, hb1.trans (H6.below.mono hb1.size)⟩

set_option maxRecDepth 100000 in
theorem FnValidItems_lifted (os : Os) (started : os.Started) (H : Type) (enc : TypeId × Value → H) :
    ReturnsInHanded {} Try.checked os 3 .any (Rows.fnValidItemsSpec.pre6 enc Try.prog Try.f3 Rows.fnValidItemsRow.domain false) (Rows.fnValidItemsSpec.post enc Try.prog Try.f3 false true false false) := by
  refine returnsInHanded_of_change (C := Try.checked) own started (by kernel_rfl) Try.func3
    (ChangeSpec.witness6 (enc := enc) (C := Try.checked) false ⟨#[], #[.slice none 0 0], []⟩ 8 (by kernel_rfl) (by kernel_rfl) (by kernel_rfl) (by kernel_rfl)) ?_
  intro W base args ds gs before hval0 hW _ _
  have hval : ∀ (j : Nat) t v, Try.f3.params[j]? = some t → args[j]? = some v → Value.okWide Try.prog W .any base t v := hval0
  have hW' := hW
  obtain ⟨p, q, hA0, hV, rfl, _, _⟩ := hW
  have hA : DataW.TrodAll enc Try.prog W 0 (fun _ => true) true Try.f3.params.toList args.toList ds p := hA0
  rw [Try.params3] at hA hval
  obtain ⟨v0, vs0, d0, ds0, p0, q0, hargs, rfl, rfl, h0, r0⟩ := trodAll_cons hA
  obtain ⟨rfl, rfl, rfl⟩ := trodAll_nil r0
  obtain rfl : args = #[v0] := by cases args; simp_all
  obtain ⟨rfl, rfl⟩ := trodVars_none hV
  obtain ⟨xs0, hI0⟩ := open_bytes (hval 0 _ v0 rfl rfl) h0
  refine (FnValidItems_walk v0 xs0 W hI0).mono fun e W' ⟨he, hb⟩ => ⟨_, he, ?_⟩
  exact law_end rfl (by rw [Try.params3]; decide +kernel) rfl hW' rfl rfl rfl hb

theorem FnValidItems_facts : joinedFacts Try.prog 3 Try.f3 Rows.fnValidItemsSpec Rows.fnValidItemsRow = true :=
  facts_of (by kernel_rfl) q2 q3 (by kernel_rfl) (by kernel_rfl) (by kernel_rfl) q7 (by kernel_rfl) q9 (by kernel_rfl) (by kernel_rfl) (by kernel_rfl) (by kernel_rfl) (by kernel_rfl) (by kernel_rfl) (by kernel_rfl) (by kernel_rfl) (by kernel_rfl) (by kernel_rfl) (by kernel_rfl) (by kernel_rfl) (by kernel_rfl)
    (by rw [q22]; kernel_rfl) (by kernel_rfl) q23 head_enter (by kernel_rfl) head_lifts head_make (by kernel_rfl) (by kernel_rfl) (by kernel_rfl) (by kernel_rfl) (by kernel_rfl)

theorem FnValidItems_holds : Rows.FnValidItemsSaid :=
  OpenClaim.holds_of_wide 3 Try.f3 rfl rfl rfl rfl rfl rfl rfl ⟨rfl, rfl, rfl, rfl, rfl⟩ rfl rfl rfl rfl rfl (by kernel_rfl) Try.func3 FnValidItems_facts
    (of_decide_eq_true (by kernel_rfl)) (by unfold Func.isWrapper; first | (rw [if_pos (by decide +kernel)]; kernel_rfl) | (rw [if_neg (by decide +kernel)]; exact ⟨rfl, rfl⟩))
    (fun os started H enc _ => FnValidItems_lifted os started H enc)
end Go.Proofs.Ytloalakpkjbeaaa
