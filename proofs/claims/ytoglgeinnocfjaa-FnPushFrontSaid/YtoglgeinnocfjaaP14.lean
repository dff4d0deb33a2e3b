/-
  Form.
-/
import Derived.JoinedOf
import Derived.ProofKit
import Derived.Test.YtoglgeinnocfjaaRows
/-
  The program's head, word by word; the closed facts of a row, one by one.
-/
namespace Go.Proofs.Ytoglgeinnocfjaa
def joinW : List (List Char) → List Char
  | [] => []
  | [w] => w
  | w :: w' :: ws => w ++ Char.ofNat 32 :: joinW (w' :: ws)
theorem words_plain (w : List Char) : (∀ c ∈ w, c ≠ Char.ofNat 32) → wordsSigns w = [w] := by
  induction w with
  | nil => intro _; rfl
  | cons c r ih =>
    intro h
    have ih' := ih (fun x hx => h x (by simp [hx]))
    have hc := h c (by simp)
    unfold wordsSigns
    split
    · rename_i h1; simp at h1
    · rename_i h1; simp only [List.cons.injEq] at h1; exact absurd h1.1 hc
    · rename_i c' r' _ h1
      simp only [List.cons.injEq] at h1
      obtain ⟨rfl, rfl⟩ := h1
      rw [ih']
theorem words_cons (w : List Char) (r : List Char) : (∀ c ∈ w, c ≠ Char.ofNat 32) → wordsSigns (w ++ Char.ofNat 32 :: r) = w :: wordsSigns r := by
  induction w with
  | nil => intro _; rfl
  | cons c t ih =>
    intro h
    have ih' := ih (fun x hx => h x (by simp [hx]))
    have hc := h c (by simp)
    rw [List.cons_append]
    conv => lhs; unfold wordsSigns
    split
    · rename_i h1; simp at h1
    · rename_i h1; simp only [List.cons.injEq] at h1; exact absurd h1.1 hc
    · rename_i c' r' _ h1
      simp only [List.cons.injEq] at h1
      obtain ⟨rfl, rfl⟩ := h1
      rw [ih']
theorem words_join : ∀ ws : List (List Char), ws ≠ [] → (∀ w ∈ ws, ∀ c ∈ w, c ≠ Char.ofNat 32) → wordsSigns (joinW ws) = ws
  | [], h, _ => absurd rfl h
  | [w], _, h => words_plain w (h w (by simp))
  | w :: w' :: ws, _, h => by
    show wordsSigns (w ++ Char.ofNat 32 :: joinW (w' :: ws)) = _
    rw [words_cons w _ (h w (by simp)), words_join (w' :: ws) (by simp) (fun x hx => h x (by simp [hx]))]

def headCodes : List (List Nat) := [[104, 97, 114, 110, 101, 115, 115], [50, 57, 48, 101, 51, 49, 48, 51, 97, 52, 54, 50, 52, 53, 101, 101, 100, 51, 55, 98, 97, 55, 48, 53, 52, 50, 52, 102, 101, 100, 51, 50, 51, 99, 102, 100, 53, 101, 98, 48, 98, 48, 54, 100, 56, 52, 48, 52, 98, 57, 48, 50, 101, 51, 51, 49, 50, 49, 49, 102, 51, 57, 102, 51], [99, 117, 116], [97, 116], [108, 111, 111, 112, 46, 101, 120, 97, 109, 112, 108, 101, 47, 116, 97, 108, 108, 121, 99, 104, 97, 105, 110, 115, 47, 108, 97, 119, 115, 46, 70, 110, 80, 117, 115, 104, 70, 114, 111, 110, 116], [108, 111, 111, 112, 46, 101, 120, 97, 109, 112, 108, 101, 47, 116, 97, 108, 108, 121, 99, 104, 97, 105, 110, 115, 47, 108, 97, 119, 115, 46, 70, 110, 69, 120, 116, 101, 110, 100, 66, 97, 99, 107], [108, 111, 111, 112, 46, 101, 120, 97, 109, 112, 108, 101, 47, 116, 97, 108, 108, 121, 99, 104, 97, 105, 110, 115, 47, 108, 97, 119, 115, 46, 70, 110, 73, 110, 115, 101, 114, 116, 65, 116], [108, 111, 111, 112, 46, 101, 120, 97, 109, 112, 108, 101, 47, 116, 97, 108, 108, 121, 99, 104, 97, 105, 110, 115, 47, 108, 97, 119, 115, 46, 70, 110, 65, 100, 100, 68, 101, 113, 117, 101, 115], [108, 111, 111, 112, 46, 101, 120, 97, 109, 112, 108, 101, 47, 116, 97, 108, 108, 121, 99, 104, 97, 105, 110, 115, 47, 108, 97, 119, 115, 46, 70, 110, 67, 111, 109, 112, 97, 114, 101, 68, 101, 113, 117, 101, 115], [108, 111, 111, 112, 46, 101, 120, 97, 109, 112, 108, 101, 47, 116, 97, 108, 108, 121, 99, 104, 97, 105, 110, 115, 47, 108, 97, 119, 115, 46, 70, 110, 87, 105, 110, 100, 111, 119, 83, 117, 109, 115], [108, 111, 111, 112, 46, 101, 120, 97, 109, 112, 108, 101, 47, 116, 97, 108, 108, 121, 99, 104, 97, 105, 110, 115, 47, 108, 97, 119, 115, 46, 70, 110, 86, 97, 108, 105, 100, 67, 104, 97, 105, 110], [108, 111, 111, 112, 46, 101, 120, 97, 109, 112, 108, 101, 47, 116, 97, 108, 108, 121, 99, 104, 97, 105, 110, 115, 47, 108, 97, 119, 115, 46, 70, 110, 87, 104, 101, 114, 101, 73, 115], [108, 111, 111, 112, 46, 101, 120, 97, 109, 112, 108, 101, 47, 116, 97, 108, 108, 121, 99, 104, 97, 105, 110, 115, 47, 108, 97, 119, 115, 46, 70, 110, 67, 104, 97, 105, 110, 80, 117, 116], [108, 111, 111, 112, 46, 101, 120, 97, 109, 112, 108, 101, 47, 116, 97, 108, 108, 121, 99, 104, 97, 105, 110, 115, 47, 108, 97, 119, 115, 46, 70, 110, 68, 101, 101, 112, 68, 114, 111, 112], [108, 111, 111, 112, 46, 101, 120, 97, 109, 112, 108, 101, 47, 116, 97, 108, 108, 121, 99, 104, 97, 105, 110, 115, 47, 108, 97, 119, 115, 46, 70, 110, 72, 111, 119, 79, 102, 116, 101, 110], [108, 111, 111, 112, 46, 101, 120, 97, 109, 112, 108, 101, 47, 116, 97, 108, 108, 121, 99, 104, 97, 105, 110, 115, 47, 108, 97, 119, 115, 46, 70, 110, 72, 105, 100, 100, 101, 110, 73, 110]]
def headWords : List (List Char) := headCodes.map fun w => w.map Char.ofNat
theorem headIs : Try.prog.initOrder = String.ofList (joinW headWords) := by kernel_rfl
theorem headApart : (headWords.all fun w => w.all fun c => c.toNat != 32) = true := by kernel_rfl
theorem headSigns : wordsSigns Try.prog.initOrder.toList = headWords := by
  rw [headIs, String.toList_ofList]
  refine words_join _ (by simp [headWords, headCodes]) fun w hw c hc e => ?_
  have h := List.all_eq_true.1 (List.all_eq_true.1 headApart w hw) c hc
  rw [e] at h
  revert h
  decide

def cutW : List Char := [99, 117, 116].map Char.ofNat
def restW : List (List Char) := headWords.drop 3
theorem headBehind : behindMainWord headWords = cutW :: restW := by kernel_rfl
theorem cut_gc : (cutW == "gc".toList) = false := by kernel_rfl
theorem cut_spec : (cutW == "spec".toList) = false := by kernel_rfl
theorem cut_carried : (cutW == "carried".toList) = false := by kernel_rfl
theorem cut_cut : (cutW == "cut".toList) = true := by kernel_rfl
theorem cut_strip (r : List (List Char)) : stripLifts liftWords (cutW :: r) = ([], cutW :: r) := by kernel_rfl
theorem cut_head (r : List (List Char)) : ((cutW :: r).head? == some "cut".toList) = true := by kernel_rfl
theorem cut_head2 (r : List (List Char)) : ((cutW :: r).head? == some "carried".toList) = false := by kernel_rfl
section
variable {P : Program} {ws r : List (List Char)} (h : wordsSigns P.initOrder.toList = ws) (hb : behindMainWord ws = cutW :: r)
include h hb
theorem enter_of (h1 : P.laysLater = false) (h2 : P.bearsReflect = false) (h3 : P.doorFits [] = true) : P.mayEnter = true := by
  unfold Program.mayEnter
  rw [h, hb]
  simp only [cut_gc, cut_spec, cut_carried, cut_strip, cut_head, h1, h2, h3]
  rfl
theorem make_of : P.make = some .cut := by
  unfold Program.make
  rw [h, hb]
  simp only [cut_gc, cut_spec, cut_cut]
  rfl
theorem lifts_of : P.liftsFinal = false := by
  unfold Program.liftsFinal Program.headLifts
  rw [h, hb]
  simp only [cut_strip, cut_head, cut_head2]
  rfl
end
theorem head_enter : Try.prog.mayEnter = true := enter_of headSigns headBehind (by kernel_rfl) (by kernel_rfl) (by kernel_rfl)
theorem head_make : Try.prog.make = some .cut := make_of headSigns headBehind
theorem head_lifts : Try.prog.liftsFinal = false := lifts_of headSigns headBehind

theorem facts_of {P : Program} {f : FuncId} {fn : Func} {s : ChangeSpec} {c : OpenClaim}
    (k1 : c.wf (OpenSpec.ofChange s) = true) (k2 : laidOutB P = true) (k3 : mapsRowed P = true) (k4 : fn.params.all (P.readableRec ·) = true) (k5 : namedTie P c.named s.vars = true)
    (k6 : (c.stops == []) = true) (k7 : (P.stops == []) = true) (k8 : (c.knobs == []) = true) (k9 : (P.stopKnobs == []) = true)
    (k10 : (c.inPlace == P.inPlace f) = true) (k11 : (c.unfollowed == P.unfollowed f) = true) (k12 : (c.recurses == P.recurses f) = true) (k13 : (c.named == P.varsNamed f) = true)
    (k14 : (c.maps == (fn.params.toList ++ s.plain.varTypes P).any (P.mapsRec ·)) = true) (k15 : (c.ifaces == (fn.params.toList ++ s.plain.varTypes P).any (P.ifacesRec ·)) = true) (k16 : (c.mapsOut == P.mapsAmong fn.resultTypes.toList) = true)
    (k17 : (c.loops == (fn.params.toList ++ s.plain.varTypes P).any (P.loopsFrom ·)) = true) (k17b : (c.wideKeys == (fn.params.toList ++ s.plain.varTypes P ++ fn.resultTypes.toList).any (P.wideKeysFrom ·)) = true)
    (k18 : s.vars.all (P.varReadable ·) = true) (k19 : fn.resultTypes.all (fun t => P.readableRec t && decide (t < P.types.size)) = true) (k20 : (c.ifacesOut == fn.resultTypes.toList.any (P.ifacesRec ·)) = true) (k21 : (c.loopsOut == fn.resultTypes.toList.any (P.loopsFrom ·)) = true)
    (k22 : (c.plainKeys == P.plainKeys) = true) (k23 : c.shortTexts.isNone = true) (k23b : P.stopsHeard = true) (k24 : P.mayEnter = true) (k24b : c.lifted = false) (k24b' : P.liftsFinal = false) (k24c : P.make = some .cut) (k24c' : c.make = .cut)
    (k25 : (c.kinds == (if c.domain.isEmpty then [] else fn.params.toList.map fun t => match P.underlying t with | some (.int k) => some k | _ => none)) = true) (k26 : (c.pinned == c.pinnedBy) = true)
    (k27 : (c.veiled == (fn.params.toList ++ s.plain.varTypes P ++ fn.resultTypes.toList).any (P.veiledRec ·)) = true) (k28 : c.veiledFits P fn.params.toList (fn.params.toList ++ s.plain.varTypes P ++ fn.resultTypes.toList) = true) :
    joinedFacts P f fn s c = true := by
  have k24d : (c.lifted == P.liftsFinal) = true := by rw [k24b, k24b']; rfl
  have k24e : (P.make == some c.make) = true := by rw [k24c, k24c']; rfl
  unfold joinedFacts
  simp only [Bool.and_eq_true]
  exact ⟨⟨⟨⟨⟨⟨⟨⟨⟨⟨⟨⟨⟨⟨⟨⟨⟨⟨⟨⟨⟨⟨⟨⟨⟨⟨⟨⟨⟨⟨⟨k1, k2⟩, k3⟩, k4⟩, k5⟩, k6⟩, k7⟩, k8⟩, k9⟩, k10⟩, k11⟩, k12⟩, k13⟩, k14⟩, k15⟩, k16⟩, k17⟩, k17b⟩, k18⟩, k19⟩, k20⟩, k21⟩, k22⟩, k23⟩, k23b⟩, k24⟩, k24d⟩, k24e⟩, k25⟩, k26⟩, k27⟩, k28⟩

theorem q2 : laidOutB Try.prog = true := by kernel_rfl
theorem q3 : mapsRowed Try.prog = true := by kernel_rfl
theorem q7 : (Try.prog.stops == []) = true := by kernel_rfl
theorem q9 : (Try.prog.stopKnobs == []) = true := by kernel_rfl
theorem q22 : Try.prog.plainKeys = true := by kernel_rfl
theorem q23 : Try.prog.stopsHeard = true := by kernel_rfl

end Go.Proofs.Ytoglgeinnocfjaa
