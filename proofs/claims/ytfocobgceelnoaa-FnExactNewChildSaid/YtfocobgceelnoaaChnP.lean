/-
  An item put into a chain's first map, by the program and by the model.
-/
import Derived.Test.YtfocobgceelnoaaChnI
namespace Go.Proofs.Ytfocobgceelnoaa
open Go.RowKit

theorem OwnM.shape {lo hi : Nat} {w : World} {v : Value} {ls : List (List Itm)} (h : OwnM lo hi w v ls) : ∃ ao L cap, v = .slice ao L cap := by
  obtain ⟨ao, cap, e, _⟩ := h.slice
  exact ⟨ao, _, cap, e⟩
theorem ret_m {a b : Value} {c d : Bool} (h : a = b) (h' : c = d) : Ending.returned (okV a c) = .returned (okV b d) := by rw [h, h']
theorem OwnM.head {lo hi : Nat} {w : World} {v : Value} {ls : List (List Itm)} (h : OwnM lo hi w v ls) (hk : 0 < ls.length) : ∃ g cap, v = .slice (some ⟨g, 0, none⟩) ls.length cap ∧ lo ≤ g ∧ g < hi := by
  obtain ⟨us, h3, h4⟩ := h
  have hl := h4.len
  rcases h3 with ⟨h3, h5⟩ | ⟨rfl, _⟩
  · obtain ⟨g, cap, rfl, hgc, hgB⟩ := own_shape h3 (by omega)
    exact ⟨g, cap, by rw [hl], hgB, h5 g rfl⟩
  · simp at hl
    omega
/-- At a list of one's own: its value, its slot. -/
theorem OwnM.cell {lo hi g cap : Nat} {w : World} {ls : List (List Itm)} (h : OwnM lo hi w (.slice (some ⟨g, 0, none⟩) ls.length cap) ls) {k : Nat} (hk : k < ls.length) : ∃ u, w.cell? ⟨g, k, none⟩ = some u ∧ Items w u ls[k] := by
  obtain ⟨b, o, cap', u, e, hb, hc, hI⟩ := h.maps.at hk
  simp only [Value.slice.injEq, Option.some.injEq, Addr.mk.injEq, and_true] at e
  obtain ⟨⟨rfl, rfl⟩, _, rfl⟩ := e
  rw [Nat.zero_add] at hc
  exact ⟨u, hc, hI⟩
theorem tot_mem {ls : List (List Itm)} (h : validC ls = true) : ls.length ≤ 4 ∧ tot ls ≤ 32 := by
  have h1 := validC_iff.1 h
  refine ⟨h1.2.2, ?_⟩
  have key : ∀ ms : List (List Itm), (∀ l ∈ ms, validI l = true) → tot ms ≤ 8 * ms.length := by
    intro ms
    induction ms with
    | nil => intro _; simp [tot]
    | cons x r ih =>
      intro hh
      have h2 := valid_len (hh x (by simp))
      have h3 := ih (fun l hl => hh l (by simp [hl]))
      simp only [tot, List.length_cons]
      omega
  have := key ls h1.1
  omega

def cpB (ls : List (List Itm)) (s : ByteArray) (n : Int) : Bool := validC ls && okP (ls.headD []) s n
def cpL (ls : List (List Itm)) (s : ByteArray) (n : Int) : List (List Itm) := ifM (cpB ls s n) (ls.set 0 (putL (ls.headD []) s n))
theorem head_at {ls : List (List Itm)} (h : 0 < ls.length) : ls.headD [] = ls[0] := by
  cases ls with
  | nil => simp at h
  | cons x r => rfl

/-! ### the model -/
set_option maxHeartbeats 800000 in
set_option maxRecDepth 100000 in
theorem schkC_any {lo hi : Nat} (v : Value) (ls : List (List Itm)) (w : World) (h : OwnM lo hi w v ls) (hhi : hi ≤ w.heap.size) :
    Calls Try.prog 57 #[.agg #[v]] w fun e w' => ∃ v', e = .returned (okV v' (validC ls)) ∧ OwnM lo w'.heap.size w' v' (ifM (validC ls) ls) ∧ Below w.heap.size w w' := by
  have hM := Lib.hid h
  obtain ⟨vo, L, vc, rfl⟩ := h.shape
  clear h
  go_enter Try.func57, Try.ntmps57
  have HA : Hid (Below w.heap.size w ((w.alloc (.cells #[.slice vo L vc] 30)).alloc (.cells #[.slice none 0 0] 30))) := ((Below.refl _ _).alloc (Nat.le_refl _) _).alloc (by simp) _
  have F0 := Lib.hid ((One.new w 30 (.slice vo L vc)).below (B := w.heap.size + 1) ((Below.refl _ _).alloc (by simp) (.cells #[.slice none 0 0] 30)) (by omega))
  have F1' := One.new (w.alloc (.cells #[.slice vo L vc] 30)) 30 (.slice none 0 0)
  simp at F1'
  have F1 := Lib.hid F1'
  clear F1'
  have c0 := F0.out.cell
  cases hv : validC ls
  all_goals
    have HV := Lib.hid hv
    clear hv
    go_wp2_with fail
    refine (svC_v _ (hM.out.maps.mono HA.out (Nat.le_refl _)) HV.out).mono ?_
    rintro e w1 ⟨rfl, hb1⟩
    have hs1 := hb1.size
    simp at hs1 hb1
    have hw1 := Lib.hid (HA.out.trans (hb1.mono (by omega)))
    have G0 := Lib.hid (F0.out.below hb1 (by omega))
    have G1 := Lib.hid (F1.out.below hb1 (by omega))
    have c0 := G0.out.cell
    have e0 := G1.out.cell
    have f0 := G1.out.free
    clear hb1
    go_wp2
  · have HB : Hid (Below w.heap.size w (w1.setCell ⟨w.heap.size + 1, 0, none⟩ (.slice none 0 0))) := hw1.out.setCell (by simp) _
    exact bodyPost_ret (v := okV (.slice none 0 0) false) (by simp [okV, results, Try.results57, go_sem, e0]) rfl ⟨_, rfl, OwnM.nil _ _ _, HB.out⟩
  · have HB : Hid (Below w.heap.size w (w1.setCell ⟨w.heap.size + 1, 0, none⟩ (.slice vo L vc))) := hw1.out.setCell (by simp) _
    have hsz := HB.out.size
    exact bodyPost_ret (v := okV (.slice vo L vc) true) (by simp [okV, results, Try.results57, go_sem, e0]) rfl ⟨_, rfl, (hM.out.keeps (Keeps.of_below HB.out (fun j hj => Nat.lt_of_lt_of_le hj.2 hhi))).wide (Nat.le_refl _) (by omega), HB.out⟩
theorem validC_set {ls : List (List Itm)} {k : Nat} (h : validC ls = true) (hk : k < ls.length) (l : List Itm) : validC (ls.set k l) = validI l := by
  have h1 := validC_iff.1 h
  rw [Bool.eq_iff_iff, validC_iff]
  constructor
  · rintro ⟨ha, _⟩
    exact ha l (List.mem_of_getElem? (i := k) (by simp [hk]))
  · intro hl
    refine ⟨fun m hm => ?_, by simp; omega, by simp; omega⟩
    rcases List.mem_or_eq_of_mem_set hm with hm | rfl
    · exact h1.1 m hm
    · exact hl
theorem cp_of {ls : List (List Itm)} {s : ByteArray} {n : Int} (h : validC ls = true) (h0 : 0 < ls.length) : validC (ls.set 0 (putI ls[0] s n)) = cpB ls s n ∧ ifM (validC (ls.set 0 (putI ls[0] s n))) (ls.set 0 (putI ls[0] s n)) = cpL ls s n := by
  have h1 := (validC_iff.1 h).1 _ (List.getElem_mem h0)
  have e1 : validC (ls.set 0 (putI ls[0] s n)) = cpB ls s n := by
    rw [validC_set h h0]
    unfold cpB okP
    rw [h, head_at h0, h1]
    rfl
  refine ⟨e1, ?_⟩
  rw [e1]
  unfold cpL
  cases hb : cpB ls s n
  · rfl
  · have hp : okP (ls.headD []) s n = true := by unfold cpB at hb; rw [Bool.and_eq_true] at hb; exact hb.2
    unfold putL
    rw [hp, head_at h0]
    rfl

theorem cp_le (ls : List (List Itm)) (s : ByteArray) (n : Int) : tot (cpL ls s n) ≤ 10000000 := by
  cases hv : validC ls
  · unfold cpL cpB
    rw [hv]
    simp [ifM, tot]
  · have h0 : 0 < ls.length := by have := validC_iff.1 hv; omega
    rw [← (cp_of (s := s) (n := n) hv h0).2]
    cases hb : validC (ls.set 0 (putI ls[0] s n))
    · simp [ifM, tot]
    · have := tot_mem hb
      simp only [ifM, if_true]
      omega
end Go.Proofs.Ytfocobgceelnoaa
