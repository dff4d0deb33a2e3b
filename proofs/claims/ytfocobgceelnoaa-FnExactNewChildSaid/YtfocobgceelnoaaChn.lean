/-
  Lists of lists of items: how they read, how they are owned; the statements' own helpers over them.
-/
import Derived.Test.YtfocobgceelnoaaThing
import Derived.Test.YtfocobgceelnoaaSpec
namespace Go.Proofs.Ytfocobgceelnoaa
open Go.RowKit

def RowOf (K : Nat → Prop) (w : World) (v : Value) (us : List Value) : Prop :=
  ∃ ao cap, v = .slice ao us.length cap ∧ us.length ≤ cap ∧ cap ≤ 9223372036854775807 ∧ ∀ k u, us[k]? = some u → ∃ b o, ao = some ⟨b, o, none⟩ ∧ b < w.heap.size ∧ K b ∧ w.cell? ⟨b, o + k, none⟩ = some u
/-- The slice v reads as the lists ls, all of it in blocks of K. -/
def MapsK (K : Nat → Prop) (w : World) (v : Value) (ls : List (List Itm)) : Prop :=
  ∃ us, us.length = ls.length ∧ RowOf K w v us ∧ ∀ (k : Nat) u l, us[k]? = some u → ls[k]? = some l → Items w u l ∧ InK K u
def Maps (w : World) (v : Value) (ls : List (List Itm)) : Prop := MapsK (fun _ => True) w v ls
theorem RowOf.keeps {K : Nat → Prop} {w w' : World} {v : Value} {us : List Value} (h : RowOf K w v us) (hk : Keeps K w w') : RowOf K w' v us := by
  obtain ⟨ao, cap, e, h1, h2, h3⟩ := h
  refine ⟨ao, cap, e, h1, h2, fun k u hu => ?_⟩
  obtain ⟨b, o, ha, hb, hKb, hc⟩ := h3 k u hu
  exact ⟨b, o, ha, Nat.lt_of_lt_of_le hb hk.size, hKb, (hk.cell (a := ⟨b, _, none⟩) hKb).trans hc⟩
theorem MapsK.keeps {K : Nat → Prop} {w w' : World} {v : Value} {ls : List (List Itm)} (h : MapsK K w v ls) (hk : Keeps K w w') : MapsK K w' v ls := by
  obtain ⟨us, h1, h2, h3⟩ := h
  exact ⟨us, h1, h2.keeps hk, fun k u l hu hl => ⟨(h3 k u l hu hl).1.keeps hk (h3 k u l hu hl).2, (h3 k u l hu hl).2⟩⟩
theorem RowOf.mono {K K' : Nat → Prop} {w : World} {v : Value} {us : List Value} (h : RowOf K w v us) (hK : ∀ k, k < w.heap.size → K k → K' k) : RowOf K' w v us := by
  obtain ⟨ao, cap, e, h1, h2, h3⟩ := h
  refine ⟨ao, cap, e, h1, h2, fun k u hu => ?_⟩
  obtain ⟨b, o, ha, hb, hKb, hc⟩ := h3 k u hu
  exact ⟨b, o, ha, hb, hK b hb hKb, hc⟩
theorem MapsK.weak {K : Nat → Prop} {w : World} {v : Value} {ls : List (List Itm)} (h : MapsK K w v ls) : Maps w v ls := by
  obtain ⟨us, h1, h2, h3⟩ := h
  exact ⟨us, h1, h2.mono (fun _ _ _ => trivial), fun k u l hu hl => ⟨(h3 k u l hu hl).1, fun _ _ _ _ _ => trivial⟩⟩
/-- What reads lies in the heap. -/
theorem Maps.inside {w : World} {v : Value} {ls : List (List Itm)} (h : Maps w v ls) : MapsK (· < w.heap.size) w v ls := by
  obtain ⟨us, h1, h2, h3⟩ := h
  refine ⟨us, h1, h2.mono (fun _ h _ => h), fun k u l hu hl => ⟨(h3 k u l hu hl).1, ?_⟩⟩
  rintro ⟨bb, oo, sp⟩ n c rfl hn
  obtain ⟨ao, cap, e, _, _, _, hc⟩ := (h3 k _ l hu hl).1
  simp only [Value.slice.injEq] at e
  obtain ⟨e1, e2, _⟩ := e
  obtain ⟨b, o, ha, hb, _⟩ := hc 0 (by omega)
  rw [← e1] at ha
  simp only [Option.some.injEq] at ha
  rw [ha]
  exact hb
theorem Maps.mono {w w' : World} {v : Value} {ls : List (List Itm)} (h : Maps w v ls) {B : Nat} (hb : Below B w w') (hB : w.heap.size ≤ B) : Maps w' v ls :=
  (h.inside.keeps (Keeps.of_below hb (fun _ hk => Nat.lt_of_lt_of_le hk hB))).weak
theorem Maps.slice {w : World} {v : Value} {ls : List (List Itm)} (h : Maps w v ls) : ∃ ao cap, v = .slice ao ls.length cap ∧ ls.length ≤ cap ∧ cap ≤ 9223372036854775807 := by
  obtain ⟨us, h1, ⟨ao, cap, e, h2, h3, _⟩, _⟩ := h
  exact ⟨ao, cap, by rw [e, h1], by omega, h3⟩
theorem Maps.at {w : World} {v : Value} {ls : List (List Itm)} (h : Maps w v ls) {k : Nat} (hk : k < ls.length) :
    ∃ b o cap u, v = .slice (some ⟨b, o, none⟩) ls.length cap ∧ b < w.heap.size ∧ w.cell? ⟨b, o + k, none⟩ = some u ∧ Items w u ls[k] := by
  obtain ⟨us, h1, ⟨ao, cap, e, h2, h3, h4⟩, h5⟩ := h
  have hku : k < us.length := by omega
  obtain ⟨b, o, ha, hb, _, hc⟩ := h4 k us[k] (List.getElem?_eq_getElem hku)
  exact ⟨b, o, cap, us[k], by rw [e, ha, h1], hb, hc, (h5 k us[k] ls[k] (List.getElem?_eq_getElem hku) (List.getElem?_eq_getElem hk)).1⟩
theorem Maps.nil (w : World) : Maps w (.slice none 0 0) [] := ⟨[], rfl, ⟨none, 0, rfl, Nat.le_refl _, by omega, fun k u hu => by simp at hu⟩, fun k u l hu => by simp at hu⟩
/-- The lists that a part of the slice reads as. -/
theorem Maps.eq {w : World} {v : Value} {ls ms : List (List Itm)} (h : Maps w v ls) (e : ls = ms) : Maps w v ms := e ▸ h

/-! ### lists of one's own -/
structure RowsZ (lo hi : Nat) (w : World) (us : List Value) (ls : List (List Itm)) : Prop where
  len : us.length = ls.length
  row : ∀ (k : Nat) u l, us[k]? = some u → ls[k]? = some l → RowZ lo hi w u l
  apart : ∀ (i j : Nat) u u' l l', i ≠ j → us[i]? = some u → us[j]? = some u' → ls[i]? = some l → ls[j]? = some l' → l ≠ [] → l' ≠ [] → ∀ g, u.ownBlock = some g → u'.ownBlock ≠ some g
theorem RowsZ.nil (lo hi : Nat) (w : World) : RowsZ lo hi w [] [] := ⟨rfl, fun k u l hu => by simp at hu, fun i j u u' l l' _ hu => by simp at hu⟩
theorem RowsZ.keeps {lo hi : Nat} {w w' : World} {us : List Value} {ls : List (List Itm)} (h : RowsZ lo hi w us ls) (hk : Keeps (In lo hi) w w') : RowsZ lo hi w' us ls :=
  ⟨h.len, fun k u l hu hl => (h.row k u l hu hl).keeps hk, h.apart⟩
theorem RowsZ.wide {lo hi lo' hi' : Nat} {w : World} {us : List Value} {ls : List (List Itm)} (h : RowsZ lo hi w us ls) (hlo : lo' ≤ lo) (hhi : hi ≤ hi') : RowsZ lo' hi' w us ls :=
  ⟨h.len, fun k u l hu hl => (h.row k u l hu hl).wide hlo hhi, h.apart⟩
theorem RowZ.range {lo hi : Nat} {w : World} {v : Value} {xs : List Itm} (h : RowZ lo hi w v xs) (hne : xs ≠ []) {g : Nat} (hg : v.ownBlock = some g) : lo ≤ g ∧ g < hi := by
  rcases h.1.cases with ⟨_, ho⟩ | ⟨h0, _⟩
  · exact ⟨(own_range ho.1 hg).1, h.2 hne g hg⟩
  · exact absurd h0 hne
theorem snoc_get {α : Type} {us : List α} {x u : α} {k : Nat} (h : (us ++ [x])[k]? = some u) : (k < us.length ∧ us[k]? = some u) ∨ (k = us.length ∧ u = x) := by
  rw [List.getElem?_append] at h
  split at h
  · rename_i hlt
    exact .inl ⟨hlt, h⟩
  · rename_i hlt
    have hk : k - us.length = 0 := by
      rcases Nat.eq_zero_or_pos (k - us.length) with h0 | h0
      · exact h0
      · rw [List.getElem?_eq_none (by simp; omega)] at h; cases h
    rw [hk] at h
    simp at h
    exact .inr ⟨by omega, h.symm⟩
theorem RowsZ.snoc {lo hi mid hi' : Nat} {w : World} {us : List Value} {ls : List (List Itm)} {u : Value} {l : List Itm} (h : RowsZ lo hi w us ls) (hn : RowZ mid hi' w u l) (h1 : lo ≤ mid) (h2 : hi ≤ mid) (h3 : hi ≤ hi') : RowsZ lo hi' w (us ++ [u]) (ls ++ [l]) := by
  refine ⟨by simp [h.len], ?_, ?_⟩
  · intro k x m hx hm
    rcases snoc_get hx with ⟨a1, a2⟩ | ⟨a1, a2⟩
    · rcases snoc_get hm with ⟨b1, b2⟩ | ⟨b1, b2⟩
      · exact (h.row k x m a2 b2).wide (Nat.le_refl _) h3
      · have := h.len; omega
    · rcases snoc_get hm with ⟨b1, b2⟩ | ⟨b1, b2⟩
      · have := h.len; omega
      · rw [a2, b2]
        exact hn.wide h1 (Nat.le_refl _)
  · intro i j x x' m m' hij hx hx' hm hm' hne hne' g hg hg'
    rcases snoc_get hx with ⟨a1, a2⟩ | ⟨a1, a2⟩
    · rcases snoc_get hm with ⟨b1, b2⟩ | ⟨b1, b2⟩
      · rcases snoc_get hx' with ⟨c1, c2⟩ | ⟨c1, c2⟩
        · rcases snoc_get hm' with ⟨d1, d2⟩ | ⟨d1, d2⟩
          · exact h.apart i j x x' m m' hij a2 c2 b2 d2 hne hne' g hg hg'
          · have := h.len; omega
        · rcases snoc_get hm' with ⟨d1, d2⟩ | ⟨d1, d2⟩
          · have := h.len; omega
          · rw [c2] at hg'
            rw [d2] at hne'
            have r1 := (h.row i x m a2 b2).range hne hg
            have r2 := hn.range hne' hg'
            omega
      · have := h.len; omega
    · rcases snoc_get hm with ⟨b1, b2⟩ | ⟨b1, b2⟩
      · have := h.len; omega
      · rcases snoc_get hx' with ⟨c1, c2⟩ | ⟨c1, c2⟩
        · rcases snoc_get hm' with ⟨d1, d2⟩ | ⟨d1, d2⟩
          · rw [a2] at hg
            rw [b2] at hne
            have r1 := (h.row j x' m' c2 d2).range hne' hg'
            have r2 := hn.range hne hg
            omega
          · have := h.len; omega
        · omega
theorem RowsZ.set {lo hi : Nat} {w w' : World} {us : List Value} {ls : List (List Itm)} {i : Nat} {u : Value} {l l' : List Itm} (h : RowsZ lo hi w us ls) (hu : us[i]? = some u) (hl : ls[i]? = some l) (hn : RowZ lo hi w' u l') (hne : l' = [] ↔ l = [])
    (hk : Keeps (fun j => j < w.heap.size ∧ (l ≠ [] → u.ownBlock ≠ some j)) w w') : RowsZ lo hi w' us (ls.set i l') := by
  have hil : i < ls.length := (List.getElem?_eq_some_iff.1 hl).1
  have old : ∀ j p, (ls.set i l')[j]? = some p → (j = i ∧ p = l') ∨ (j ≠ i ∧ ls[j]? = some p) := by
    intro j p hp
    rw [List.getElem?_set] at hp
    by_cases hj : i = j
    · subst hj
      simp [hil] at hp
      exact .inl ⟨rfl, hp.symm⟩
    · rw [if_neg hj] at hp
      exact .inr ⟨fun e => hj e.symm, hp⟩
  refine ⟨by simp [h.len], ?_, ?_⟩
  · intro k x m hx hm
    rcases old k m hm with ⟨rfl, rfl⟩ | ⟨hki, hm⟩
    · rw [hu] at hx
      cases hx
      exact hn
    · have hr := h.row k x m hx hm
      refine ⟨?_, hr.2⟩
      rcases hr.1.cases with ⟨hm0, ho⟩ | h0
      · exact .inl ⟨hk.own ho.1 (fun g hg => ⟨(own_range ho.1 hg).2, fun hl0 => fun e => h.apart k i x u m l hki hx hu hm hl hm0 hl0 g hg e⟩), ho.2⟩
      · exact .inr h0
  · intro a b x x' m m' hab hx hx' hm hm' hm0 hm0' g hg hg'
    have H : ∀ (c : Nat) (p : List Itm), (ls.set i l')[c]? = some p → p ≠ [] → ∃ q, ls[c]? = some q ∧ q ≠ [] := by
      intro c p hp hp0
      rcases old c p hp with ⟨rfl, rfl⟩ | ⟨_, hp⟩
      · exact ⟨l, hl, fun e => hp0 (hne.2 e)⟩
      · exact ⟨p, hp, hp0⟩
    obtain ⟨q, hq, hq0⟩ := H a m hm hm0
    obtain ⟨q', hq', hq0'⟩ := H b m' hm' hm0'
    exact h.apart a b x x' q q' hab hx hx' hq hq' hq0 hq0' g hg hg'
/-- A slice of lists of one's own, in blocks from lo up to hi; or none at all. -/
def OwnM (lo hi : Nat) (w : World) (v : Value) (ls : List (List Itm)) : Prop :=
  ∃ us, ((w.ownsRow lo 34 1 v us.length us ∧ ∀ g, v.ownBlock = some g → g < hi) ∨ (us = [] ∧ ∃ ao c, v = .slice ao 0 c ∧ c ≤ 9223372036854775807)) ∧ RowsZ lo hi w us ls
theorem OwnM.nil (lo hi : Nat) (w : World) : OwnM lo hi w (.slice none 0 0) [] := ⟨[], .inr ⟨rfl, none, 0, rfl, by omega⟩, RowsZ.nil _ _ _⟩
theorem OwnM.keeps {lo hi : Nat} {w w' : World} {v : Value} {ls : List (List Itm)} (h : OwnM lo hi w v ls) (hk : Keeps (In lo hi) w w') : OwnM lo hi w' v ls := by
  obtain ⟨us, h1, h2⟩ := h
  refine ⟨us, ?_, h2.keeps hk⟩
  rcases h1 with ⟨h1, h3⟩ | h1
  · exact .inl ⟨hk.own h1 (fun g hg => ⟨(own_range h1 hg).1, h3 g hg⟩), h3⟩
  · exact .inr h1
theorem OwnM.wide {lo hi lo' hi' : Nat} {w : World} {v : Value} {ls : List (List Itm)} (h : OwnM lo hi w v ls) (hlo : lo' ≤ lo) (hhi : hi ≤ hi') : OwnM lo' hi' w v ls := by
  obtain ⟨us, h1, h2⟩ := h
  refine ⟨us, ?_, h2.wide hlo hhi⟩
  rcases h1 with ⟨h1, h3⟩ | h1
  · exact .inl ⟨ownsRow_base h1 hlo, fun g hg => Nat.lt_of_lt_of_le (h3 g hg) hhi⟩
  · exact .inr h1
theorem row_of {K : Nat → Prop} {w : World} {B E : Nat} {v : Value} {us : List Value} (h : w.ownsRow B E 1 v us.length us) (hK : ∀ g, v.ownBlock = some g → K g) : RowOf K w v us := by
  have h' := h
  rcases h.2 with ⟨rfl, h0⟩ | ⟨g, cap, cur, rfl, hb, hg, hnc, hcm, hcs, htake⟩
  · exact ⟨none, 0, by rw [h0], by omega, by omega, fun k u hu => by
      have : us = [] := List.eq_nil_of_length_eq_zero h0
      subst this
      simp at hu⟩
  · refine ⟨_, cap, rfl, hnc, by unfold maxLen at hcm; exact hcm, fun k u hu => ⟨g, 0, rfl, (Array.getElem?_eq_some_iff.1 hg).1, hK g rfl, ?_⟩⟩
    rw [Nat.zero_add]
    exact row_cell_at h' hu
theorem inK_own {lo hi : Nat} {w : World} {u : Value} {l : List Itm} (h : RowZ lo hi w u l) : InK (In lo hi) u := by
  rintro a n c rfl hn
  rcases h.1.cases with ⟨hne, ho⟩ | ⟨_, ao, c', e, _⟩
  · exact h.range hne rfl
  · simp only [Value.slice.injEq] at e
    omega
theorem OwnM.mapsK {lo hi : Nat} {w : World} {v : Value} {ls : List (List Itm)} (h : OwnM lo hi w v ls) : MapsK (In lo hi) w v ls := by
  obtain ⟨us, h1, h2⟩ := h
  refine ⟨us, h2.len, ?_, fun k u l hu hl => ⟨(h2.row k u l hu hl).items, inK_own (h2.row k u l hu hl)⟩⟩
  rcases h1 with ⟨h1, h3⟩ | ⟨rfl, ao, c, e, hc⟩
  · exact row_of h1 (fun g hg => ⟨(own_range h1 hg).1, h3 g hg⟩)
  · exact ⟨ao, c, e, Nat.zero_le _, hc, fun k u hu => by simp at hu⟩
theorem OwnM.maps {lo hi : Nat} {w : World} {v : Value} {ls : List (List Itm)} (h : OwnM lo hi w v ls) : Maps w v ls := h.mapsK.weak
theorem OwnM.slice {lo hi : Nat} {w : World} {v : Value} {ls : List (List Itm)} (h : OwnM lo hi w v ls) : ∃ ao cap, v = .slice ao ls.length cap ∧ ls.length ≤ cap ∧ cap ≤ 9223372036854775807 := h.maps.slice

def ownMT (lo hi : Nat) (v : Value) (ls : List (List Itm)) : Thing := ⟨lo, hi, fun w => OwnM lo hi w v ls, fun _ _ hk h => h.keeps hk⟩
def readMT (lo hi : Nat) (v : Value) (ls : List (List Itm)) : Thing := ⟨lo, hi, fun w => MapsK (In lo hi) w v ls, fun _ _ hk h => h.keeps hk⟩
theorem Things.mapsO {W w : World} {L : List Thing} (H : Things W w L) (i : Nat) {lo hi : Nat} {v : Value} {ls : List (List Itm)} (h : L[i]? = some (ownMT lo hi v ls)) : Maps w v ls :=
  OwnM.maps (show OwnM lo hi w v ls from (H.has i _ h).2.2)
theorem Things.mapsR {W w : World} {L : List Thing} (H : Things W w L) (i : Nat) {lo hi : Nat} {v : Value} {ls : List (List Itm)} (h : L[i]? = some (readMT lo hi v ls)) : Maps w v ls :=
  (show MapsK (In lo hi) w v ls from (H.has i _ h).2.2).weak
theorem Things.newM {W w w' : World} {L : List Thing} {v : Value} {ls : List (List Itm)} (H : Things W w L) (ho : OwnM w.heap.size w'.heap.size w' v ls) (hb : Below w.heap.size w w') : Things W w' (ownMT w.heap.size w'.heap.size v ls :: L) :=
  H.new (Nat.le_refl _) (Nat.le_refl _) ho hb
theorem Things.newMR {W w w' : World} {L : List Thing} {v : Value} {ls : List (List Itm)} (H : Things W w L) (ho : MapsK (In w.heap.size w'.heap.size) w' v ls) (hb : Below w.heap.size w w') : Things W w' (readMT w.heap.size w'.heap.size v ls :: L) :=
  H.new (Nat.le_refl _) (Nat.le_refl _) ho hb
theorem Things.argM {W w : World} {L : List Thing} (H : Things W w L) {v : Value} {ls : List (List Itm)} (h : Maps W v ls) : Maps w v ls := h.mono H.below (Nat.le_refl _)
def FreshM (ls : List (List Itm)) (w : World) (e : Ending) (w' : World) : Prop :=
  ∃ v, e = .returned v ∧ OwnM w.heap.size w'.heap.size w' v ls ∧ Below w.heap.size w w'

/-! ### how much there is -/
def tot : List (List Itm) → Nat
  | [] => 0
  | l :: r => l.length + tot r
theorem tot_append (a b : List (List Itm)) : tot (a ++ b) = tot a + tot b := by
  induction a with
  | nil => simp [tot]
  | cons x r ih => simp only [List.cons_append, tot, ih]; omega
theorem tot_take {ls : List (List Itm)} {k : Nat} (h : k < ls.length) : tot (ls.take (k + 1)) = tot (ls.take k) + ls[k].length := by
  rw [List.take_succ_eq_append_getElem h, tot_append]
  simp [tot]
theorem tot_le {ls : List (List Itm)} {k : Nat} (h : k < ls.length) : ls[k].length ≤ tot ls := by
  induction ls generalizing k with
  | nil => simp at h
  | cons x r ih =>
    cases k with
    | zero => simp [tot]
    | succ k =>
      have := ih (k := k) (by simpa using h)
      simp only [List.getElem_cons_succ, tot]
      omega

set_option maxHeartbeats 400000 in
theorem szItemS2_any (v : Value) (xs : List Itm) (left : Int) (w : World) (h : Items w v xs) (hl0 : 0 ≤ left) (hl1 : left ≤ 1048576) :
    Calls Try.prog 14 #[v, .int .i64 left] w fun e w' => ∃ r : Int, e = .returned (.int .i64 r) ∧ -1 ≤ r ∧ r ≤ left ∧ (0 ≤ r → (xs.length : Int) + r ≤ left) ∧ Below w.heap.size w w' := by
  obtain ⟨ao, cap, rfl, hlc, hcm, hok, hcell⟩ := h
  go_enter Try.func14, Try.ntmps14
  go_wp2
  · go_ret
    exact ⟨-1, rfl, by omega, by omega, fun h => absurd h (by omega), Below.refl _ _⟩
  · have hle : (xs.length : Int) ≤ left := by omega
    go_loopw [1, 5] (fun l i wr => ∃ (k : Nat) (q : Int), k ≤ xs.length ∧ i = .int .i64 k ∧ l = .int .i64 q ∧ 0 ≤ q ∧ q ≤ left - xs.length ∧ Below w.heap.size w wr)
      (fun _ i _ => xs.length - (intOf i).toNat)
    case atStart => exact ⟨0, left - xs.length, Nat.zero_le _, rfl, rfl, by omega, Int.le_refl _, Below.refl _ _⟩
    case round =>
      obtain ⟨k, q, hk, rfl, rfl, hq0, hq1, hbl⟩ := hrel
      by_cases hlt : k < xs.length
      · obtain ⟨b, o, rfl, hb, h1, h2⟩ := hcell k hlt
        have c1 := (hbl.cell (p := ⟨b, _, none⟩) hb).trans h1
        have c2 := (hbl.cell (p := ⟨b, _, none⟩) hb).trans h2
        have hks : xs[k].1.size ≤ maxLen := by have := (hok _ (List.getElem_mem hlt)).1; unfold maxLen; omega
        go_wp2_with (go_at_call 53; refine (szItem_r _ _ _ _ hks (by omega) (by omega)).mono ?_; rintro e w1 ⟨r, rfl, hr1, hr2, hr3, hb1⟩)
        · go_ret
          exact ⟨-1, rfl, by omega, by omega, fun h => absurd h (by omega), hbl.trans (hb1.mono hbl.size)⟩
        · have hr0 : 0 ≤ r := by assumption
          clear hr3 c1 c2 h1 h2
          go_roundw
          case rel => exact ⟨k + 1, r, by omega, by go_num, rfl, hr0, by omega, hbl.trans (hb1.mono hbl.size)⟩
          case measure => simp [intOf]; omega
      · obtain rfl : k = xs.length := by omega
        go_wp2
        go_ret
        exact ⟨q, rfl, by omega, by omega, fun _ => by omega, hbl⟩

set_option maxHeartbeats 400000 in
theorem szItemSS_any (v : Value) (ls : List (List Itm)) (left : Int) (w : World) (h : Maps w v ls) (hl0 : 0 ≤ left) (hl1 : left ≤ 1048576) :
    Calls Try.prog 52 #[v, .int .i64 left] w fun e w' => ∃ r : Int, e = .returned (.int .i64 r) ∧ -1 ≤ r ∧ r ≤ left ∧ (0 ≤ r → (ls.length : Int) + tot ls + r ≤ left) ∧ Below w.heap.size w w' := by
  have hM := Lib.hid h
  obtain ⟨ao, cap, rfl, hlc, hcm⟩ := h.slice
  clear h
  go_enter Try.func52, Try.ntmps52
  go_wp2
  · go_ret
    exact ⟨-1, rfl, by omega, by omega, fun h => absurd h (by omega), Below.refl _ _⟩
  · have hle : (ls.length : Int) ≤ left := by omega
    go_loopw [1, 5] (fun l i wr => ∃ (k : Nat) (q : Int), k ≤ ls.length ∧ i = .int .i64 k ∧ l = .int .i64 q ∧ 0 ≤ q ∧ q + (tot (ls.take k) : Int) + ls.length ≤ left ∧ Below w.heap.size w wr)
      (fun _ i _ => ls.length - (intOf i).toNat)
    case atStart => exact ⟨0, left - ls.length, Nat.zero_le _, rfl, rfl, by omega, by simp [tot], Below.refl _ _⟩
    case round =>
      obtain ⟨k, q, hk, rfl, rfl, hq0, hq1, hbl⟩ := hrel
      by_cases hlt : k < ls.length
      · obtain ⟨b, o, cap', u, e, hb, h1, hI⟩ := hM.out.at hlt
        simp only [Value.slice.injEq] at e
        obtain ⟨rfl, _, rfl⟩ := e
        have c1 := (hbl.cell (p := ⟨b, _, none⟩) hb).trans h1
        have HI := Lib.hid (hI.mono hbl (Nat.le_refl _))
        have ht := tot_take hlt
        clear h1 hI
        go_wp2_with (go_at_call 14; refine (szItemS2_any _ _ q _ HI.out (by omega) (by omega)).mono ?_; rintro e w1 ⟨r, rfl, hr1, hr2, hr3, hb1⟩)
        · go_ret
          exact ⟨-1, rfl, by omega, by omega, fun h => absurd h (by omega), hbl.trans (hb1.mono hbl.size)⟩
        · have hr0 : 0 ≤ r := by assumption
          have hr4 := hr3 hr0
          clear hr3 c1
          go_roundw
          case rel => exact ⟨k + 1, r, by omega, by go_num, rfl, hr0, by rw [ht]; omega, hbl.trans (hb1.mono hbl.size)⟩
          case measure => simp [intOf]; omega
      · obtain rfl : k = ls.length := by omega
        go_wp2
        go_ret
        rw [List.take_length] at hq1
        exact ⟨q, rfl, by omega, by omega, fun _ => by omega, hbl⟩

/-! ### a copy -/
theorem Try.infoII : (Try.prog.info? 34).map (fun i => (i.zero, i.size, i.bytes)) = some (some (.slice none 0 0), 1, 24) := by kernel_rfl
/-- One list more in a row of lists. -/
theorem row_next {w : World} {B E g n : Nat} {us zs : List Value} {k : Nat} {u : Value} (hlt : k < n) (hk : us.length = k) (hz : zs.length = n - k)
    (hown : w.ownsRow B E 1 (.slice (some ⟨g, 0, none⟩) n n) n (us ++ zs)) :
    ∃ zs', zs'.length = n - (k + 1) ∧ (w.setCell ⟨g, k, none⟩ u).ownsRow B E 1 (.slice (some ⟨g, 0, none⟩) n n) n ((us ++ [u]) ++ zs') := by
  have h1 := (hown.stored k u).1
  match zs, hz with
  | [], hz => simp at hz; omega
  | z0 :: r, hz =>
    refine ⟨r, by simp at hz; omega, ?_⟩
    have e : (us ++ z0 :: r).set k u = (us ++ [u]) ++ r := by
      rw [List.set_append_right _ _ (by omega), hk, Nat.sub_self]
      simp
    rw [e] at h1
    exact h1

set_option maxHeartbeats 800000 in
set_option maxRecDepth 100000 in
theorem toItemSS_any (v : Value) (ls : List (List Itm)) (w : World) (h : Maps w v ls) (hn : ls.length ≤ 1048576) (hm : tot ls ≤ 1048576) :
    Calls Try.prog 58 #[v] w (FreshM ls w) := by
  have hM := Lib.hid h
  obtain ⟨ao, cap, rfl, hlc, hcm⟩ := h.slice
  clear h
  obtain ⟨i0, hi, hz0, hz1, hz2⟩ := info_parts Try.infoII
  have hbytes : i0.bytes * ls.length ≤ 281474976710656 := by rw [hz2]; omega
  go_enter Try.func58, Try.ntmps58
  go_wp2_with (at_make; refine wpList_make_full _ rfl _ _ 28 rfl w.heap.size 34 i0 _ 1 Try.underlying28 hi hz0 hz1 _ _ _ _ ls.length rfl rfl rfl rfl hbytes (by unfold maxLen; omega) (Nat.le_refl _) ?_; intro w0 hown0 hgrow0)
  have hb0 : Below w.heap.size w w0 := (Below.refl _ _).grown hgrow0 (Nat.le_refl _) (fun k hk => by cases hk)
  have hlt0 := (hown0.lt w.heap.size rfl).2
  go_loopw [4] (fun i wr => ∃ (k : Nat) (us zs : List Value), k ≤ ls.length ∧ i = .int .i64 k ∧ us.length = k ∧ zs.length = ls.length - k ∧
      Hid (wr.ownsRow w.heap.size 34 1 (.slice (some ⟨w.heap.size, 0, none⟩) ls.length ls.length) ls.length (us ++ zs)) ∧ Hid (RowsZ (w.heap.size + 1) wr.heap.size wr us (ls.take k)) ∧ w.heap.size < wr.heap.size ∧ Below w.heap.size w wr)
    (fun i _ => ls.length - (intOf i).toNat)
  case atStart => exact ⟨0, [], _, Nat.zero_le _, rfl, rfl, by simp [size_madeCells], hown0, RowsZ.nil _ _ _, hlt0, hb0⟩
  case round =>
    obtain ⟨k, us, zs, hk, rfl, hus, hzl, HR, HZ, hltw, hbl⟩ := hrel
    have hzl := Lib.hid hzl
    have hus := Lib.hid hus
    by_cases hlt : k < ls.length
    · obtain ⟨b, o, cap', u, e, hb, h1, hI⟩ := hM.out.at hlt
      simp only [Value.slice.injEq] at e
      obtain ⟨rfl, _, rfl⟩ := e
      have c1 := (hbl.cell (p := ⟨b, _, none⟩) hb).trans h1
      have HI := Lib.hid (hI.mono hbl (Nat.le_refl _))
      have hle := tot_le hlt
      clear h1 hI
      go_wp2_with (go_at_call 17; refine (toItemS_any _ _ _ HI.out (by omega)).mono ?_; rintro e w1 ⟨v1, rfl, ho1, hb1⟩; have hown1 := ownsRow_below HR.out hb1 (Nat.le_refl _); obtain ⟨u0, c3⟩ := row_cell hown1 (j := k) (by omega); have f3 := hown1.frozenAt k; obtain ⟨xo, xcap, rfl, _, _⟩ := own_slice ho1.1)
      obtain ⟨zs', hzl', hown'⟩ := row_next (u := .slice xo ls[k].length xcap) hlt hus.out hzl.out hown1
      have hsz1 := hb1.size
      have hkB : Keeps (In (w.heap.size + 1) w1.heap.size) w1 (w1.setCell ⟨w.heap.size, k, none⟩ (.slice xo ls[k].length xcap)) := (Keeps.refl _ _).setCell (fun h => by have := h.1; simp at this; omega) _
      have hZ' := ((HZ.out.keeps (Keeps.of_below hb1 (fun k hk => hk.2))).snoc (RowZ.of ho1) (by omega) (Nat.le_refl _) hsz1).keeps hkB
      have e2 : ls.take k ++ [ls[k]] = ls.take (k + 1) := (List.take_succ_eq_append_getElem hlt).symm
      rw [e2] at hZ'
      have HOW := Lib.hid hown'
      have hsz3 : w1.heap.size ≤ (w1.setCell ⟨w.heap.size, k, none⟩ (.slice xo ls[k].length xcap)).heap.size := by simp
      have HZN := Lib.hid (hZ'.wide (Nat.le_refl _) hsz3)
      clear hown1 hown' hZ' c1 c3 f3 hkB e2
      go_roundw
      case rel => exact ⟨k + 1, us ++ [.slice xo ls[k].length xcap], zs', by omega, by go_num, by simp [hus.out], hzl', HOW, HZN, by simp; omega, (hbl.trans (hb1.mono hbl.size)).setCell (Nat.le_refl _) _⟩
      case measure => simp [intOf]; omega
    · obtain rfl : k = ls.length := by omega
      obtain rfl : zs = [] := List.eq_nil_of_length_eq_zero (by rw [hzl.out]; simp)
      go_wp2
      go_ret
      have hr := HR.out
      rw [List.append_nil] at hr
      have hz := HZ.out
      rw [List.take_length] at hz
      rw [← hus.out] at hr
      refine ⟨_, rfl, ⟨us, .inl ⟨?_, fun g hg => ?_⟩, hz.wide (by omega) (Nat.le_refl _)⟩, hbl⟩
      · rw [← hus.out]; exact hr
      · simp [Value.ownBlock] at hg; omega

/-! ### equality -/
def eqFromM (k : Nat) (xs ys : List (List Itm)) : Bool := decide (xs.drop k = ys.drop k)
def eqLB (x y : List Itm) : Bool := decide (x = y)
theorem eqFromM_step {k : Nat} {xs ys : List (List Itm)} (h1 : k < xs.length) (h2 : k < ys.length) : eqFromM k xs ys = (eqLB xs[k] ys[k] && eqFromM (k + 1) xs ys) := by
  unfold eqFromM eqLB
  have e1 := List.drop_eq_getElem_cons h1
  have e2 := List.drop_eq_getElem_cons h2
  rw [e1, e2, Bool.eq_iff_iff, Bool.and_eq_true, decide_eq_true_eq, decide_eq_true_eq, decide_eq_true_eq, List.cons.injEq]
theorem eqItemS_b {v u : Value} {x y : List Itm} (w : World) (h : Items w v x) (h' : Items w u y) :
    Calls Try.prog 20 #[v, u] w fun e w' => e = .returned (.bool (eqLB x y)) ∧ Below w.heap.size w w' := eqItemS_any v u x y w h h'

set_option maxHeartbeats 800000 in
set_option maxRecDepth 100000 in
theorem eqItemSS_any (v u : Value) (xs ys : List (List Itm)) (w : World) (h : Maps w v xs) (h' : Maps w u ys) :
    Calls Try.prog 62 #[v, u] w fun e w' => e = .returned (.bool (decide (xs = ys))) ∧ Below w.heap.size w w' := by
  have hM := Lib.hid h
  have hM' := Lib.hid h'
  obtain ⟨ao, cap, rfl, hlc, hcm⟩ := h.slice
  obtain ⟨ao', cap', rfl, hlc', hcm'⟩ := h'.slice
  clear h h'
  go_enter Try.func62, Try.ntmps62
  by_cases hl : xs.length = ys.length
  · have hlb := eqLen_lit hl
    have HL := Lib.hid hl
    clear hl
    go_wp2
    go_loopw [5] (fun i wr => ∃ k : Nat, k ≤ xs.length ∧ i = .int .i64 k ∧ Hid (decide (xs = ys) = eqFromM k xs ys) ∧ Below w.heap.size w wr) (fun i _ => xs.length - (intOf i).toNat)
    case atStart => exact ⟨0, Nat.zero_le _, rfl, rfl, Below.refl _ _⟩
    case round =>
      obtain ⟨k, hk, rfl, HQ, hbl⟩ := hrel
      by_cases hlt : k < xs.length
      · obtain ⟨b, o, _, q, e, hb, h1, hI⟩ := hM.out.at hlt
        simp only [Value.slice.injEq] at e
        obtain ⟨rfl, _, rfl⟩ := e
        have hlt' : k < ys.length := by have := HL.out; omega
        obtain ⟨b', o', _, q', e, hb', h1', hI'⟩ := hM'.out.at hlt'
        simp only [Value.slice.injEq] at e
        obtain ⟨rfl, _, rfl⟩ := e
        have c1 := (hbl.cell (p := ⟨b, _, none⟩) hb).trans h1
        have c3 := (hbl.cell (p := ⟨b', _, none⟩) hb').trans h1'
        have HI := Lib.hid (hI.mono hbl.drew (Nat.le_refl _))
        have HI' := Lib.hid (hI'.mono hbl.drew (Nat.le_refl _))
        clear h1 h1' hI hI'
        go_wp2_with fail
        go_still_tail 8, (by kernel_rfl)
        change wpList _ _ _ _ _ wr.drew
        go_wp2_with (go_at_call 20; refine (eqItemS_b _ HI.out HI'.out).mono ?_; rintro e w1 ⟨rfl, hb1⟩)
        · have ht : (!eqLB xs[k] ys[k]) = true := by assumption
          go_ret
          refine ⟨ret_bool ?_, hbl.drew.trans (hb1.mono hbl.size)⟩
          rw [HQ.out, eqFromM_step hlt hlt']
          have ht' : eqLB xs[k] ys[k] = false := by simpa using ht
          rw [ht']
          rfl
        · have ht : (!eqLB xs[k] ys[k]) = false := by assumption
          have HT := Lib.hid ht
          clear c1 c3 ht
          go_roundw
          case rel => exact ⟨k + 1, by omega, by go_num, by have := HT.out; unfold Hid; rw [HQ.out, eqFromM_step hlt hlt']; simp at this; simp [this], hbl.drew.trans (hb1.mono hbl.size)⟩
          case measure => simp [intOf]; omega
      · obtain rfl : k = xs.length := by omega
        go_wp2
        go_ret
        refine ⟨ret_bool ?_, hbl⟩
        rw [HQ.out]
        unfold eqFromM
        rw [List.drop_length, HL.out, List.drop_length]
        rfl
  · go_wp2
    go_ret
    exact ⟨ret_bool (by rw [decide_eq_false (fun e => hl (by rw [e]))]), Below.refl _ _⟩

/-! ### marks -/
def marksM (k : Nat) : List Nat → List (List Itm)
  | [] => []
  | n :: r => marksI k n :: marksM (k + 2 * n) r
def sumN : List Nat → Nat
  | [] => 0
  | n :: r => n + sumN r
def lens (ls : List (List Itm)) : List Nat := ls.map List.length
theorem sum_lens (ls : List (List Itm)) : sumN (lens ls) = tot ls := by
  induction ls with
  | nil => rfl
  | cons x r ih =>
    show x.length + sumN (lens r) = x.length + tot r
    rw [ih]
theorem marksM_length (k : Nat) (ns : List Nat) : (marksM k ns).length = ns.length := by
  induction ns generalizing k with
  | nil => rfl
  | cons n r ih => simp [marksM, ih]
theorem marksM_get (k : Nat) (ns : List Nat) (i : Nat) (h : i < ns.length) : (marksM k ns)[i]? = some (marksI (k + 2 * sumN (ns.take i)) ns[i]) := by
  induction ns generalizing k i with
  | nil => simp at h
  | cons n r ih =>
    cases i with
    | zero => simp [marksM, sumN]
    | succ i =>
      have := ih (k + 2 * n) i (by simpa using h)
      simp only [marksM, List.getElem?_cons_succ, List.take_succ_cons, sumN, List.getElem_cons_succ]
      rw [this]
      congr 2
      omega
theorem sumN_take {ns : List Nat} {i : Nat} (h : i < ns.length) : sumN (ns.take (i + 1)) = sumN (ns.take i) + ns[i] := by
  induction ns generalizing i with
  | nil => simp at h
  | cons n r ih =>
    cases i with
    | zero => simp [sumN]
    | succ i =>
      have := ih (i := i) (by simpa using h)
      simp only [List.take_succ_cons, sumN, List.getElem_cons_succ] at this ⊢
      omega
theorem sumN_take_le (ns : List Nat) (i : Nat) : sumN (ns.take i) ≤ sumN ns := by
  induction ns generalizing i with
  | nil => simp
  | cons n r ih =>
    cases i with
    | zero => simp [sumN]
    | succ i =>
      have := ih i
      simp only [List.take_succ_cons, sumN]
      omega
theorem lens_get {ls : List (List Itm)} {k : Nat} (h : k < ls.length) : (lens ls)[k]'(by simpa [lens] using h) = ls[k].length := by simp [lens]
/-- The lists when k of them are marked. -/
def halfM (k0 : Nat) (ls : List (List Itm)) (k : Nat) : List (List Itm) := (marksM k0 (lens ls)).take k ++ ls.drop k
theorem halfM_set (k0 : Nat) (ls : List (List Itm)) (k : Nat) (h : k < ls.length) : (halfM k0 ls k).set k (marksI (k0 + 2 * sumN ((lens ls).take k)) ls[k].length) = halfM k0 ls (k + 1) := by
  have hl : (lens ls).length = ls.length := by simp [lens]
  have hm := marksM_get k0 (lens ls) k (by omega)
  rw [lens_get h] at hm
  have hk : k < (marksM k0 (lens ls)).length := by rw [marksM_length]; omega
  have e := (List.getElem?_eq_some_iff.1 hm)
  obtain ⟨_, e⟩ := e
  unfold halfM
  have e1 : ((marksM k0 (lens ls)).take k).length = k := by simp; omega
  rw [List.set_append_right _ _ (by omega), e1, Nat.sub_self, List.drop_eq_getElem_cons h, List.set_cons_zero, List.take_succ_eq_append_getElem hk, e, List.append_assoc]
  rfl
theorem halfM_at (k0 : Nat) (ls : List (List Itm)) (k : Nat) (h : k < ls.length) : (halfM k0 ls k)[k]? = some ls[k] := by
  have hl : (lens ls).length = ls.length := by simp [lens]
  have e1 : ((marksM k0 (lens ls)).take k).length = k := by simp [marksM_length]; omega
  unfold halfM
  rw [List.getElem?_append_right (by omega), e1, Nat.sub_self, List.getElem?_drop]
  simp [h]
theorem halfM_all (k0 : Nat) (ls : List (List Itm)) : halfM k0 ls ls.length = marksM k0 (lens ls) := by
  unfold halfM
  rw [List.drop_length, List.append_nil, List.take_of_length_le (by rw [marksM_length]; simp [lens])]
theorem marks_nil (q : Nat) (l : List Itm) : marksI q l.length = [] ↔ l = [] := by
  constructor
  · intro h
    have := congrArg List.length h
    rw [marksI_length] at this
    exact List.eq_nil_of_length_eq_zero this
  · rintro rfl
    rfl

def MarkM (lo hi : Nat) (v : Value) (us : List Value) (ls : List (List Itm)) (k0 : Nat) (w : World) (e : Ending) (w' : World) : Prop :=
  e = .returned (.int .i64 ((k0 + 2 * tot ls : Nat) : Int)) ∧ RowsZ lo hi w' us (marksM k0 (lens ls)) ∧ (∀ n xs, w.ownsRow lo 34 1 v n xs → w'.ownsRow lo 34 1 v n xs) ∧ Keeps (fun j => j < w.heap.size ∧ ¬ In lo hi j) w w'
theorem RowZ.but {lo hi : Nat} {w : World} {u : Value} {l : List Itm} (h : RowZ lo hi w u l) {j : Nat} (hj : ¬ In lo hi j) : l ≠ [] → u.ownBlock ≠ some j := fun hne e => hj (h.range hne e)

theorem RowZ.notE {lo hi : Nat} {w : World} {u : Value} {l : List Itm} (h : RowZ lo hi w u l) {B n : Nat} {v : Value} {xs : List Value} (ho : w.ownsRow B 34 1 v n xs) : ∀ g, v.ownBlock = some g → g < w.heap.size ∧ (l ≠ [] → u.ownBlock ≠ some g) := by
  intro g hg
  refine ⟨(own_range ho hg).2, fun hne e => ?_⟩
  rcases h.1.cases with ⟨_, hu⟩ | ⟨h0, _⟩
  · rcases ho.2 with ⟨rfl, _⟩ | ⟨g', cap, cur, rfl, hb, hh, r⟩
    · cases hg
    · injection hg with hg
      subst hg
      exact own_ne hu.1 hh (by decide) e
  · exact absurd h0 hne

set_option maxHeartbeats 800000 in
set_option maxRecDepth 100000 in
theorem markItemSS_any (lo hi : Nat) (v : Value) (us : List Value) (ls : List (List Itm)) (k0 : Nat) (w : World) (hv : w.ownsRow lo 34 1 v ls.length us) (h : RowsZ lo hi w us ls) (hk : 0 < k0) (hk2 : k0 + 2 * tot ls ≤ 100000000) :
    Calls Try.prog 64 #[v, .int .i64 k0] w (MarkM lo hi v us ls k0 w) := by
  have HLEN := Lib.hid h.len
  have HZ := Lib.hid h
  have HV := Lib.hid hv
  obtain ⟨ao, cap, rfl, hlc, hcm⟩ := own_slice hv
  clear h hv
  go_enter Try.func64, Try.ntmps64
  go_wp2
  go_loopw [1, 5] (fun c i wr => ∃ k q : Nat, k ≤ ls.length ∧ i = .int .i64 k ∧ c = .int .i64 q ∧ Hid (q = k0 + 2 * sumN ((lens ls).take k)) ∧ Hid (RowsZ lo hi wr us (halfM k0 ls k)) ∧
      Hid (∀ n xs, w.ownsRow lo 34 1 (.slice ao ls.length cap) n xs → wr.ownsRow lo 34 1 (.slice ao ls.length cap) n xs) ∧ Hid (Keeps (fun j => j < w.heap.size ∧ ¬ In lo hi j) w wr)) (fun _ i _ => ls.length - (intOf i).toNat)
  case atStart => exact ⟨0, k0, Nat.zero_le _, rfl, rfl, rfl, by unfold halfM Hid; simpa using HZ.out, fun _ _ h => h, Keeps.refl _ _⟩
  case round =>
    obtain ⟨k, q, hk', rfl, rfl, HQ, HR, HO, HK⟩ := hrel
    by_cases hlt : k < ls.length
    · have hku : k < us.length := by have := HLEN.out; omega
      have hrow := HO.out _ _ HV.out
      obtain ⟨g, cap', e, hgc, hgB⟩ := own_shape hrow (by omega)
      simp only [Value.slice.injEq] at e
      obtain ⟨rfl, _, rfl⟩ := e
      have hu : us[k]? = some us[k] := List.getElem?_eq_getElem hku
      have c1 := row_cell_at hrow hu
      have hl := halfM_at k0 ls k hlt
      have hz := HR.out.row k _ _ hu hl
      have hq0 : 0 < q := by have := HQ.out; omega
      have hlen2 : (lens ls).length = ls.length := by simp [lens]
      have hq1 : q + 2 * ls[k].length ≤ 100000000 := by
        have h1 := HQ.out
        have h2 := sumN_take (ns := lens ls) (i := k) (by omega)
        have h3 := sumN_take_le (lens ls) (k + 1)
        rw [lens_get hlt] at h2
        rw [sum_lens] at h3
        omega
      have hne := hz.notE hrow
      have HN := Lib.hid hne
      have HW := Lib.hid hz
      have HRW := Lib.hid hrow
      clear hne hz hrow
      go_wp2_with (go_at_call 22; refine (markRow HW.out q hq0 hq1).mono ?_; rintro e w2 ⟨rfl, hz2, hk2'⟩)
      have hset := HR.out.set hu hl hz2 (marks_nil _ _) hk2'
      rw [HQ.out, halfM_set k0 ls k hlt] at hset
      have HR2 := Lib.hid hset
      have HO2 : Hid (∀ n xs, w.ownsRow lo 34 1 (.slice (some ⟨g, 0, none⟩) ls.length cap) n xs → w2.ownsRow lo 34 1 (.slice (some ⟨g, 0, none⟩) ls.length cap) n xs) := fun n xs h => hk2'.own (HO.out n xs h) HN.out
      have HK2 : Hid (Keeps (fun j => j < w.heap.size ∧ ¬ In lo hi j) w w2) := HK.out.trans (hk2'.mono (fun j hj => ⟨Nat.lt_of_lt_of_le hj.1 HK.out.size, HW.out.but hj.2⟩))
      have HQ2 : Hid (q + 2 * ls[k].length = k0 + 2 * sumN ((lens ls).take (k + 1))) := by
        unfold Hid
        rw [sumN_take (by omega), lens_get hlt, HQ.out]
        omega
      clear c1 hset hk2' hz2 hu hl
      go_roundw
      case rel => exact ⟨k + 1, q + 2 * ls[k].length, by omega, by go_num, by go_num, HQ2.out, HR2.out, HO2.out, HK2.out⟩
      case measure => simp [intOf]; omega
    · obtain rfl : k = ls.length := by omega
      go_wp2
      go_ret
      have hr := HR.out
      rw [halfM_all] at hr
      refine ⟨ret_int (by have h1 := HQ.out; rw [List.take_of_length_le (by simp [lens]), sum_lens] at h1; rw [h1]), hr, HO.out, HK.out⟩

set_option maxHeartbeats 800000 in
set_option maxRecDepth 100000 in
theorem heldItemSS_any (v : Value) (ns : List Nat) (k0 : Nat) (w : World) (h : Maps w v (marksM k0 ns)) (hk : 0 < k0) (hk2 : k0 + 2 * sumN ns ≤ 100000000) :
    Calls Try.prog 66 #[v, .int .i64 k0] w fun e w' => e = .returned (.int .i64 ((k0 + 2 * sumN ns : Nat) : Int)) ∧ Below w.heap.size w w' := by
  have hM := Lib.hid h
  obtain ⟨ao, cap, rfl, hlc, hcm⟩ := h.slice
  clear h
  rw [marksM_length] at hlc ⊢
  go_enter Try.func66, Try.ntmps66
  go_wp2
  go_loopw [1, 5] (fun c i wr => ∃ k q : Nat, k ≤ ns.length ∧ i = .int .i64 k ∧ c = .int .i64 q ∧ Hid (q = k0 + 2 * sumN (ns.take k)) ∧ Below w.heap.size w wr) (fun _ i _ => ns.length - (intOf i).toNat)
  case atStart => exact ⟨0, k0, Nat.zero_le _, rfl, rfl, rfl, Below.refl _ _⟩
  case round =>
    obtain ⟨k, q, hk', rfl, rfl, HQ, hbl⟩ := hrel
    by_cases hlt : k < ns.length
    · have hltm : k < (marksM k0 ns).length := by rw [marksM_length]; exact hlt
      obtain ⟨b, o, cap', u, e, hb, h1, hI⟩ := hM.out.at hltm
      simp only [Value.slice.injEq] at e
      obtain ⟨rfl, _, rfl⟩ := e
      have c1 := (hbl.cell (p := ⟨b, _, none⟩) hb).trans h1
      have hm := marksM_get k0 ns k hlt
      rw [← HQ.out, List.getElem?_eq_getElem hltm, Option.some.injEq] at hm
      rw [hm] at hI
      have HI := Lib.hid (hI.mono hbl (Nat.le_refl _))
      have hq0 : 0 < q := by have := HQ.out; omega
      have HQ2 : Hid (q + 2 * ns[k] = k0 + 2 * sumN (ns.take (k + 1))) := by
        unfold Hid
        rw [sumN_take hlt, HQ.out]
        omega
      have hq1 : q + 2 * ns[k] ≤ 100000000 := by
        have h1 := HQ2.out
        have h3 := sumN_take_le ns (k + 1)
        omega
      clear h1 hI hm
      go_wp2_with (go_at_call 30; refine (heldItemS_any _ _ _ _ HI.out hq0 hq1).mono ?_; rintro e w1 ⟨rfl, hb1⟩)
      all_goals clear c1
      · go_roundw
        case rel => exact ⟨k + 1, q + 2 * ns[k], by omega, by go_num, by go_num, HQ2.out, hbl.trans (hb1.mono hbl.size)⟩
        case measure => simp [intOf]; omega
    · obtain rfl : k = ns.length := by omega
      go_wp2
      go_ret
      exact ⟨ret_int (by have h1 := HQ.out; rw [List.take_length] at h1; rw [h1]), hbl⟩
end Go.Proofs.Ytfocobgceelnoaa
