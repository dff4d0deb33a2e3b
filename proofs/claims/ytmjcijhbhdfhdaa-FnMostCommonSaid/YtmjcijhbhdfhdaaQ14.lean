/-
  Sort.
-/
import Derived.Sort.Defs
import Derived.Test.YtmjcijhbhdfhdaaQ3
/-
  An insertion sort, as a list: plain mathematics.
-/
namespace Go.Proofs.Ytmjcijhbhdfhdaa

section
variable {α : Type} [Inhabited α] (lt : α → α → Bool)

/-- x put into a reversed list: behind all that are greater. -/
def insRv : List α → α → List α
  | [], x => [x]
  | y :: q, x => if lt x y then y :: insRv q x else x :: y :: q
/-- x put into p, looked for from the end. -/
def insR (p : List α) (x : α) : List α := (insRv lt p.reverse x).reverse
def sortR (l : List α) : List α := l.foldl (insR lt) []

omit [Inhabited α] in
theorem insR_nil (x : α) : insR lt [] x = [x] := rfl
omit [Inhabited α] in
theorem insR_snoc (p : List α) (y x : α) : insR lt (p ++ [y]) x = if lt x y then insR lt p x ++ [y] else p ++ [y, x] := by
  unfold insR
  rw [List.reverse_append]
  simp only [List.reverse_cons, List.reverse_nil, List.nil_append, List.singleton_append, insRv]
  split <;> simp
omit [Inhabited α] in
theorem insR_length (x : α) (p : List α) : (insR lt p x).length = p.length + 1 := by
  have : ∀ q : List α, (insRv lt q x).length = q.length + 1 := by
    intro q
    induction q with
    | nil => rfl
    | cons y q ih => unfold insRv; split <;> simp [ih]
  simp [insR, this]

theorem swp_list {q : List α} {x y : α} {r : List α} {d : Array α} {n : Nat} (hd : d.toList = q ++ [y] ++ x :: r) (hq : q.length = n) : d[n + 1]! = x ∧ d[n]! = y ∧ (Sort.swp d (n + 1) n).toList = q ++ x :: (y :: r) := by
  have hsz : d.size = (q ++ [y] ++ x :: r).length := by rw [← hd]; simp
  have g1 : d[n + 1]! = x := by
    rw [getElem!_pos d (n + 1) (by rw [hsz]; simp; omega), ← Array.getElem_toList (by rw [hd]; simp; omega)]
    simp only [hd]
    rw [List.getElem_append_right (by simp; omega)]
    simp [hq]
  have g0 : d[n]! = y := by
    rw [getElem!_pos d n (by rw [hsz]; simp; omega), ← Array.getElem_toList (by rw [hd]; simp; omega)]
    simp only [hd]
    rw [List.getElem_append_left (by simp; omega), List.getElem_append_right (by omega)]
    simp [hq]
  refine ⟨g1, g0, ?_⟩
  unfold Sort.swp
  rw [g1, g0, Array.toList_setIfInBounds, Array.toList_setIfInBounds, hd, List.append_assoc, List.singleton_append, List.set_append_right _ _ (by omega), List.set_append_right _ _ (by omega), hq, Nat.sub_self, show n + 1 - n = 1 from by omega]
  rfl

theorem insInner_list : ∀ (n : Nat) (p : List α) (x : α) (r : List α) (d : Array α), p.length = n → d.toList = p ++ x :: r → (Sort.insInner lt 0 n d).toList = insR lt p x ++ r := by
  intro n
  induction n with
  | zero =>
    intro p x r d h hd
    have : p = [] := List.eq_nil_of_length_eq_zero h
    subst this
    simp [Sort.insInner, insR_nil, hd]
  | succ n ih =>
    intro p x r d h hd
    obtain ⟨q, y, rfl⟩ : ∃ q y, p = q ++ [y] := ⟨p.dropLast, p.getLast (by intro e; simp [e] at h), (List.dropLast_concat_getLast _).symm⟩
    have hq : q.length = n := by simpa using h
    obtain ⟨g1, g0, hsw⟩ := swp_list hd hq
    unfold Sort.insInner
    rw [g1, g0, insR_snoc]
    by_cases hlt : lt x y = true
    · rw [if_pos (by simp [hlt]), if_pos hlt, ih q x (y :: r) _ hq hsw]
      simp
    · rw [if_neg (by simp [hlt]), if_neg hlt, hd]
      simp

theorem insOuter_list : ∀ (r p : List α) (d : Array α) (b : Nat), d.toList = p ++ r → b = p.length + r.length → (Sort.insOuter lt 0 b p.length d).toList = r.foldl (insR lt) p := by
  intro r
  induction r with
  | nil =>
    intro p d b hd hb
    unfold Sort.insOuter
    rw [if_neg (by simp at hb; omega), hd]
    simp
  | cons x r ih =>
    intro p d b hd hb
    unfold Sort.insOuter
    simp only [List.length_cons] at hb
    rw [if_pos (by omega)]
    have h1 := insInner_list lt p.length p x r d rfl hd
    have h2 := ih (insR lt p x) (Sort.insInner lt 0 p.length d) b h1 (by rw [insR_length]; omega)
    rw [insR_length] at h2
    exact h2

theorem insSort_list (d : Array α) : (Sort.insertionSort lt d 0 d.size).toList = sortR lt d.toList := by
  unfold Sort.insertionSort sortR
  cases h : d.toList with
  | nil =>
    have : d.size = 0 := by rw [← Array.length_toList, h]; rfl
    unfold Sort.insOuter
    rw [if_neg (by omega), h]
    rfl
  | cons x r =>
    have hs : d.size = 1 + r.length := by rw [← Array.length_toList, h]; simp; omega
    exact insOuter_list lt r [x] d d.size (by rw [h]; rfl) (by rw [hs]; rfl)

/-! ### looked for from the beginning -/
variable (ge : α → α → Bool)
def insD (p : List α) (x : α) : List α := p.takeWhile (fun y => ge y x) ++ x :: p.dropWhile (fun y => ge y x)
def sortD (l : List α) : List α := l.foldl (insD ge) []

variable {lt ge} (hge : ∀ x y, ge y x = !lt x y) (tr : ∀ a b c, ge a b = true → ge b c = true → ge a c = true) (tot : ∀ a b, ge a b = true ∨ ge b a = true)
omit [Inhabited α] in
include hge tr in
theorem insR_insD (x : α) : ∀ (n : Nat) (p : List α), p.length = n → p.Pairwise (fun a b => ge a b = true) → insR lt p x = insD ge p x := by
  intro n
  induction n with
  | zero =>
    intro p h _
    have : p = [] := List.eq_nil_of_length_eq_zero h
    subst this
    rfl
  | succ n ih =>
    intro p h hs
    obtain ⟨q, y, rfl⟩ : ∃ q y, p = q ++ [y] := ⟨p.dropLast, p.getLast (by intro e; simp [e] at h), (List.dropLast_concat_getLast _).symm⟩
    rw [List.pairwise_append] at hs
    rw [insR_snoc]
    by_cases hlt : lt x y = true
    · rw [if_pos hlt, ih q (by simpa using h) hs.1]
      have hy : ge y x = false := by rw [hge, hlt]; rfl
      unfold insD
      rw [List.takeWhile_append, List.dropWhile_append]
      by_cases hall : (q.takeWhile fun y => ge y x).length = q.length
      · have e : q.takeWhile (fun y => ge y x) = q := List.takeWhile_prefix _ |>.eq_of_length hall
        have e2 : q.dropWhile (fun y => ge y x) = [] := by
          have := List.takeWhile_append_dropWhile (p := fun y => ge y x) (l := q)
          rw [e] at this
          simpa using this
        simp [e, e2, hy]
      · have e2 : (q.dropWhile (fun y => ge y x)).isEmpty = false := by
          cases hd : q.dropWhile (fun y => ge y x) with
          | nil =>
            have := List.takeWhile_append_dropWhile (p := fun y => ge y x) (l := q)
            rw [hd, List.append_nil] at this
            exact absurd (by rw [this]) hall
          | cons a b => rfl
        simp [hall, e2]
    · rw [if_neg hlt]
      have hy : ge y x = true := by rw [hge]; simpa using hlt
      have hall : ∀ z ∈ q ++ [y], ge z x = true := by
        intro z hz
        rcases List.mem_append.1 hz with hz | hz
        · exact tr _ _ _ (hs.2.2 z hz y (by simp)) hy
        · rw [List.mem_singleton.1 hz]; exact hy
      unfold insD
      have e1 := List.takeWhile_append_of_pos (l₂ := []) hall
      have e2 := List.dropWhile_append_of_pos (l₂ := []) hall
      rw [List.append_nil] at e1 e2
      rw [e1, e2]
      simp

omit [Inhabited α] in
include tr tot in
theorem insD_sorted {p : List α} (x : α) (hs : p.Pairwise (fun a b => ge a b = true)) : (insD ge p x).Pairwise (fun a b => ge a b = true) := by
  have hsplit := List.takeWhile_append_dropWhile (p := fun y => ge y x) (l := p)
  have hs' := hs
  rw [← hsplit, List.pairwise_append] at hs'
  unfold insD
  rw [List.pairwise_append, List.pairwise_cons]
  have h1 : ∀ z ∈ p.takeWhile (fun y => ge y x), ge z x = true := fun z hz => by
    have := List.all_takeWhile (p := fun y => ge y x) (l := p)
    exact List.all_eq_true.1 this z hz
  refine ⟨hs'.1, ⟨?_, hs'.2.1⟩, ?_⟩
  · cases hd : p.dropWhile (fun y => ge y x) with
    | nil => intro z hz; simp at hz
    | cons y r =>
      have hy : ge y x = false := by
        have := List.head_dropWhile_not (p := fun y => ge y x) (l := p) (by rw [hd]; simp)
        simpa [hd] using this
      have hxy : ge x y = true := by
        rcases tot x y with h | h
        · exact h
        · rw [hy] at h; cases h
      intro z hz
      rcases List.mem_cons.1 hz with rfl | hz
      · exact hxy
      · have := hs'.2.1
        rw [hd, List.pairwise_cons] at this
        exact tr _ _ _ hxy (this.1 z hz)
  · intro a ha b hb
    rcases List.mem_cons.1 hb with rfl | hb
    · exact h1 a ha
    · exact hs'.2.2 a ha b hb

omit [Inhabited α] in
include hge tr tot in
theorem sort_same (l : List α) : sortR lt l = sortD ge l ∧ (sortD ge l).Pairwise (fun a b => ge a b = true) := by
  have : ∀ (r p : List α), p.Pairwise (fun a b => ge a b = true) → r.foldl (insR lt) p = r.foldl (insD ge) p ∧ (r.foldl (insD ge) p).Pairwise (fun a b => ge a b = true) := by
    intro r
    induction r with
    | nil => intro p hp; exact ⟨rfl, hp⟩
    | cons x r ih =>
      intro p hp
      have h1 := insD_sorted tr tot x hp
      have h2 := ih _ h1
      simp only [List.foldl_cons]
      rw [insR_insD hge tr x p.length p rfl hp]
      exact h2
  exact this l [] List.Pairwise.nil

omit [Inhabited α] in
theorem insD_perm (p : List α) (x : α) : (insD ge p x).Perm (x :: p) := by
  unfold insD
  have := List.takeWhile_append_dropWhile (p := fun y => ge y x) (l := p)
  refine List.perm_middle.trans ?_
  rw [this]
omit [Inhabited α] in
theorem sortD_perm (l : List α) : (sortD ge l).Perm l := by
  have : ∀ (r p : List α), (r.foldl (insD ge) p).Perm (p ++ r) := by
    intro r
    induction r with
    | nil => intro p; simp
    | cons x r ih =>
      intro p
      refine (ih (insD ge p x)).trans ?_
      refine ((insD_perm p x).append_right r).trans ?_
      simpa using (List.perm_middle (a := x) (l₁ := p) (l₂ := r)).symm
  exact this l []
end

/-! ### keys in order -/
def keyLt (a b : ByteArray) : Bool := Op.bytesLess a.toList b.toList
theorem bl_irrefl (a : List UInt8) : Op.bytesLess a a = false := by
  induction a with
  | nil => rfl
  | cons x a ih => simp [Op.bytesLess, ih]
theorem bl_total : ∀ (a b : List UInt8), Op.bytesLess a b = false → Op.bytesLess b a = false → a = b
  | [], [], _, _ => rfl
  | [], _ :: _, h, _ => by simp [Op.bytesLess] at h
  | _ :: _, [], _, h => by simp [Op.bytesLess] at h
  | x :: a, y :: b, h, h' => by
    simp only [Op.bytesLess, Bool.or_eq_false_iff, decide_eq_false_iff_not, Bool.and_eq_false_iff, beq_eq_false_iff_ne] at h h'
    have e : x = y := UInt8.toNat_inj.1 (by have h1 := h.1; have h2 := h'.1; rw [UInt8.lt_iff_toNat_lt] at h1 h2; omega)
    subst e
    rw [bl_total a b (h.2.resolve_left (fun h => h rfl)) (h'.2.resolve_left (fun h => h rfl))]
theorem bl_trans : ∀ (a b c : List UInt8), Op.bytesLess a b = true → Op.bytesLess b c = true → Op.bytesLess a c = true
  | _, _, [], _, h => by cases ‹List UInt8› <;> simp [Op.bytesLess] at h
  | [], _, _ :: _, _, _ => rfl
  | _ :: _, [], _, h, _ => by simp [Op.bytesLess] at h
  | x :: a, y :: b, z :: c, h, h' => by
    simp only [Op.bytesLess, Bool.or_eq_true, decide_eq_true_eq, Bool.and_eq_true, beq_iff_eq, UInt8.lt_iff_toNat_lt] at h h' ⊢
    rcases h with h | ⟨rfl, h⟩
    · rcases h' with h' | ⟨rfl, h'⟩
      · exact .inl (by omega)
      · exact .inl h
    · rcases h' with h' | ⟨rfl, h'⟩
      · exact .inl h'
      · exact .inr ⟨rfl, bl_trans a b c h h'⟩
theorem bytes_ext {a b : ByteArray} (h : a.toList = b.toList) : a = b := by
  rw [ByteArray.toList_eq, ByteArray.toList_eq] at h
  cases a with
  | mk a => cases b with
    | mk b => simp only [ByteArray.mk.injEq]; exact Array.toList_inj.1 h
theorem key_total {a b : ByteArray} (h : keyLt a b = false) (h' : keyLt b a = false) : a = b := bytes_ext (bl_total _ _ h h')
theorem key_trans {a b c : ByteArray} (h : keyLt a b = true) (h' : keyLt b c = true) : keyLt a c = true := bl_trans _ _ _ h h'
theorem key_irrefl (a : ByteArray) : keyLt a a = false := bl_irrefl _
theorem key_asymm {a b : ByteArray} (h : keyLt a b = true) : keyLt b a = false := by
  cases h' : keyLt b a
  · rfl
  · have := key_trans h h'; rw [key_irrefl] at this; cases this
end Go.Proofs.Ytmjcijhbhdfhdaa
