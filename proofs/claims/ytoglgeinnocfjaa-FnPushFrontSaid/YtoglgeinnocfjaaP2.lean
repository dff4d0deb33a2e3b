/-
  Maps.
-/
import Derived.Maps.OwnOps
import Derived.Maps.OwnSet
import Derived.Test.YtoglgeinnocfjaaP1
/-
  A map from texts to numbers (and one to bools) that the call makes: told by the list of its items.
-/
namespace Go.Proofs.Ytoglgeinnocfjaa
open Go.RowKit Go.Maps Go.WideMaps

theorem keyedS : Keyed Try.prog 9 := string_keyed Try.underlying9
def kl (s : ByteArray) : Lit := .string s.data.toList
theorem kl_inj {a b : ByteArray} (h : kl a = kl b) : a = b := by
  simp only [kl, Lit.string.injEq] at h
  cases a with
  | mk a => cases b with
    | mk b => simp only [ByteArray.mk.injEq]; exact Array.toList_inj.1 h
theorem kl_ne {a b : ByteArray} (h : a ≠ b) : kl a ≠ kl b := fun e => h (kl_inj e)
theorem kl_key (s : ByteArray) : WideAt.IsKeyLit (kl s) := trivial
theorem keyS {s : ByteArray} (h : s.size ≤ 9223372036854775807) : keyOf Try.prog 9 (.string s) = some (kl s) := keyOf_string_mk Try.underlying9 (by unfold maxLen; omega)

/-- Block b is a map from texts to numbers of type e that holds the items l. -/
def MapN (e : Nat) (w : World) (b : Nat) (l : List Itm) : Prop :=
  ∃ D : DataW Unit, w.ownsMap Try.prog 9 (plainElem Try.prog e) b l.length D ∧ (∀ s, Maps.has D (kl s) = hasI l s) ∧ (∀ s, D.atKey (kl s) (.lit (.int .i64 0)) = .lit (.int .i64 (cnt l s))) ∧ Maps.size D = l.length ∧ uniqI l = true

/-- Block b is a set of texts: the keys of the items l. -/
def MapB (e : Nat) (w : World) (b : Nat) (l : List Itm) : Prop :=
  ∃ D : DataW Unit, w.ownsMap Try.prog 9 (plainElem Try.prog e) b l.length D ∧ ∀ s, D.atKey (kl s) (.lit (.bool false)) = .lit (.bool (hasI l s))

section
variable {w : World} {b e : Nat} {l : List Itm}

theorem MapN.lt (h : MapN e w b l) : b < w.heap.size := by obtain ⟨D, h, _⟩ := h; exact h.lt
theorem MapB.lt (h : MapB e w b l) : b < w.heap.size := by obtain ⟨D, h, _⟩ := h; exact h.lt
theorem MapN.kept {w' : World} {row : Option Nat} (h : MapN e w b l) (hg : w.grownBy w' row) (hne : some b ≠ row) : MapN e w' b l := by
  obtain ⟨D, h, r⟩ := h; exact ⟨D, h.kept hg hne, r⟩
theorem MapB.kept {w' : World} {row : Option Nat} (h : MapB e w b l) (hg : w.grownBy w' row) (hne : some b ≠ row) : MapB e w' b l := by
  obtain ⟨D, h, r⟩ := h; exact ⟨D, h.kept hg hne, r⟩

theorem ownsMap_of_block {P : Program} {k : TypeId} {R : Value → Option (DataW Unit × List MemPlace)} {n : Nat} {D : DataW Unit} {w' : World} (h : w.ownsMap P k R b n D) (hb : w'.heap[b]? = w.heap[b]?) : w'.ownsMap P k R b n D := by
  obtain ⟨es, clock, h1, r⟩ := h
  exact ⟨es, clock, hb.trans h1, r⟩
theorem MapN.of_block {w' : World} (h : MapN e w b l) (hb : w'.heap[b]? = w.heap[b]?) : MapN e w' b l := by
  obtain ⟨D, h, r⟩ := h; exact ⟨D, ownsMap_of_block h hb, r⟩
theorem MapB.of_block {w' : World} (h : MapB e w b l) (hb : w'.heap[b]? = w.heap[b]?) : MapB e w' b l := by
  obtain ⟨D, h, r⟩ := h; exact ⟨D, ownsMap_of_block h hb, r⟩
theorem MapN.below {w' : World} {C : Nat} (h : MapN e w b l) (hb : Below C w w') (hC : w.heap.size ≤ C) : MapN e w' b l := h.of_block (hb.block b (Nat.lt_of_lt_of_le h.lt hC))
theorem MapB.below {w' : World} {C : Nat} (h : MapB e w b l) (hb : Below C w w') (hC : w.heap.size ≤ C) : MapB e w' b l := h.of_block (hb.block b (Nat.lt_of_lt_of_le h.lt hC))
theorem MapN.alloc (h : MapN e w b l) (o : Obj) : MapN e (w.alloc o) b l := by obtain ⟨D, h, r⟩ := h; exact ⟨D, h.alloc o, r⟩
theorem MapB.alloc (h : MapB e w b l) (o : Obj) : MapB e (w.alloc o) b l := by obtain ⟨D, h, r⟩ := h; exact ⟨D, h.alloc o, r⟩

theorem MapN_made (e : Nat) (w : World) : MapN e (w.alloc (.map #[] 0)) w.heap.size [] :=
  ⟨.map [], World.ownsMap_made _ _ _ _, fun _ => rfl, fun _ => rfl, rfl, rfl⟩
theorem MapB_made (e : Nat) (w : World) : MapB e (w.alloc (.map #[] 0)) w.heap.size [] :=
  ⟨.map [], World.ownsMap_made _ _ _ _, fun _ => rfl⟩

/-- What is owned holds as many as its datum. -/
theorem ownsMap_tight {P : Program} {k : TypeId} {R : Value → Option (DataW Unit × List MemPlace)} {n : Nat} {D : DataW Unit} (h : w.ownsMap P k R b n D) : w.ownsMap P k R b (Maps.size D) D := by
  obtain ⟨es, clock, h1, F, h2, rfl⟩ := h
  exact ⟨es, clock, h1, F, by simp [Maps.size, length_sorted], rfl⟩

theorem MapN.look {t : Nat} (h : MapN e w b l) (ht : Try.prog.underlying t = some (.map 9 e)) (he : Try.prog.underlying e = some (.int .i64)) (hz : (zeroValue e).run Try.prog w = .ok (.int .i64 0) w) {s : ByteArray} (hs : s.size ≤ 9223372036854775807) :
    (Instr.lookup t (.map (some b)) (.string s) false).run Try.prog w = .ok (.int .i64 (cnt l s)) w := by
  obtain ⟨D, h, _, hat, _⟩ := h
  obtain ⟨c, hrun, hc, _⟩ := h.lookup_int keyedS ht he hz (keyS hs)
  rw [hat] at hc
  cases hc
  exact hrun

theorem MapN.lookok {t : Nat} (h : MapN e w b l) (ht : Try.prog.underlying t = some (.map 9 e)) (he : Try.prog.underlying e = some (.int .i64)) (hz : (zeroValue e).run Try.prog w = .ok (.int .i64 0) w) {s : ByteArray} (hs : s.size ≤ 9223372036854775807) :
    (Instr.lookup t (.map (some b)) (.string s) true).run Try.prog w = .ok (.tuple #[.int .i64 (cnt l s), .bool (hasI l s)]) w := by
  obtain ⟨D, h, hhas, hat, _⟩ := h
  obtain ⟨v, ps, hrun, hv⟩ := h.look_ok keyedS ht hz (plainElem_int he (by decide)) (keyS hs)
  obtain ⟨c, rfl, hc, _⟩ := plainElem_int_inv he hv
  rw [hat] at hc
  cases hc
  rw [hhas] at hrun
  exact hrun

theorem MapB.look {t : Nat} (h : MapB e w b l) (ht : Try.prog.underlying t = some (.map 9 e)) (he : Try.prog.underlying e = some .bool) (hz : (zeroValue e).run Try.prog w = .ok (.bool false) w) {s : ByteArray} (hs : s.size ≤ 9223372036854775807) :
    (Instr.lookup t (.map (some b)) (.string s) false).run Try.prog w = .ok (.bool (hasI l s)) w := by
  obtain ⟨D, h, hat⟩ := h
  obtain ⟨v, ps, hrun, hv⟩ := h.lookup keyedS ht hz (plainElem_bool he false) (keyS hs)
  rw [hat] at hv
  unfold plainElem at hv
  rw [he] at hv
  cases v <;> simp at hv
  rw [hrun, hv.1]

theorem MapN.store {t : Nat} (h : MapN e w b l) (ht : Try.prog.underlying t = some (.map 9 e)) (he : Try.prog.underlying e = some (.int .i64)) {s : ByteArray} (hs : s.size ≤ 9223372036854775807) {n : Int} (hn : (Lit.int .i64 n).wf = true) (hl : l.length < 9223372036854775807) :
    ∃ w', (Instr.mapUpdate t (.map (some b)) (.string s) (.int .i64 n)).run Try.prog w = .ok () w' ∧ MapN e w' b (putI l s n) ∧ w.grownBy w' (some b) := by
  obtain ⟨D, h, hhas, hat, hsz, hu⟩ := h
  obtain ⟨w', hrun, hown, hg⟩ := h.update keyedS ht (by unfold maxLen; omega) (keyS hs) (plainElem_int he hn)
  have hsz' : Maps.size (D.put (kl s) (.lit (.int .i64 n))) = (putI l s n).length := by
    rw [size_put (h.tidy keyedS), hhas, putI_length, hsz]
  refine ⟨w', hrun, ⟨_, ?_, fun s' => ?_, fun s' => ?_, hsz', uniqI_putI s n hu⟩, hg⟩
  · rw [← hsz']; exact ownsMap_tight hown
  · rw [hasI_putI]
    by_cases e1 : s = s'
    · subst e1; rw [has_put_same h.isMap (kl_key s)]; simp
    · rw [has_put_other (kl_ne (Ne.symm e1)), hhas]; simp [e1]
  · by_cases e1 : s = s'
    · subst e1; rw [atKey_put_same h.isMap (kl_key s), cnt_putI_same]
    · rw [atKey_put_other (kl_ne (Ne.symm e1)), hat, cnt_putI_other _ _ _ _ (Ne.symm e1)]

theorem MapB.store {t : Nat} (h : MapB e w b l) (ht : Try.prog.underlying t = some (.map 9 e)) (he : Try.prog.underlying e = some .bool) {s : ByteArray} (hs : s.size ≤ 9223372036854775807) (hl : l.length < 9223372036854775807) (n : Int) :
    ∃ w', (Instr.mapUpdate t (.map (some b)) (.string s) (.bool true)).run Try.prog w = .ok () w' ∧ MapB e w' b (l ++ [(s, n)]) ∧ w.grownBy w' (some b) := by
  obtain ⟨D, h, hat⟩ := h
  obtain ⟨w', hrun, hown, hg⟩ := h.update keyedS ht (by unfold maxLen; omega) (keyS hs) (plainElem_bool he true)
  refine ⟨w', hrun, ⟨_, by simpa using hown, fun s' => ?_⟩, hg⟩
  by_cases e1 : s = s'
  · subst e1; rw [atKey_put_same h.isMap (kl_key s), hasI_append]; simp [hasI]
  · rw [atKey_put_other (kl_ne (Ne.symm e1)), hat, hasI_append]; simp [hasI, e1]

theorem MapN.drop {t : Nat} (h : MapN e w b l) (ht : Try.prog.underlying t = some (.map 9 e)) {s : ByteArray} (hs : s.size ≤ 9223372036854775807) (ty : TypeId) :
    ∃ w', (Builtin.delete_ #[t, 9] ty #[.map (some b), .string s]).run Try.prog w = .ok (.tuple #[]) w' ∧ MapN e w' b (delI l s) ∧ w.grownBy w' (some b) := by
  obtain ⟨D, h, hhas, hat, hsz, hu⟩ := h
  obtain ⟨w', hrun, hown, hg⟩ := h.drop keyedS ht (keyS hs) ty
  have hsz' : Maps.size (D.del (kl s)) = (delI l s).length := by
    have h1 := size_del (k := kl s) (h.tidy keyedS)
    have h2 := delI_length (l := l) s
    rw [hhas, hsz] at h1
    omega
  refine ⟨w', hrun, ⟨_, ?_, fun s' => ?_, fun s' => ?_, hsz', uniqI_delI s hu⟩, hg.grown⟩
  · rw [← hsz']; exact ownsMap_tight hown
  · rw [hasI_delI s s' hu]
    by_cases e1 : s = s'
    · subst e1; rw [has_del_same]; simp
    · rw [has_del_other (kl_ne (Ne.symm e1)), hhas]; simp [e1]
  · by_cases e1 : s = s'
    · subst e1; rw [atKey_del_same, cnt_none (by rw [hasI_delI s s hu]; simp)]
    · rw [atKey_del_other (kl_ne (Ne.symm e1)), hat, cnt_delI_other _ _ _ (Ne.symm e1)]

theorem MapN.len {t : Nat} (h : MapN e w b l) (ht : Try.prog.underlying t = some (.map 9 e)) (ty : TypeId) : (Builtin.len_ #[t] ty #[.map (some b)]).run Try.prog w = .ok (.int .i64 l.length) w := by
  obtain ⟨D, h, _, _, hsz, _⟩ := h
  rw [h.len ht ty, hsz]

theorem MapN.clear {t : Nat} (h : MapN e w b l) (ht : Try.prog.underlying t = some (.map 9 e)) (ty : TypeId) :
    ∃ w', (Builtin.clear_ #[t] ty #[.map (some b)]).run Try.prog w = .ok (.tuple #[]) w' ∧ MapN e w' b [] ∧ w.grownBy w' (some b) := by
  obtain ⟨D, ⟨es, clock, hb, F, _, rfl⟩, _⟩ := h
  refine ⟨ChangeMaps.setBlock w b (.map #[] clock), ?_, ⟨.map [], ⟨#[], clock, ChangeMaps.heap_setBlock_same hb _, ⟨by simp, MapKept.stamped_empty clock, by simp⟩, Nat.le_refl _, rfl⟩, fun _ => rfl, fun _ => rfl, rfl, rfl⟩,
    ⟨rfl, rfl, rfl, by simp [ChangeMaps.setBlock], fun i _ hi => ChangeMaps.heap_setBlock_other hb _ (fun e => hi (by rw [e]))⟩⟩
  simp [Builtin.clear_, run_underlying ht, MapKept.run_getObj_map hb, MapKept.run_setObj_map _ hb, Result.andThen, ChangeMaps.setBlock]

end

/-! ### at the operation -/
section
variable {ops : Array Oper} {rest : List Oper} {o : Oper} {a : Act} {Q : Exit → Act → World → Prop} (w : World) {e b : Nat} {l : List Itm}

theorem wpList_want {P : Program} {ops : Array Oper} {rest : List Oper} {o : Oper} {a : Act} {Q : Exit → Act → World → Prop} {w : World} (hw : Region.wanted o (yielded ops a.tmps) = true)
    (h : ∀ K : Act → World → Prop, (∀ a w, wpList P ops Q rest a w → K a w) → o.wp P a w K Q) : wpList P ops Q (o :: rest) a w :=
  wpList_step fun K hK => by rw [if_pos hw]; exact h K hK

theorem wpl_lookN (hg : Region.wanted o (yielded ops a.tmps) = true) (m x : Operand) (t : TypeId) (hop : o.op = Op.lookup t m x false) (h : MapN e w b l) (ht : Try.prog.underlying t = some (.map 9 e)) (he : Try.prog.underlying e = some (.int .i64)) (hz : (zeroValue e).run Try.prog w = .ok (.int .i64 0) w)
    (hm : a.eval m = .map (some b)) (s : ByteArray) (hx : a.eval x = .string s) (hs : s.size ≤ 9223372036854775807) (hK : wpList Try.prog ops Q rest (a.put o.dst (.int .i64 (cnt l s))) w) : wpList Try.prog ops Q (o :: rest) a w := by
  refine wpList_want hg fun K' hK' => ?_
  unfold Oper.wp
  simp [execOp, hop, hm, hx, h.look ht he hz hs, Result.andThen]
  exact hK' _ _ hK

theorem wpl_lookokN (hg : Region.wanted o (yielded ops a.tmps) = true) (m x : Operand) (t : TypeId) (hop : o.op = Op.lookup t m x true) (h : MapN e w b l) (ht : Try.prog.underlying t = some (.map 9 e)) (he : Try.prog.underlying e = some (.int .i64)) (hz : (zeroValue e).run Try.prog w = .ok (.int .i64 0) w)
    (hm : a.eval m = .map (some b)) (s : ByteArray) (hx : a.eval x = .string s) (hs : s.size ≤ 9223372036854775807) (hK : wpList Try.prog ops Q rest (a.put o.dst (.tuple #[.int .i64 (cnt l s), .bool (hasI l s)])) w) : wpList Try.prog ops Q (o :: rest) a w := by
  refine wpList_want hg fun K' hK' => ?_
  unfold Oper.wp
  simp [execOp, hop, hm, hx, h.lookok ht he hz hs, Result.andThen]
  exact hK' _ _ hK

theorem wpl_storeN (hg : Region.wanted o (yielded ops a.tmps) = true) (m x v : Operand) (t : TypeId) (hop : o.op = Op.mapUpdate t m x v) (h : MapN e w b l) (ht : Try.prog.underlying t = some (.map 9 e)) (he : Try.prog.underlying e = some (.int .i64))
    (hm : a.eval m = .map (some b)) (s : ByteArray) (hx : a.eval x = .string s) (n : Int) (hv : a.eval v = .int .i64 n) (hs : s.size ≤ 9223372036854775807) (hn : (Lit.int .i64 n).wf = true) (hl : l.length < 9223372036854775807)
    (hK : ∀ w', MapN e w' b (putI l s n) → w.grownBy w' (some b) → wpList Try.prog ops Q rest (a.put o.dst undef) w') : wpList Try.prog ops Q (o :: rest) a w := by
  refine wpList_want hg fun K' hK' => ?_
  obtain ⟨w', hrun, r1, r2⟩ := h.store ht he hs hn hl
  unfold Oper.wp
  simp [execOp, hop, hm, hx, hv, hrun, Result.andThen]
  exact hK' _ _ (hK w' r1 r2)

theorem wpl_lookB (hg : Region.wanted o (yielded ops a.tmps) = true) (m x : Operand) (t : TypeId) (hop : o.op = Op.lookup t m x false) (h : MapB e w b l) (ht : Try.prog.underlying t = some (.map 9 e)) (he : Try.prog.underlying e = some .bool) (hz : (zeroValue e).run Try.prog w = .ok (.bool false) w)
    (hm : a.eval m = .map (some b)) (s : ByteArray) (hx : a.eval x = .string s) (hs : s.size ≤ 9223372036854775807) (hK : wpList Try.prog ops Q rest (a.put o.dst (.bool (hasI l s))) w) : wpList Try.prog ops Q (o :: rest) a w := by
  refine wpList_want hg fun K' hK' => ?_
  unfold Oper.wp
  simp [execOp, hop, hm, hx, h.look ht he hz hs, Result.andThen]
  exact hK' _ _ hK

theorem wpl_storeB (hg : Region.wanted o (yielded ops a.tmps) = true) (m x v : Operand) (t : TypeId) (hop : o.op = Op.mapUpdate t m x v) (h : MapB e w b l) (ht : Try.prog.underlying t = some (.map 9 e)) (he : Try.prog.underlying e = some .bool)
    (hm : a.eval m = .map (some b)) (s : ByteArray) (hx : a.eval x = .string s) (hv : a.eval v = .bool true) (n : Int) (hs : s.size ≤ 9223372036854775807) (hl : l.length < 9223372036854775807)
    (hK : ∀ w', MapB e w' b (l ++ [(s, n)]) → w.grownBy w' (some b) → wpList Try.prog ops Q rest (a.put o.dst undef) w') : wpList Try.prog ops Q (o :: rest) a w := by
  refine wpList_want hg fun K' hK' => ?_
  obtain ⟨w', hrun, r1, r2⟩ := h.store ht he hs hl n
  unfold Oper.wp
  simp [execOp, hop, hm, hx, hv, hrun, Result.andThen]
  exact hK' _ _ (hK w' r1 r2)

theorem wpl_dropN (hg : Region.wanted o (yielded ops a.tmps) = true) (m x : Operand) (t : TypeId) (hop : o.op = Op.call { callee := Callee.builtin Builtin.delete, args := #[m, x], argTypes := #[t, 9] }) (h : MapN e w b l) (ht : Try.prog.underlying t = some (.map 9 e))
    (hm : a.eval m = .map (some b)) (s : ByteArray) (hx : a.eval x = .string s) (hs : s.size ≤ 9223372036854775807)
    (hK : ∀ w', MapN e w' b (delI l s) → w.grownBy w' (some b) → wpList Try.prog ops Q rest (a.put o.dst (.tuple #[])) w') : wpList Try.prog ops Q (o :: rest) a w := by
  refine wpList_want hg fun K' hK' => ?_
  obtain ⟨w', hrun, r1, r2⟩ := h.drop ht hs o.type
  unfold Oper.wp
  simp [execOp, hop, resolve, invoke, builtin, hm, hx, hrun, Result.andThen]
  exact hK' _ _ (hK w' r1 r2)

theorem wpl_lenN (hg : Region.wanted o (yielded ops a.tmps) = true) (m : Operand) (t : TypeId) (hop : o.op = Op.call { callee := Callee.builtin Builtin.len, args := #[m], argTypes := #[t] }) (h : MapN e w b l) (ht : Try.prog.underlying t = some (.map 9 e))
    (hm : a.eval m = .map (some b)) (hK : wpList Try.prog ops Q rest (a.put o.dst (.int .i64 l.length)) w) : wpList Try.prog ops Q (o :: rest) a w := by
  refine wpList_want hg fun K' hK' => ?_
  unfold Oper.wp
  simp [execOp, hop, resolve, invoke, builtin, hm, h.len ht o.type, Result.andThen]
  exact hK' _ _ hK

theorem wpl_clearN (hg : Region.wanted o (yielded ops a.tmps) = true) (m : Operand) (t : TypeId) (hop : o.op = Op.call { callee := Callee.builtin Builtin.clear, args := #[m], argTypes := #[t] }) (h : MapN e w b l) (ht : Try.prog.underlying t = some (.map 9 e))
    (hm : a.eval m = .map (some b)) (hK : ∀ w', MapN e w' b [] → w.grownBy w' (some b) → wpList Try.prog ops Q rest (a.put o.dst (.tuple #[])) w') : wpList Try.prog ops Q (o :: rest) a w := by
  refine wpList_want hg fun K' hK' => ?_
  obtain ⟨w', hrun, r1, r2⟩ := h.clear ht o.type
  unfold Oper.wp
  simp [execOp, hop, resolve, invoke, builtin, hm, hrun, Result.andThen]
  exact hK' _ _ (hK w' r1 r2)

end
end Go.Proofs.Ytoglgeinnocfjaa
