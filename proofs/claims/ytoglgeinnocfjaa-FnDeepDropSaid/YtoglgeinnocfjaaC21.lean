/-
  RdM, RdM2, LwM, LwM2, LwM3.
-/
import Derived.Deep.RegionHeld3
import Derived.Deep.RegionLaw
import Derived.Test.YtoglgeinnocfjaaC8
import Derived.Test.YtoglgeinnocfjaaC14
import Derived.Test.YtoglgeinnocfjaaC18
import Derived.Test.YtoglgeinnocfjaaC20
import Derived.Test.YtoglgeinnocfjaaC22
/-
  Chains drawn from a reader.
-/
namespace Go.Proofs.Ytoglgeinnocfjaa
open Go.RowKit
open Go.ChangeShapes Go.WideShapes Go.ChangeAt Go.Deep

theorem One.far {w : World} {b T : Nat} {u : Value} (h : One w b T u) {a : Addr} (ha : a.block ≠ b) (v : Value) : One (w.setCell a v) b T u :=
  h.keeps (K := fun j => j ≠ a.block) ((Keeps.refl _ _).setCell (fun h => h rfl) v) ha.symm
/-- What is known while a chain is drawn: the result's box (the first block made), the chain's box behind it, the reader. -/
structure MQ (w : World) (r P : Nat) (v : Value) (us : List Value) (ls : List (List Itm)) (W : World) : Prop where
  res : One W w.heap.size 51 (.slice none 0 0)
  box : One W (w.heap.size + 1) 51 v
  own : W.ownsRow (w.heap.size + 2) 55 1 v us.length us
  rows : RowsZ (w.heap.size + 2) W.heap.size W us ls
  rd : Reader W r P
  keep : Keeps (RK r w) w W
  rlt : r < w.heap.size
section
variable {w W : World} {r P : Nat} {v : Value} {us : List Value} {ls : List (List Itm)}
theorem MQ.size (D : MQ w r P v us ls W) : w.heap.size + 1 < W.heap.size := D.box.lt
theorem MQ.draw (D : MQ w r P v us ls W) {W' : World} {P' : Nat} (hr : Reader W' r P') (hk : Keeps (RK r W) W W') : MQ w r P' v us ls W' := by
  have := D.size
  have := D.rlt
  exact ⟨D.res.keeps hk ⟨by omega, by omega⟩, D.box.keeps hk ⟨by omega, by omega⟩, own_keeps D.own (by omega) hk, (D.rows.keeps (hk.mono fun j hj => ⟨hj.2, by have := hj.1; omega⟩)).wide (Nat.le_refl _) hk.size, hr, RK.trans D.keep hk, D.rlt⟩
theorem MQ.below (D : MQ w r P v us ls W) {W' : World} (hb : Below W.heap.size W W') : MQ w r P v us ls W' := D.draw (D.rd.below hb) (RK.of_below hb)
theorem MQ.app (D : MQ w r P v us ls W) {w1 w2 : World} {P1 : Nat} (hr1 : Reader w1 r P1) (hk1 : Keeps (RK r W) W w1) {v1 v2 : Value} {xs : List Itm} (ho1 : OwnI 74 w1 W.heap.size v1 xs)
    (hown2 : w2.ownsRow (w.heap.size + 2) 55 1 v2 (us.length + 1) (us ++ [v1])) (hg : (w1.alloc (.cells #[v1] 55)).grownBy w2 v.ownBlock) :
    MQ w r P1 v2 (us ++ [v1]) (ls ++ [xs]) (w2.setCell ⟨w.heap.size + 1, 0, none⟩ v2) := by
  have h0 := D.size
  have h1 := D.rlt
  have D1 := D.draw hr1 hk1
  have hs1 : W.heap.size ≤ w1.heap.size := hk1.size
  have ownA := ownsRow_below D1.own ((Below.refl w1.heap.size w1).alloc (Nat.le_refl _) (.cells #[v1] 55)) (Nat.le_refl _)
  have hb12 : Below (w.heap.size + 2) w1 w2 := ((Below.refl (w.heap.size + 2) w1).alloc (by omega) _).grown hg (by simp; omega) (fun j hj => (own_range D1.own hj).1)
  have hs2 : w1.heap.size + 1 ≤ w2.heap.size := by have := hg.size; simpa using this
  have hz := ((((D.rows.keeps (hk1.mono fun j hj => ⟨hj.2, by have := hj.1; omega⟩)).snoc (RowZ.of ho1) (by omega) (Nat.le_refl _) hs1).keeps ((Keeps.refl _ _).alloc (fun j hj => hj.2) (.cells #[v1] 55))).grown ownA hg).keeps ((Keeps.refl _ _).boxset (a := ⟨w.heap.size + 1, 0, none⟩) (by simp) v2)
  refine ⟨(D1.res.below hb12 (by omega)).far (by simp) _, (D1.box.below hb12 (by omega)).set v2, ?_, hz.wide (Nat.le_refl _) (by simp; omega), (hr1.grown3 _ D1.own (by omega) hg).set (by show r < w.heap.size + 1; omega) _, RK.set (RK.grown D1.keep _ D1.own (by omega) hg) (by show _ ≤ w.heap.size + 1; omega) _, h1⟩
  rw [List.length_append]
  exact ((Keeps.refl (fun j => w.heap.size + 2 ≤ j) w2).past (by simp) _).own hown2 (fun g hg => (own_range hown2 hg).1)
end
/-- A good chain drawn. -/
def DrawMO (r P : Nat) (w : World) (e : Ending) (w' : World) : Prop :=
  ∃ v ls, e = .returned (.agg #[v]) ∧ (1 ≤ ls.length ∧ ls.length ≤ 4 ∧ tot ls ≤ 32) ∧ OwnM w.heap.size w'.heap.size w' v ls ∧ Reader w' r P ∧ Keeps (RK r w) w w'

set_option linter.unusedSimpArgs false in
set_option maxHeartbeats 3200000 in
set_option maxRecDepth 100000 in
theorem goodChain_any (r P : Nat) (w : World) (h : Reader w r P) (hP : P ≤ 1000000) :
    Calls Try.prog 123 #[.pointer (some ⟨r, 0, none⟩)] w (DrawMO r (P + 69) w) := by
  have hrlt := h.lt
  have hb0 : Below w.heap.size w ((w.alloc (.cells #[.slice none 0 0] 51)).alloc (.cells #[.slice none 0 0] 51)) := ((Below.refl _ _).alloc (Nat.le_refl _) _).alloc (by simp) _
  have X1 := One.new (w.alloc (.cells #[.slice none 0 0] 51)) 51 (.slice none 0 0)
  simp at X1
  have D0 : MQ w r P (.slice none 0 0) [] [] ((w.alloc (.cells #[.slice none 0 0] 51)).alloc (.cells #[.slice none 0 0] 51)) := ⟨(One.new w 51 (.slice none 0 0)).below (B := w.heap.size + 1) ((Below.refl _ _).alloc (by simp) _) (by omega), X1, World.ownsRow_nil _ _ _ _, RowsZ.nil _ _ _, h.below hb0, RK.of_below hb0, hrlt⟩
  clear X1 hb0
  go_enter Try.func123, Try.ntmps123
  go_wp2_with fail
  refine (one_lit_at (w.heap.size + 1 + 1) r P [2, 3, 1, 4] ((w.alloc (.cells #[.slice none 0 0] 51)).alloc (.cells #[.slice none 0 0] 51)) (by simp) D0.rd (by omega) (by decide) (by decide) rfl rfl).mono ?_
  rintro e w1 ⟨n, hn, rfl, hr1, hk1⟩
  have hn8 : 1 ≤ n ∧ n ≤ 4 := by simp at hn; omega
  obtain ⟨q0, rfl⟩ := Int.eq_ofNat_of_zero_le (show 0 ≤ n by omega)
  have D1 := Lib.hid (D0.draw hr1 hk1)
  clear hn hr1 hk1 D0
  go_wp2
  go_loopw [4] (fun i wr => ∃ (q : Nat) (v : Value) (us : List Value) (ls : List (List Itm)), i = .int .i64 q ∧ ls.length + q = q0 ∧ tot ls ≤ 8 * ls.length ∧ Hid (MQ w r (P + 1 + 17 * ls.length) v us ls wr)) (fun i _ => (intOf i).toNat)
  case atStart => exact ⟨q0, _, [], [], rfl, by simp, Nat.le_refl _, D1⟩
  case round =>
    clear D1 h
    obtain ⟨q, v, us, ls, rfl, hq, ht, HD⟩ := hrel
    have hr := HD.out.own
    obtain ⟨vo, vc, rfl, hvc, hvm⟩ := own_slice hr
    have hu4 : us.length ≤ 4 := by have := HD.out.rows.len; omega
    have a0 := HD.out.box.cell
    have hsz := HD.out.size
    clear hr
    by_cases hlt : 0 < q
    · have HDd := Lib.hid (HD.out.below (Below.refl _ _).drew)
      have hltI : (0 : Int) < (q : Int) := by omega
      go_wp2_with fail
      go_region_law (first
        | (go_simp; go_at_call 137; refine (goodItems_any r _ _ HDd.out.rd (by omega)).mono ?_; rintro e w1 ⟨v1, xs, rfl, hl1, ho1, hr1, hk1⟩; have D1 := HDd.out.draw hr1 hk1; have c3 := D1.box.cell; have c3a := fun ob : Go.Obj => (D1.box.below ((Below.refl w1.heap.size w1).alloc (Nat.le_refl _) ob) D1.box.lt).cell; obtain ⟨xo, xcap, rfl, _, _⟩ := own_slice ho1.1)
        | (refine step_append_rows _ rfl (.tmp 14) (.tmp 17) rfl _ _ _ us (by simp [Act.eval]) (ownsRow_below D1.own ((Below.refl w1.heap.size w1).alloc (Nat.le_refl _) _) (Nat.le_refl _)) ⟨w1.heap.size, 0, none⟩ 1 1 [.slice xo xs.length xcap] (by simp [Act.eval]) rfl (one_slice _ _ _) (by simp [Value.oneCell']) (by omega) (by omega) (by have := D1.size; simp; omega) ?_; intro v2 w2 hown2 hgrow2; obtain ⟨vo2, vc2, rfl, _, _⟩ := own_slice hown2; have hO2 := (D1.box.below ((Below.refl w1.heap.size w1).alloc (Nat.le_refl _) _) D1.box.lt).below (B := w.heap.size + 2) ((Below.refl _ _).grown hgrow2 (by have := D1.size; simp; omega) (fun j hj => (own_range D1.own hj).1)) (by omega); have c4 := hO2.cell; have f4 := hO2.free))
      all_goals
        have HA := HDd.out.app hr1 hk1 ho1 hown2 hgrow2
        have HA' := Lib.hid (MQ.mk HA.res HA.box HA.own HA.rows (HA.rd.mono (show _ ≤ P + 1 + 17 * (ls ++ [xs]).length by simp; omega)) HA.keep HA.rlt)
        have ht' : tot (ls ++ [xs]) ≤ 8 * (ls ++ [xs]).length := by rw [tot_append]; simp [tot]; omega
        have hl' : (ls ++ [xs]).length + (q - 1) = q0 := by simp; omega
        clear HA hO2 c3 c3a hown2 hgrow2 D1 ho1 hr1 hk1 a0 HDd HD
        go_wp2
        go_roundw
        case rel => exact ⟨q - 1, _, _, _, by go_num, hl', ht', HA'⟩
        case measure => simp [intOf]; omega
    · obtain rfl : q = 0 := by omega
      have s0 := HD.out.res.cell
      have t0 := HD.out.res.free
      go_wp2
      refine bodyPost_ret (v := .agg #[.slice vo us.length vc]) (by simp [results, Try.results123, go_sem, s0]) rfl ⟨_, ls, rfl, ⟨by omega, by omega, by omega⟩, ⟨us, .inl ⟨?_, fun g hg => ?_⟩, ?_⟩, (HD.out.rd.mono (by omega)).set (by exact hrlt) _, RK.set HD.out.keep (Nat.le_refl _) _⟩
      · exact ownsRow_base (((Keeps.refl (fun j => w.heap.size + 2 ≤ j) wr).past (by simp) _).own HD.out.own (fun g hg => (own_range HD.out.own hg).1)) (by omega)
      · have := (own_range HD.out.own hg).2
        simpa using this
      · exact (HD.out.rows.keeps ((Keeps.refl _ _).boxset (by simp) _)).wide (by omega) (by simp)

/-- Where a row grows in its own block, what was there is there; where not, its old block stands. -/
theorem append_old {w w' : World} (base : Nat) (ty : TypeId) {g n cap : Nat} {us news : List Value} {v' : Value} (hown : w.ownsRow base 55 1 (.slice (some ⟨g, 0, none⟩) n cap) n us)
    (a : Addr) (m c : Nat) (hl : news.length = m) (hnews : ∀ j u, news[j]? = some u → w.cell? (a.add j) = some u) (h1 : ∀ u ∈ news, u.oneCell' = true) (hn : n ≤ 1000000) (hm : m ≤ 1000000)
    (hrun : (Builtin.append_ #[49, 49] ty #[.slice (some ⟨g, 0, none⟩) n cap, .slice (some a) m c]).run Try.prog w = .ok v' w') (hown' : w'.ownsRow base 55 1 v' (n + m) (us ++ news)) :
    ∀ j u, us[j]? = some u → w'.cell? ⟨g, j, none⟩ = some u := by
  obtain ⟨i0, hi0, hz0, hz1, hz2⟩ := info_parts Try.infoII
  have holds : ∀ j u, us[j]? = some u → w.cell? ((⟨g, 0, none⟩ : Addr).add j) = some u := hown.cells (g := g) rfl
  rcases hown.2 with ⟨h0, _⟩ | ⟨g2, cap2, cur, e2, hbg, hg, hnc, hcm, hcs, htake⟩
  · cases h0
  · simp only [Value.slice.injEq, Option.some.injEq, Addr.mk.injEq, and_true] at e2
    obtain ⟨rfl, _, rfl⟩ := e2
    intro j u hj
    have ea : (⟨g, 0, none⟩ : Addr).add j = ⟨g, j, none⟩ := by cases j <;> simp [Addr.add]
    by_cases hroom : n + m ≤ cap
    · have hr := run_append_room (P := Try.prog) w 49 ty 55 i0 Try.underlying49 hi0 g n cap cur hg a m c news (by rw [hz1, hl]; omega) hnews h1 hroom (by rw [hl, hz1, hcs]; omega)
      rw [hrun] at hr
      simp only [Result.ok.injEq] at hr
      obtain ⟨rfl, _⟩ := hr
      have hc := hown'.cells (g := g) rfl j u (by rw [List.getElem?_append_left (List.getElem?_eq_some_iff.1 hj).1]; exact hj)
      rw [ea] at hc
      exact hc
    · have hr := run_append_grow (P := Try.prog) w 49 ty 55 i0 (.slice none 0 0) Try.underlying49 hi0 hz0 ⟨g, 0, none⟩ n cap us (by rw [hz1]; exact hown.1) holds a m c news (by rw [hz1, hl]; omega) hnews (by omega) (by omega) (growslice_fits (by omega) (by rw [hz2]; omega))
      rw [hrun] at hr
      simp only [Result.ok.injEq] at hr
      obtain ⟨_, rfl⟩ := hr
      have hc := holds j u hj
      rw [ea] at hc
      rw [World.cell?_alloc_lt _ _ _ (by have := World.block_lt_of_cell? w _ hc; simpa using this)]
      exact hc

/-- Lists appended, as one step; the old slice reads as before. -/
theorem step_append_keep (w : World) {ops : Array Oper} {o : Oper} {a : Act} {K : Act → World → Prop} {Q : Exit → Act → World → Prop} {E : Prop} (hgd : o.guard = none) (s x : Operand)
    (ho : o.op = .call { callee := .builtin .append, args := #[s, x], argTypes := #[49, 49] })
    (base g n cap : Nat) (us : List Value) (hs : a.eval s = .slice (some ⟨g, 0, none⟩) n cap) (hown : w.ownsRow base 55 1 (.slice (some ⟨g, 0, none⟩) n cap) n us)
    (ad : Addr) (len c : Nat) (news : List Value) (hx : a.eval x = .slice (some ad) len c) (hl : news.length = len) (hnews : ∀ j u, news[j]? = some u → w.cell? (ad.add j) = some u) (hone : ∀ u ∈ news, u.oneCell' = true)
    (hn : n ≤ 1000000) (hm : len ≤ 1000000) (hbase : base ≤ w.heap.size)
    (h : ∀ v' w', w'.ownsRow base 55 1 v' (n + len) (us ++ news) → w.grownBy w' (some g) → (∀ j u, us[j]? = some u → w'.cell? ⟨g, j, none⟩ = some u) → K (a.put o.dst v') w') :
    if Region.wanted o (yielded ops a.tmps) = true then Oper.wp Try.prog o a w K Q else E := by
  have hw : Region.wanted o (yielded ops a.tmps) = true := by simp [Region.wanted, hgd]
  rw [if_pos hw]
  obtain ⟨i0, hi0, hz0, hz1, hz2⟩ := info_parts Try.infoII
  obtain ⟨v', w', hrun, r1, r2, _⟩ := run_append_own (P := Try.prog) w base 49 o.type 55 i0 (.slice none 0 0) 1 24 Try.underlying49 hi0 hz0 hz1 hz2 rfl (by decide) (.slice (some ⟨g, 0, none⟩) n cap) n us hown ad len c news (by omega) hnews hone (by unfold maxLen; omega) (by omega) hbase
  have h3 := append_old base o.type hown ad len c hl hnews hone hn hm hrun r1
  unfold Oper.wp
  simp [execOp, ho, resolve, invoke, builtin, hs, hx, hrun, Result.andThen]
  exact h v' w' r1 r2 h3

/-- What is known while a drawn chain is changed: its box d. -/
structure SQ (w : World) (r P d : Nat) (v : Value) (ls : List (List Itm)) (W : World) : Prop where
  res : One W w.heap.size 51 (.slice none 0 0)
  box : One W d 51 v
  lt : w.heap.size < d
  maps : MapsK (In (w.heap.size + 1) W.heap.size) W v ls
  rd : Reader W r P
  keep : Keeps (RK r w) w W
  rlt : r < w.heap.size
/-- A drawn chain. -/
def DrawM (r P : Nat) (w : World) (e : Ending) (w' : World) : Prop :=
  ∃ v ls, e = .returned (.agg #[v]) ∧ (ls.length ≤ 12 ∧ tot ls ≤ 128) ∧ MapsK (In w.heap.size w'.heap.size) w' v ls ∧ Reader w' r P ∧ Keeps (RK r w) w w'
theorem SQ.fin {w W : World} {r P d : Nat} {v : Value} {ls : List (List Itm)} (D : SQ w r P d v ls W) {P' : Nat} (hP : P ≤ P') (hl : ls.length ≤ 12 ∧ tot ls ≤ 128) (a : Value) : DrawM r P' w (.returned (.agg #[v])) (W.setCell ⟨w.heap.size, 0, none⟩ a) :=
  ⟨v, ls, rfl, hl, by
    have h1 := D.maps.keeps ((Keeps.refl _ _).boxset (a := ⟨w.heap.size, 0, none⟩) (by simp) a)
    obtain ⟨us, h2, h3, h4⟩ := h1
    exact ⟨us, h2, h3.mono fun k _ hk => by simp [In] at hk ⊢; omega, fun k u l hu hl => ⟨(h4 k u l hu hl).1, (h4 k u l hu hl).2.mono fun k hk => by simp [In] at hk ⊢; omega⟩⟩,
  (D.rd.mono hP).set (by exact D.rlt) _, RK.set D.keep (Nat.le_refl _) _⟩
end Go.Proofs.Ytoglgeinnocfjaa
/-
  Chains drawn that may be invalid; a chain and a key.
-/
namespace Go.Proofs.Ytoglgeinnocfjaa
open Go.RowKit
open Go.ChangeShapes Go.WideShapes Go.ChangeAt Go.Deep

theorem tot_put_le {ls : List (List Itm)} (l : List Itm) : ∀ k, tot (ls.set k l) ≤ tot ls + l.length := by
  induction ls with
  | nil => intro k; simp [tot]
  | cons x r ih =>
    intro k
    cases k with
    | zero => simp [tot]; omega
    | succ k =>
      have := ih k
      simp [tot]
      omega
structure TQ (w : World) (r P d : Nat) (v : Value) (ls : List (List Itm)) (W : World) : Prop where
  res : One W w.heap.size 51 (.slice none 0 0)
  box : One W d 51 v
  lt : w.heap.size < d
  own : OwnM (w.heap.size + 1) d W v ls
  rd : Reader W r P
  keep : Keeps (RK r w) w W
  rlt : r < w.heap.size
section
variable {w W : World} {r P d : Nat} {v : Value} {ls : List (List Itm)}
theorem TQ.draw (D : TQ w r P d v ls W) {W' : World} {P' : Nat} (hr : Reader W' r P') (hk : Keeps (RK r W) W W') : TQ w r P' d v ls W' := by
  have := D.box.lt
  have := D.lt
  have := D.rlt
  exact ⟨D.res.keeps hk ⟨by omega, by omega⟩, D.box.keeps hk ⟨by omega, by omega⟩, D.lt, D.own.keeps (hk.mono fun j hj => ⟨by have := hj.2; omega, by have := hj.1; omega⟩), hr, RK.trans D.keep hk, D.rlt⟩
theorem TQ.below (D : TQ w r P d v ls W) {W' : World} (hb : Below W.heap.size W W') : TQ w r P d v ls W' := D.draw (D.rd.below hb) (RK.of_below hb)
theorem MapsK.within {lo hi lo' hi' : Nat} {w : World} {v : Value} {ls : List (List Itm)} (h : MapsK (In lo hi) w v ls) (h1 : lo' ≤ lo) (h2 : hi ≤ hi') : MapsK (In lo' hi') w v ls := by
  obtain ⟨us, h3, h4, h5⟩ := h
  exact ⟨us, h3, h4.mono fun k _ hk => ⟨by have := hk.1; omega, by have := hk.2; omega⟩, fun k u l hu hl => ⟨(h5 k u l hu hl).1, (h5 k u l hu hl).2.mono fun k hk => ⟨by have := hk.1; omega, by have := hk.2; omega⟩⟩⟩
theorem TQ.sq (D : TQ w r P d v ls W) : SQ w r P d v ls W := ⟨D.res, D.box, D.lt, D.own.mapsK.within (Nat.le_refl _) (Nat.le_of_lt D.box.lt), D.rd, D.keep, D.rlt⟩
theorem RK.grow0 {w3 w5 : World} {B E S n : Nat} {xs : List Value} (h : Keeps (RK r w) w w3) (hown : w3.ownsRow B E S v n xs) (hB : w.heap.size ≤ B) (hg : w3.grownBy w5 v.ownBlock) : Keeps (RK r w) w w5 := by
  refine h.trans ⟨hg.os, hg.tape, hg.output, hg.size, fun j hj => hg.block j (by have := hj.1; have := h.size; omega) (fun e => ?_)⟩
  have := (hown.lt j e.symm).1
  have := hj.1
  omega
theorem One.grown {b T B E S n : Nat} {u : Value} {xs : List Value} (h : One W b T u) (hown : W.ownsRow B E S v n xs) (hE : E ≠ T) {W' : World} (hg : W.grownBy W' v.ownBlock) : One W' b T u :=
  (hg.block b h.lt (fun e => own_ne hown h hE e.symm)).trans h
/-- Rows that read. -/
def Reads (lo hi : Nat) (w : World) (us : List Value) (ls : List (List Itm)) : Prop := us.length = ls.length ∧ ∀ (k : Nat) u l, us[k]? = some u → ls[k]? = some l → Items w u l ∧ InK (In lo hi) u
theorem RowsZ.reads {lo hi : Nat} {us : List Value} (h : RowsZ lo hi w us ls) : Reads lo hi w us ls := ⟨h.len, fun k u l hu hl => ⟨(h.row k u l hu hl).items, inK_own (h.row k u l hu hl)⟩⟩
theorem Reads.app {lo hi : Nat} {us us' : List Value} {ls' : List (List Itm)} (h : Reads lo hi w us ls) (h' : Reads lo hi w us' ls') : Reads lo hi w (us ++ us') (ls ++ ls') := by
  have hl := h.1
  refine ⟨by simp [h.1, h'.1], fun k u l hu hm => ?_⟩
  by_cases hk : k < us.length
  · rw [List.getElem?_append_left hk] at hu
    rw [List.getElem?_append_left (by omega)] at hm
    exact h.2 k u l hu hm
  · rw [List.getElem?_append_right (by omega)] at hu
    rw [List.getElem?_append_right (by omega), ← hl] at hm
    exact h'.2 _ u l hu hm
end

set_option linter.unusedSimpArgs false in
set_option maxHeartbeats 3200000 in
set_option maxRecDepth 100000 in
theorem someChain_any (r P : Nat) (w : World) (h : Reader w r P) (hP : P ≤ 900000) :
    Calls Try.prog 94 #[.pointer (some ⟨r, 0, none⟩)] w (DrawM r (P + 92) w) := by
  have hrlt := h.lt
  have hb0 : Below w.heap.size w (w.alloc (.cells #[.slice none 0 0] 51)) := (Below.refl _ _).alloc (Nat.le_refl _) _
  have X0 := Lib.hid (One.new w 51 (.slice none 0 0))
  go_enter Try.func94, Try.ntmps94
  go_wp2_with fail
  refine (goodChain_any r P (w.alloc (.cells #[.slice none 0 0] 51)) (h.below hb0) (by omega)).mono ?_
  rintro e w1 ⟨v, ls, rfl, hl, hown, hr1, hk1⟩
  have hs1 := hk1.size
  simp at hs1 hown
  obtain ⟨g, cap, rfl, hg1, hg2⟩ := hown.head (by omega)
  have hbx : Below w1.heap.size w1 (w1.alloc (.cells #[.slice (some ⟨g, 0, none⟩) ls.length cap] 51)) := (Below.refl _ _).alloc (Nat.le_refl _) _
  have D1 : TQ w r (P + 69) w1.heap.size (.slice (some ⟨g, 0, none⟩) ls.length cap) ls (w1.alloc (.cells #[.slice (some ⟨g, 0, none⟩) ls.length cap] 51)) :=
    ⟨(X0.out.keeps hk1 ⟨by simp, by omega⟩).below hbx (by omega), One.new _ _ _, by omega, hown.keeps (Keeps.of_below hbx (fun k hk => hk.2)), hr1.below hbx, RK.trans (RK.trans (RK.of_below hb0) hk1) (RK.of_below hbx), hrlt⟩
  clear hown hr1 hk1 hb0 h X0 hbx
  go_wp2_with fail
  refine (pick_any r _ 24 _ D1.rd (by omega) (by omega) (by omega)).mono ?_
  rintro e w2 ⟨k, rfl, hk, hr2, hk2⟩
  have D2 := D1.draw hr2 hk2
  clear D1 hr2 hk2
  by_cases h0 : k = 0
  · subst h0
    have HD := Lib.hid (D2.below (Below.refl _ _).drew)
    have c0 := D2.box.cell
    have hgd : g ≠ w1.heap.size := by omega
    have hgw : g ≠ w.heap.size := by omega
    clear D2
    go_wp2_with fail
    go_region_held3 (fun w' : World => w'.cell? ⟨w1.heap.size, 0, none⟩ = some (.slice (some ⟨g, 0, none⟩) ls.length cap))
      (first | assumption | exact HD.out.box.cell | exact hS4 | exact hS5 | exact (E5.box.far (a := ⟨g, j, none⟩) hgd _).cell)
      (first
        | (go_at_call 89; refine (pick_any r _ ls.length _ HD.out.rd (by omega) (by omega) (by omega)).mono ?_; rintro e w4 ⟨j, rfl, hj, hr4, hk4⟩; have E4 := HD.out.draw hr4 hk4; have hS4 := E4.box.cell; have hj0 : (0 : Int) ≤ (j : Int) := (by omega); have hj1 : (j : Int) < (ls.length : Int) := (by omega); have hj2 : j < ls.length := (by omega); clear hr4 hk4)
        | (go_at_call 124; refine (someItems_any r _ _ E4.rd (by omega)).mono ?_; rintro e w5 ⟨v5, xs, rfl, hl5, ho5, hr5, hk5⟩; have E5 := E4.draw hr5 hk5; have hS5 := E5.box.cell; have hs5 := hk5.size; have hlt4 := E4.box.lt; obtain ⟨xo, xcap, rfl, _, _⟩ := own_slice ho5.1; obtain ⟨g2, cap2, e2, hp1, hp2, ⟨x, hx⟩, hf, hO⟩ := E5.own.put (lo := w.heap.size + 1) (hi := w5.heap.size) (RowZ.of ho5) hj2 (.inr (by omega)) (Nat.le_refl _) (by omega) (by omega) (Nat.le_refl _); simp only [Value.slice.injEq, Option.some.injEq, Addr.mk.injEq, and_true] at e2; obtain ⟨rfl, _, rfl⟩ := e2; have HO := Lib.hid hO; clear hO hr5 hk5))
    have hgr : r < g := by omega
    have HS : Hid (SQ w r (P + 92) w1.heap.size (.slice (some ⟨g, 0, none⟩) ls.length cap) (ls.set j xs) (w5.setCell ⟨g, j, none⟩ (.slice xo xs.length xcap))) :=
      ⟨E5.res.far hgw _, E5.box.far hgd _, E5.lt, by have := HO.out.mapsK; simpa using this, (E5.rd.mono (by omega)).set hgr _, RK.set E5.keep (by show _ ≤ g; omega) _, E5.rlt⟩
    have hbd : (ls.set j xs).length ≤ 12 ∧ tot (ls.set j xs) ≤ 128 := ⟨by rw [List.length_set]; omega, by have := tot_put_le (ls := ls) xs j; omega⟩
    have s0 := HS.out.res.cell
    have t0 := HS.out.res.free
    have u0 := HS.out.box.cell
    clear E4 E5 HO hx hf hS4 hS5
    go_wp2
    exact bodyPost_ret (v := .agg #[.slice (some ⟨g, 0, none⟩) ls.length cap]) (by simp [results, Try.results94, go_sem, s0]) rfl (HS.out.fin (Nat.le_refl _) hbd _)
  · have hb0 : ((k : Int) == 0) = false := by rw [beq_eq_false_iff_ne]; omega
    by_cases h1 : k = 1
    · subst h1
      have hlt2 := D2.box.lt
      have hlt0 := D2.lt
      have hres : w1.heap.size ≠ w.heap.size := by omega
      have hsq : (w2.setCell ⟨w1.heap.size, 0, none⟩ (.slice (some ⟨w2.heap.size, 0, none⟩) 0 0)).heap.size = w2.heap.size := by simp
      have hbA : Below w2.heap.size (w2.setCell ⟨w1.heap.size, 0, none⟩ (.slice (some ⟨w2.heap.size, 0, none⟩) 0 0)) ((w2.setCell ⟨w1.heap.size, 0, none⟩ (.slice (some ⟨w2.heap.size, 0, none⟩) 0 0)).alloc (.cells #[] 55)) := (Below.refl _ _).alloc (by simp) _
      have HS : Hid (SQ w r (P + 92) w1.heap.size (.slice (some ⟨w2.heap.size, 0, none⟩) 0 0) [] ((w2.setCell ⟨w1.heap.size, 0, none⟩ (.slice (some ⟨w2.heap.size, 0, none⟩) 0 0)).alloc (.cells #[] 55))) :=
        ⟨(D2.res.far (by exact hres) _).below hbA (by omega), (D2.box.set _).below hbA (by omega), D2.lt, ⟨[], rfl, ⟨_, 0, rfl, Nat.le_refl _, by omega, fun k u hu => by simp at hu⟩, fun k u l hu => by simp at hu⟩, ((D2.rd.mono (by omega)).set (by show r < w1.heap.size; have := D2.rlt; omega) _).below (hbA.mono (Nat.le_of_eq hsq)), RK.alloc (RK.set D2.keep (by show _ ≤ w1.heap.size; omega) _) _, D2.rlt⟩
      have s0 := HS.out.res.cell
      have t0 := HS.out.res.free
      have u0 := HS.out.box.cell
      have f2 := D2.box.free
      have c2 := D2.box.cell
      clear D2 hbA
      go_wp2
      exact bodyPost_ret (v := .agg #[.slice (some ⟨w2.heap.size, 0, none⟩) 0 0]) (by simp [results, Try.results94, go_sem, s0]) rfl (HS.out.fin (Nat.le_refl _) ⟨by simp, by simp [tot]⟩ _)
    · have hb1 : ((k : Int) == 1) = false := by rw [beq_eq_false_iff_ne]; omega
      by_cases h2 : k = 2
      · subst h2
        have HD := Lib.hid (D2.below (Below.refl _ _).drew)
        have c0 := D2.box.cell
        clear D2
        obtain ⟨us, h3, h4⟩ := HD.out.own
        have hul := h4.len
        have HR : Hid (w2.drew.ownsRow (w.heap.size + 1) 55 1 (.slice (some ⟨g, 0, none⟩) ls.length cap) ls.length us) := by
          rcases h3 with ⟨h3, _⟩ | ⟨h3, _⟩
          · rw [hul] at h3; exact h3
          · rw [h3] at hul; simp at hul; omega
        have HU := Lib.hid hul
        have HZ := Lib.hid h4
        have hone : ∀ u ∈ us, u.oneCell' = true := by
          intro u hu
          obtain ⟨i, hi, rfl⟩ := List.getElem_of_mem hu
          obtain ⟨ao, c, e, _⟩ := (h4.row i us[i] (ls[i]'(by omega)) (List.getElem?_eq_getElem hi) (List.getElem?_eq_getElem (by omega))).slice
          rw [e]; rfl
        have HONE := Lib.hid hone
        clear h3 h4 hul hone
        have hsz := HD.out.box.lt
        have ea : ∀ j, (⟨g, 0, none⟩ : Addr).add j = ⟨g, j, none⟩ := fun j => by cases j <;> simp [Addr.add]
        have HEA := Lib.hid ea
        clear ea
        go_wp2_with fail
        go_region_law (first
            | (refine step_append_keep _ rfl (.tmp 27) (.tmp 29) rfl (w.heap.size + 1) g ls.length cap us (by simp [Act.eval]) HR.out ⟨g, 0, none⟩ ls.length cap us (by simp [Act.eval]) HU.out (HR.out.cells (g := g) rfl) HONE.out (by omega) (by omega) (by omega) ?_; intro v6 w6 hown6 hg6 hc6; obtain ⟨g6, cap6, rfl, _, _⟩ := own_shape hown6 (by omega); have X6 := HD.out.box.grown HR.out (by decide) hg6; have hS6 := X6.cell; have hs6 := hg6.size)
            | (refine step_append_keep _ rfl (.tmp 30) (.tmp 32) rfl (w.heap.size + 1) g6 (ls.length + ls.length) cap6 (us ++ us) (by simp [Act.eval]) hown6 ⟨g, 0, none⟩ ls.length cap us (by simp [Act.eval]) HU.out (fun j u hu => by rw [HEA.out]; exact hc6 j u hu) HONE.out (by omega) (by omega) (by omega) ?_; intro v7 w7 hown7 hg7 hc7; obtain ⟨g7, cap7, rfl, _, _⟩ := own_shape hown7 (by omega); have X7 := X6.grown hown6 (by decide) hg7; have hS7 := X7.cell; have hf7 := X7.free; have hs7 := hg7.size))
        all_goals
          have hs6' : w2.heap.size ≤ w6.heap.size := by simpa using hs6
          have hdr : w2.drew.heap.size = w2.heap.size := rfl
          have hrg := own_range HR.out (g := g) rfl
          have hrg6 := own_range hown6 (g := g6) rfl
          have hn7 := hown7.1
          have hz7 := ((HZ.out.grown HR.out hg6).grown hown6 hg7)
          have hzz := (hz7.reads.app hz7.reads).app hz7.reads
          have hrange := own_range hown7 (g := g7) rfl
          have hb6 : Below (w.heap.size + 1) w2.drew w6 := (Below.refl _ _).grown hg6 (by simp; omega) (fun j hj => (own_range HR.out hj).1)
          have hb7 : Below (w.heap.size + 1) w6 w7 := (Below.refl _ _).grown hg7 (by omega) (fun j hj => (own_range hown6 hj).1)
          have hres : w.heap.size ≠ w1.heap.size := by omega
          have hkp : Keeps (fun j => j ≠ w1.heap.size) w7 (w7.setCell ⟨w1.heap.size, 0, none⟩ (.slice (some ⟨g7, 0, none⟩) (ls.length + ls.length + ls.length) cap7)) := (Keeps.refl _ _).setCell (fun h => h rfl) _
          have HS : Hid (SQ w r (P + 92) w1.heap.size (.slice (some ⟨g7, 0, none⟩) (ls.length + ls.length + ls.length) cap7) ((ls ++ ls) ++ ls) (w7.setCell ⟨w1.heap.size, 0, none⟩ (.slice (some ⟨g7, 0, none⟩) (ls.length + ls.length + ls.length) cap7))) := by
            refine ⟨((HD.out.res.below hb6 (by omega)).below hb7 (by omega)).far (by exact hres.symm) _, X7.set _, HD.out.lt, ?_, ?_, ?_, HD.out.rlt⟩
            · have hl7 : (us ++ us ++ us).length = ls.length + ls.length + ls.length := by simp [HU.out]; omega
              have ho : w7.ownsRow (w.heap.size + 1) 55 1 (.slice (some ⟨g7, 0, none⟩) (ls.length + ls.length + ls.length) cap7) (us ++ us ++ us).length (us ++ us ++ us) := by rw [hl7]; exact hown7
              have hne : g7 ≠ w1.heap.size := fun e => own_ne hown7 X7 (by decide) (by rw [← e]; rfl)
              refine ⟨us ++ us ++ us, hzz.1, ?_, fun k u l hu hl => ?_⟩
              · refine row_of (hkp.own ho (fun g' hg' => by injection hg' with hg'; rw [← hg']; exact hne)) (fun g' hg' => by injection hg' with hg'; rw [← hg']; exact ⟨hrange.1, by have := hrange.2; simpa using this⟩)
              · have h5 := hzz.2 k u l hu hl
                have hk2 : Keeps (In (w.heap.size + 1) w1.heap.size) w7 (w7.setCell ⟨w1.heap.size, 0, none⟩ (.slice (some ⟨g7, 0, none⟩) (ls.length + ls.length + ls.length) cap7)) := hkp.mono fun j hj => by have := hj.2; omega
                exact ⟨h5.1.keeps hk2 h5.2, h5.2.mono fun j hj => ⟨hj.1, by have := hj.2; simp; omega⟩⟩
            · exact (((HD.out.rd.mono (by omega)).grown_to hg6 (fun j e => by injection e with e; omega)).grown_to hg7 (fun j e => by injection e with e; omega)).set (by show r < w1.heap.size; omega) _
            · exact RK.set (RK.grow0 (RK.grow0 HD.out.keep HR.out (by omega) hg6) hown6 (by omega) hg7) (by show _ ≤ w1.heap.size; omega) _
          have hbd : ((ls ++ ls) ++ ls).length ≤ 12 ∧ tot ((ls ++ ls) ++ ls) ≤ 128 := ⟨by simp; omega, by rw [tot_append, tot_append]; omega⟩
          have s0 := HS.out.res.cell
          have t0 := HS.out.res.free
          have u0 := HS.out.box.cell
          clear hz7 hzz hown6 hown7 hg6 hg7 hc6 hc7 X6 X7 hS6 hS7
          go_wp2
          exact bodyPost_ret (v := .agg #[.slice (some ⟨g7, 0, none⟩) (ls.length + ls.length + ls.length) cap7]) (by simp [results, Try.results94, go_sem, s0]) rfl (HS.out.fin (Nat.le_refl _) hbd _)
      · have hb2 : ((k : Int) == 2) = false := by rw [beq_eq_false_iff_ne]; omega
        have s0 := D2.res.cell
        have t0 := D2.res.free
        have u0 := D2.box.cell
        have HS := Lib.hid D2.sq
        clear D2
        go_wp2
        exact bodyPost_ret (v := .agg #[.slice (some ⟨g, 0, none⟩) ls.length cap]) (by simp [results, Try.results94, go_sem, s0]) rfl (HS.out.fin (by omega) ⟨by omega, by omega⟩ _)
end Go.Proofs.Ytoglgeinnocfjaa
/-
  A chain and a key drawn; what drawn laws over chains draw.
-/
namespace Go.Proofs.Ytoglgeinnocfjaa
open Go.RowKit
open Go.ChangeShapes Go.WideShapes Go.ChangeAt Go.Deep

section
variable {w W : World} {r P d : Nat} {v : Value} {ls : List (List Itm)}
theorem SQ.draw (D : SQ w r P d v ls W) {W' : World} {P' : Nat} (hr : Reader W' r P') (hk : Keeps (RK r W) W W') : SQ w r P' d v ls W' := by
  have := D.box.lt
  have := D.lt
  have := D.rlt
  exact ⟨D.res.keeps hk ⟨by omega, by omega⟩, D.box.keeps hk ⟨by omega, by omega⟩, D.lt, (D.maps.keeps (hk.mono fun j hj => ⟨hj.2, by have := hj.1; omega⟩)).within (Nat.le_refl _) hk.size, hr, RK.trans D.keep hk, D.rlt⟩
theorem SQ.below (D : SQ w r P d v ls W) {W' : World} (hb : Below W.heap.size W W') : SQ w r P d v ls W' := D.draw (D.rd.below hb) (RK.of_below hb)
end
/-- A chain and a text drawn. -/
def DrawMS (r P : Nat) (w : World) (e : Ending) (w' : World) : Prop :=
  ∃ v ls s, e = .returned (.tuple #[.agg #[v], .string s]) ∧ (ls.length ≤ 12 ∧ tot ls ≤ 128 ∧ s.size ≤ 9223372036854775807) ∧ MapsK (In w.heap.size w'.heap.size) w' v ls ∧ Reader w' r P ∧ Keeps (RK r w) w w'
theorem SQ.fin2 {w W : World} {r P d : Nat} {v : Value} {ls : List (List Itm)} (D : SQ w r P d v ls W) {P' : Nat} (hP : P ≤ P') (hl : ls.length ≤ 12 ∧ tot ls ≤ 128) {s : ByteArray} (hs : s.size ≤ 9223372036854775807) (a : Value) : DrawMS r P' w (.returned (.tuple #[.agg #[v], .string s])) (W.setCell ⟨w.heap.size, 0, none⟩ a) := by
  obtain ⟨v', ls', e, _, h2, h3, h4⟩ := D.fin hP hl a
  have h5 := D.maps.keeps ((Keeps.refl _ _).boxset (a := ⟨w.heap.size, 0, none⟩) (by simp) a)
  exact ⟨v, ls, s, rfl, ⟨hl.1, hl.2, hs⟩, h5.within (by omega) (by simp), h3, h4⟩

set_option linter.unusedSimpArgs false in
set_option maxHeartbeats 3200000 in
set_option maxRecDepth 100000 in
theorem chainKey_any (r P : Nat) (w : World) (h : Reader w r P) (hP : P ≤ 800000) :
    Calls Try.prog 98 #[.pointer (some ⟨r, 0, none⟩)] w (DrawMS r (P + 96) w) := by
  have hrlt := h.lt
  have hb0 : Below w.heap.size w (w.alloc (.cells #[.slice none 0 0] 51)) := (Below.refl _ _).alloc (Nat.le_refl _) _
  have X0 := Lib.hid (One.new w 51 (.slice none 0 0))
  go_enter Try.func98, Try.ntmps98
  go_wp2_with fail
  refine (someChain_any r P (w.alloc (.cells #[.slice none 0 0] 51)) (h.below hb0) (by omega)).mono ?_
  rintro e w1 ⟨v, ls, rfl, hl, hmap, hr1, hk1⟩
  have hs1 := hk1.size
  simp at hs1 hmap
  obtain ⟨ao, cap, rfl, _, _⟩ := hmap.weak.slice
  have hbx : Below w1.heap.size w1 (w1.alloc (.cells #[.slice ao ls.length cap] 51)) := (Below.refl _ _).alloc (Nat.le_refl _) _
  have D1 : SQ w r (P + 92) w1.heap.size (.slice ao ls.length cap) ls (w1.alloc (.cells #[.slice ao ls.length cap] 51)) :=
    ⟨(X0.out.keeps hk1 ⟨by simp, by omega⟩).below hbx (by omega), One.new _ _ _, by omega, (hmap.keeps (Keeps.of_below hbx (fun k hk => hk.2))).within (Nat.le_refl _) hbx.size, hr1.below hbx, RK.trans (RK.trans (RK.of_below hb0) hk1) (RK.of_below hbx), hrlt⟩
  clear hmap hr1 hk1 hb0 h X0 hbx
  have c0 := D1.box.cell
  go_wp2_with fail
  refine (flat_any _ ls _ D1.maps.weak (by omega) (by omega)).mono ?_
  obtain ⟨L, hL⟩ : ∃ L, Hid (L = flatI ls) := ⟨_, Lib.hid rfl⟩
  have hLl : L.length ≤ 128 := by rw [hL.out]; exact Nat.le_trans flatI_len hl.2
  rw [← hL.out]
  clear hL
  rintro e w2 ⟨vf, rfl, hof, hb2⟩
  have hs2 := hb2.size
  have D2 := D1.below hb2
  have hne : w.heap.size ≠ w1.heap.size := by omega
  simp at hs2
  clear D1 hb2 c0
  have hofl : w.heap.size ≤ w1.heap.size + 1 := by omega
  simp at hof
  by_cases hz : 0 < L.length
  · have hcmp : (0 : Int) < (L.length : Int) := by omega
    obtain ⟨g, cap2, rfl, hgc, hgB⟩ := own_shape hof.1 hz
    go_wp2_with fail
    refine (pick_any r _ 4 w2 D2.rd (by omega) (by omega) (by omega)).mono ?_
    rintro e w3 ⟨k, rfl, hk, hr3, hk3⟩
    have hof3 := hof.keeps (by omega) hk3
    have D3 := D2.draw hr3 hk3
    clear hof hr3 hk3 D2
    by_cases hk0 : (0 : Int) < (k : Int)
    · have HD := Lib.hid (D3.below (Below.refl _ _).drew)
      have hofd := Lib.hid (hof3.keeps (by omega) (RK.of_below (r := r) (Below.refl w3.heap.size w3).drew))
      have c0 := D3.box.cell
      clear D3 hof3
      go_wp2_with fail
      go_region_law (first
        | (go_simp; go_at_call 89; refine (pick_any r _ (L.length : Int) _ HD.out.rd (by omega) (by omega) (by omega)).mono ?_; rintro e w4 ⟨j, rfl, hj, hr4, hk4⟩; have E4 := HD.out.draw hr4 hk4; have hS4 := E4.box.cell; have hj0 : (0 : Int) ≤ (j : Int) := (by omega); have hj1 : (j : Int) < (L.length : Int) := (by omega); have hj2 : j < L.length := (by omega); have hof4 := hofd.out.keeps (by omega) hk4; have c1 := row_cell_at hof4.1 (cells_at hj2).1; have hs := (hof4.2 _ (List.getElem_mem hj2)).1; have s0 := E4.res.cell; have t0 := E4.res.free; clear hr4 hk4))
      all_goals
        have HF := Lib.hid (E4.fin2 (P' := P + 96) (by omega) hl hs (.slice ao ls.length cap))
        clear HD hofd hof4 hS4 c1 E4
        go_wp2
        exact bodyPost_ret (v := .tuple #[.agg #[.slice ao ls.length cap], .string L[j].1]) (by simp [results, Try.results98, go_sem, s0]) rfl HF.out
    · have HD := Lib.hid (D3.below (Below.refl _ _).drew)
      have c0 := D3.box.cell
      clear D3
      go_wp2_with fail
      go_region_held3 (fun w' : World => w'.cell? ⟨w1.heap.size, 0, none⟩ = some (.slice ao ls.length cap))
        (first | assumption | exact HD.out.box.cell | exact hS4 | exact (E4.box.far (a := ⟨w.heap.size, 0, none⟩) hne _).cell)
        (first
          | (go_at_call 127; refine (anyKey_any r _ _ HD.out.rd (by omega)).mono ?_; rintro e w4 ⟨s, hs, rfl, hr4, hk4⟩; have E4 := HD.out.draw hr4 hk4; have hS4 := E4.box.cell; have s0 := E4.res.cell; have t0 := E4.res.free; clear hr4 hk4))
      have HF := Lib.hid (E4.fin2 (P' := P + 96) (by omega) hl hs (.slice ao ls.length cap))
      clear HD hS4 E4
      go_wp2
      exact bodyPost_ret (v := .tuple #[.agg #[.slice ao ls.length cap], .string s]) (by simp [results, Try.results98, go_sem, s0]) rfl HF.out
  · have hcmp : ¬ (0 : Int) < (L.length : Int) := by omega
    obtain ⟨xo, xcap, rfl, _, _⟩ := own_slice hof.1
    have HD := Lib.hid (D2.below (Below.refl _ _).drew)
    have c0 := D2.box.cell
    clear D2
    go_wp2_with fail
    go_region_held3 (fun w' : World => w'.cell? ⟨w1.heap.size, 0, none⟩ = some (.slice ao ls.length cap))
      (first | assumption | exact HD.out.box.cell | exact hS4 | exact (E4.box.far (a := ⟨w.heap.size, 0, none⟩) hne _).cell)
      (first
        | (go_at_call 127; refine (anyKey_any r _ _ HD.out.rd (by omega)).mono ?_; rintro e w4 ⟨s, hs, rfl, hr4, hk4⟩; have E4 := HD.out.draw hr4 hk4; have hS4 := E4.box.cell; have s0 := E4.res.cell; have t0 := E4.res.free; clear hr4 hk4))
    have HF := Lib.hid (E4.fin2 (P' := P + 96) (by omega) hl hs (.slice ao ls.length cap))
    clear HD hS4 E4
    go_wp2
    exact bodyPost_ret (v := .tuple #[.agg #[.slice ao ls.length cap], .string s]) (by simp [results, Try.results98, go_sem, s0]) rfl HF.out
end Go.Proofs.Ytoglgeinnocfjaa
/-
  What drawn laws over chains draw; how chains compare.
-/
namespace Go.Proofs.Ytoglgeinnocfjaa
open Go.RowKit
open Go.ChangeShapes Go.WideShapes Go.ChangeAt Go.Deep

set_option linter.unusedSimpArgs false in
set_option maxHeartbeats 1600000 in
set_option maxRecDepth 100000 in
theorem DrawValidChain_any (v : Value) (bs : List Int) (w : World) (h : Bytes w v bs) :
    Calls Try.prog 41 #[v] w fun e w' => ∃ v' ls, e = .returned (.agg #[v']) ∧ (ls.length ≤ 12 ∧ tot ls ≤ 128) ∧ MapsK (In w.heap.size w'.heap.size) w' v' ls ∧ Below w.heap.size w w' := by
  have hb0 : Below w.heap.size w (w.alloc (.cells #[.slice none 0 0] 51)) := (Below.refl _ _).alloc (Nat.le_refl _) _
  have X0 := Lib.hid (One.new w 51 (.slice none 0 0))
  go_enter Try.func41, Try.ntmps41
  go_wp2_with fail
  refine (newReader_any v bs _ (h.kept (K := (· < w.heap.size)) (Keeps.of_below hb0 (fun _ h => h)) (fun h0 _ hg => h.lt h0 hg))).mono ?_
  rintro e w1 ⟨r, rfl, hr, hR1, hb1⟩
  have hs1 := hb1.size
  have X1 := Lib.hid (X0.out.below hb1 (by simp))
  simp at hs1 hr
  have hB1 : Below w.heap.size w w1 := hb0.trans (hb1.mono (by simp))
  clear hb1 hb0 X0 h
  go_wp2_with fail
  refine (someChain_any r 0 w1 hR1 (by omega)).mono ?_
  rintro e w2 ⟨v2, ls, rfl, hbd, hmap, hR2, hk2⟩
  have hs2 := hk2.size
  have hlt := hR1.lt
  obtain ⟨ao, cap, rfl, _, _⟩ := hmap.weak.slice
  have X2 := X1.out.keeps hk2 ⟨by omega, by omega⟩
  have HB := Lib.hid (draw_below hB1 (by omega) hk2)
  have HM := Lib.hid (hmap.keeps ((Keeps.refl _ _).boxset (a := ⟨w.heap.size, 0, none⟩) (by show w.heap.size < w1.heap.size; omega) (.slice ao ls.length cap)))
  have s0 := X2.cell
  have t0 := X2.free
  clear hmap hk2 X2 X1 hR1
  go_wp2
  exact bodyPost_ret (v := .agg #[.slice ao ls.length cap]) (by simp [results, Try.results41, go_sem, s0]) rfl ⟨_, ls, rfl, hbd, HM.out.within (by omega) (by simp), HB.out.setCell (Nat.le_refl _) _⟩

set_option linter.unusedSimpArgs false in
set_option maxHeartbeats 1600000 in
set_option maxRecDepth 100000 in
theorem DrawWhereIs_any (v : Value) (bs : List Int) (w : World) (h : Bytes w v bs) :
    Calls Try.prog 45 #[v] w fun e w' => ∃ v' ls s, e = .returned (.tuple #[.agg #[v'], .string s]) ∧ (ls.length ≤ 12 ∧ tot ls ≤ 128 ∧ s.size ≤ 9223372036854775807) ∧ MapsK (In w.heap.size w'.heap.size) w' v' ls ∧ Below w.heap.size w w' := by
  have hb0 : Below w.heap.size w (w.alloc (.cells #[.slice none 0 0] 51)) := (Below.refl _ _).alloc (Nat.le_refl _) _
  have X0 := Lib.hid (One.new w 51 (.slice none 0 0))
  go_enter Try.func45, Try.ntmps45
  go_wp2_with fail
  refine (newReader_any v bs _ (h.kept (K := (· < w.heap.size)) (Keeps.of_below hb0 (fun _ h => h)) (fun h0 _ hg => h.lt h0 hg))).mono ?_
  rintro e w1 ⟨r, rfl, hr, hR1, hb1⟩
  have hs1 := hb1.size
  have X1 := Lib.hid (X0.out.below hb1 (by simp))
  simp at hs1 hr
  have hB1 : Below w.heap.size w w1 := hb0.trans (hb1.mono (by simp))
  clear hb1 hb0 X0 h
  go_wp2_with fail
  refine (chainKey_any r 0 w1 hR1 (by omega)).mono ?_
  rintro e w2 ⟨v2, ls, s, rfl, hbd, hmap, hR2, hk2⟩
  have hs2 := hk2.size
  have hlt := hR1.lt
  obtain ⟨ao, cap, rfl, _, _⟩ := hmap.weak.slice
  have X2 := X1.out.keeps hk2 ⟨by omega, by omega⟩
  have HB := Lib.hid (draw_below hB1 (by omega) hk2)
  have HM := Lib.hid (hmap.keeps ((Keeps.refl _ _).boxset (a := ⟨w.heap.size, 0, none⟩) (by show w.heap.size < w1.heap.size; omega) (.slice ao ls.length cap)))
  have s0 := X2.cell
  have t0 := X2.free
  clear hmap hk2 X2 X1 hR1
  go_wp2
  exact bodyPost_ret (v := .tuple #[.agg #[.slice ao ls.length cap], .string s]) (by simp [results, Try.results45, go_sem, s0]) rfl ⟨_, ls, s, rfl, hbd, HM.out.within (by omega) (by simp), HB.out.setCell (Nat.le_refl _) _⟩

set_option linter.unusedSimpArgs false in
set_option maxHeartbeats 1600000 in
set_option maxRecDepth 100000 in
theorem DrawDeepDrop_any (v : Value) (bs : List Int) (w : World) (h : Bytes w v bs) :
    Calls Try.prog 56 #[v] w fun e w' => ∃ v' ls s, e = .returned (.tuple #[.agg #[v'], .string s]) ∧ (ls.length ≤ 12 ∧ tot ls ≤ 128 ∧ s.size ≤ 9223372036854775807) ∧ MapsK (In w.heap.size w'.heap.size) w' v' ls ∧ Below w.heap.size w w' := by
  have hb0 : Below w.heap.size w (w.alloc (.cells #[.slice none 0 0] 51)) := (Below.refl _ _).alloc (Nat.le_refl _) _
  have X0 := Lib.hid (One.new w 51 (.slice none 0 0))
  go_enter Try.func56, Try.ntmps56
  go_wp2_with fail
  refine (newReader_any v bs _ (h.kept (K := (· < w.heap.size)) (Keeps.of_below hb0 (fun _ h => h)) (fun h0 _ hg => h.lt h0 hg))).mono ?_
  rintro e w1 ⟨r, rfl, hr, hR1, hb1⟩
  have hs1 := hb1.size
  have X1 := Lib.hid (X0.out.below hb1 (by simp))
  simp at hs1 hr
  have hB1 : Below w.heap.size w w1 := hb0.trans (hb1.mono (by simp))
  clear hb1 hb0 X0 h
  go_wp2_with fail
  refine (chainKey_any r 0 w1 hR1 (by omega)).mono ?_
  rintro e w2 ⟨v2, ls, s, rfl, hbd, hmap, hR2, hk2⟩
  have hs2 := hk2.size
  have hlt := hR1.lt
  obtain ⟨ao, cap, rfl, _, _⟩ := hmap.weak.slice
  have X2 := X1.out.keeps hk2 ⟨by omega, by omega⟩
  have HB := Lib.hid (draw_below hB1 (by omega) hk2)
  have HM := Lib.hid (hmap.keeps ((Keeps.refl _ _).boxset (a := ⟨w.heap.size, 0, none⟩) (by show w.heap.size < w1.heap.size; omega) (.slice ao ls.length cap)))
  have s0 := X2.cell
  have t0 := X2.free
  clear hmap hk2 X2 X1 hR1
  go_wp2
  exact bodyPost_ret (v := .tuple #[.agg #[.slice ao ls.length cap], .string s]) (by simp [results, Try.results56, go_sem, s0]) rfl ⟨_, ls, s, rfl, hbd, HM.out.within (by omega) (by simp), HB.out.setCell (Nat.le_refl _) _⟩

set_option linter.unusedSimpArgs false in
set_option maxHeartbeats 1600000 in
set_option maxRecDepth 100000 in
theorem DrawHowOften_any (v : Value) (bs : List Int) (w : World) (h : Bytes w v bs) :
    Calls Try.prog 59 #[v] w fun e w' => ∃ v' ls s, e = .returned (.tuple #[.agg #[v'], .string s]) ∧ (ls.length ≤ 12 ∧ tot ls ≤ 128 ∧ s.size ≤ 9223372036854775807) ∧ MapsK (In w.heap.size w'.heap.size) w' v' ls ∧ Below w.heap.size w w' := by
  have hb0 : Below w.heap.size w (w.alloc (.cells #[.slice none 0 0] 51)) := (Below.refl _ _).alloc (Nat.le_refl _) _
  have X0 := Lib.hid (One.new w 51 (.slice none 0 0))
  go_enter Try.func59, Try.ntmps59
  go_wp2_with fail
  refine (newReader_any v bs _ (h.kept (K := (· < w.heap.size)) (Keeps.of_below hb0 (fun _ h => h)) (fun h0 _ hg => h.lt h0 hg))).mono ?_
  rintro e w1 ⟨r, rfl, hr, hR1, hb1⟩
  have hs1 := hb1.size
  have X1 := Lib.hid (X0.out.below hb1 (by simp))
  simp at hs1 hr
  have hB1 : Below w.heap.size w w1 := hb0.trans (hb1.mono (by simp))
  clear hb1 hb0 X0 h
  go_wp2_with fail
  refine (chainKey_any r 0 w1 hR1 (by omega)).mono ?_
  rintro e w2 ⟨v2, ls, s, rfl, hbd, hmap, hR2, hk2⟩
  have hs2 := hk2.size
  have hlt := hR1.lt
  obtain ⟨ao, cap, rfl, _, _⟩ := hmap.weak.slice
  have X2 := X1.out.keeps hk2 ⟨by omega, by omega⟩
  have HB := Lib.hid (draw_below hB1 (by omega) hk2)
  have HM := Lib.hid (hmap.keeps ((Keeps.refl _ _).boxset (a := ⟨w.heap.size, 0, none⟩) (by show w.heap.size < w1.heap.size; omega) (.slice ao ls.length cap)))
  have s0 := X2.cell
  have t0 := X2.free
  clear hmap hk2 X2 X1 hR1
  go_wp2
  exact bodyPost_ret (v := .tuple #[.agg #[.slice ao ls.length cap], .string s]) (by simp [results, Try.results59, go_sem, s0]) rfl ⟨_, ls, s, rfl, hbd, HM.out.within (by omega) (by simp), HB.out.setCell (Nat.le_refl _) _⟩

set_option linter.unusedSimpArgs false in
set_option maxHeartbeats 1600000 in
set_option maxRecDepth 100000 in
theorem DrawHiddenIn_any (v : Value) (bs : List Int) (w : World) (h : Bytes w v bs) :
    Calls Try.prog 61 #[v] w fun e w' => ∃ v' ls q, e = .returned (.tuple #[.agg #[v'], .int .i64 q]) ∧ (ls.length ≤ 12 ∧ tot ls ≤ 128 ∧ -1 ≤ q ∧ q ≤ 4) ∧ MapsK (In w.heap.size w'.heap.size) w' v' ls ∧ Below w.heap.size w w' := by
  have hb0 : Below w.heap.size w (w.alloc (.cells #[.slice none 0 0] 51)) := (Below.refl _ _).alloc (Nat.le_refl _) _
  have X0 := Lib.hid (One.new w 51 (.slice none 0 0))
  go_enter Try.func61, Try.ntmps61
  go_wp2_with fail
  refine (newReader_any v bs _ (h.kept (K := (· < w.heap.size)) (Keeps.of_below hb0 (fun _ h => h)) (fun h0 _ hg => h.lt h0 hg))).mono ?_
  rintro e w1 ⟨r, rfl, hr, hR1, hb1⟩
  have hs1 := hb1.size
  have X1 := Lib.hid (X0.out.below hb1 (by simp))
  simp at hs1 hr
  have hB1 : Below w.heap.size w w1 := hb0.trans (hb1.mono (by simp))
  clear hb1 hb0 X0 h
  go_wp2_with fail
  refine (someChain_any r 0 w1 hR1 (by omega)).mono ?_
  rintro e w3 ⟨v2, ls, rfl, hbd, hmap3, hR3, hk3⟩
  have hs3 := hk3.size
  go_wp2_with fail
  refine (one_lit r _ [1, 0, 2, 3, -1, 4] w3 hR3 (by omega) (by decide) (by decide) rfl rfl).mono ?_
  rintro e w2 ⟨q, hq, rfl, hR2, hk2'⟩
  have hq2 : -1 ≤ q ∧ q ≤ 4 := by simp at hq; omega
  have hs4 := hk2'.size
  have hmap := (hmap3.keeps (hk2'.mono fun j hj => ⟨hj.2, by have := hj.1; have := hR1.lt; omega⟩)).within (Nat.le_refl _) hs4
  have hk2 := RK.trans hk3 hk2'
  clear hmap3 hk3 hk2' hq hR3
  have hs2 := hk2.size
  have hlt := hR1.lt
  obtain ⟨ao, cap, rfl, _, _⟩ := hmap.weak.slice
  have X2 := X1.out.keeps hk2 ⟨by omega, by omega⟩
  have HB := Lib.hid (draw_below hB1 (by omega) hk2)
  have HM := Lib.hid (hmap.keeps ((Keeps.refl _ _).boxset (a := ⟨w.heap.size, 0, none⟩) (by show w.heap.size < w1.heap.size; omega) (.slice ao ls.length cap)))
  have s0 := X2.cell
  have t0 := X2.free
  clear hmap hk2 X2 X1 hR1
  go_wp2
  exact bodyPost_ret (v := .tuple #[.agg #[.slice ao ls.length cap], .int .i64 q]) (by simp [results, Try.results61, go_sem, s0]) rfl ⟨_, ls, q, rfl, ⟨hbd.1, hbd.2, hq2.1, hq2.2⟩, HM.out.within (by omega) (by simp), HB.out.setCell (Nat.le_refl _) _⟩

set_option maxHeartbeats 1600000 in
set_option maxRecDepth 100000 in
theorem equalC_T {W w : World} {L : List Thing} (H : Things W w L) {v u : Value} {ls : List (List Itm)} (h : Maps w v ls) (h' : Maps w u ls) :
    Calls Try.prog 53 #[.agg #[v], .agg #[u]] w fun e w' => e = .returned (.bool true) ∧ Things W w' L := by
  have hM := Lib.hid h
  have hN := Lib.hid h'
  obtain ⟨ao, cap, rfl, _, _⟩ := h.slice
  obtain ⟨ao', cap', rfl, _, _⟩ := h'.slice
  clear h h'
  go_enter Try.func53, Try.ntmps53
  have HB0 : Hid (Below w.heap.size w ((w.alloc (.cells #[.slice ao ls.length cap] 51)).alloc (.cells #[.slice ao' ls.length cap'] 51))) := ((Below.refl _ _).alloc (Nat.le_refl _) _).alloc (by simp) _
  have F0 := Lib.hid ((One.new w 51 (.slice ao ls.length cap)).below (B := w.heap.size + 1) ((Below.refl _ _).alloc (by simp) (.cells #[.slice ao' ls.length cap'] 51)) (by omega))
  have F1 : Hid (One ((w.alloc (.cells #[.slice ao ls.length cap] 51)).alloc (.cells #[.slice ao' ls.length cap'] 51)) (w.heap.size + 1) 51 (.slice ao' ls.length cap')) := by
    have := One.new (w.alloc (.cells #[.slice ao ls.length cap] 51)) 51 (.slice ao' ls.length cap')
    simp at this
    exact this
  have c0 := F0.out.cell
  have c1 := F1.out.cell
  go_wp2
  go_loopw [5] (fun i wr => ∃ k : Nat, k ≤ ls.length ∧ i = .int .i64 k ∧ Hid (Below w.heap.size w wr) ∧ Hid (One wr w.heap.size 51 (.slice ao ls.length cap)) ∧ Hid (One wr (w.heap.size + 1) 51 (.slice ao' ls.length cap'))) (fun i _ => ls.length - (intOf i).toNat)
  case atStart => exact ⟨0, Nat.zero_le _, rfl, HB0, F0, F1⟩
  case round =>
    clear F0 F1 c0 c1
    obtain ⟨k, hk, rfl, HB, G0, G1⟩ := hrel
    have c0 := G0.out.cell
    have c1 := G1.out.cell
    by_cases hlt : k < ls.length
    · obtain ⟨b, o, cp, x, e, hb, h1, hI⟩ := hM.out.at hlt
      obtain ⟨b', o', cp', y, e', hb', h1', hI'⟩ := hN.out.at hlt
      simp only [Value.slice.injEq] at e e'
      obtain ⟨rfl, _, rfl⟩ := e
      obtain ⟨rfl, _, rfl⟩ := e'
      have d0 := (HB.out.cell (p := ⟨b, _, none⟩) hb).trans h1
      have d1 := (HB.out.cell (p := ⟨b', _, none⟩) hb').trans h1'
      have HI := Lib.hid ((hI.mono HB.out (Nat.le_refl _)).drew)
      have HI' := Lib.hid ((hI'.mono HB.out (Nat.le_refl _)).drew)
      have hki : (0 : Int) ≤ (k : Int) := by omega
      have hkl : (k : Int) < (ls.length : Int) := by omega
      have hblt : b < wr.heap.size := Nat.lt_of_lt_of_le hb HB.out.size
      have hblt' : b' < wr.heap.size := Nat.lt_of_lt_of_le hb' HB.out.size
      have hsz := G1.out.lt
      have hw0 : w.heap.size < wr.heap.size := by omega
      have HS : Hid ((wr.cell? ⟨w.heap.size, 0, none⟩ = some (.slice (some ⟨b, o, none⟩) ls.length cap) ∧ wr.cell? ⟨w.heap.size + 1, 0, none⟩ = some (.slice (some ⟨b', o', none⟩) ls.length cap')) ∧ (wr.cell? ⟨b, o + k, none⟩ = some x ∧ wr.cell? ⟨b', o' + k, none⟩ = some y)) := ⟨⟨c0, c1⟩, ⟨d0, d1⟩⟩
      clear hI hI' h1 h1'
      go_wp2_with fail
      go_region_held3 (fun w' : World => (w'.cell? ⟨w.heap.size, 0, none⟩ = some (.slice (some ⟨b, o, none⟩) ls.length cap) ∧ w'.cell? ⟨w.heap.size + 1, 0, none⟩ = some (.slice (some ⟨b', o', none⟩) ls.length cap')) ∧ (w'.cell? ⟨b, o + k, none⟩ = some x ∧ w'.cell? ⟨b', o' + k, none⟩ = some y))
        (first | exact HS.out | assumption | exact HS2.out)
        (first
          | (go_at_call 109; refine (equalItems_any x y ls[k] ls[k] _ HI.out HI'.out).mono ?_; rintro e w2 ⟨rfl, hb2'⟩; have hb2 := Below.undrew hb2'; rw [decide_eq_true rfl]; have HS2 : Hid ((w2.cell? ⟨w.heap.size, 0, none⟩ = some (.slice (some ⟨b, o, none⟩) ls.length cap) ∧ w2.cell? ⟨w.heap.size + 1, 0, none⟩ = some (.slice (some ⟨b', o', none⟩) ls.length cap')) ∧ (w2.cell? ⟨b, o + k, none⟩ = some x ∧ w2.cell? ⟨b', o' + k, none⟩ = some y)) := ⟨⟨(hb2.cell (p := ⟨w.heap.size, 0, none⟩) hw0).trans HS.out.1.1, (hb2.cell (p := ⟨w.heap.size + 1, 0, none⟩) hsz).trans HS.out.1.2⟩, ⟨(hb2.cell (p := ⟨b, _, none⟩) hblt).trans HS.out.2.1, (hb2.cell (p := ⟨b', _, none⟩) hblt').trans HS.out.2.2⟩⟩))
      have HB2 := Lib.hid (HB.out.trans (hb2.mono HB.out.size))
      have G02 := Lib.hid (G0.out.below hb2 G0.out.lt)
      have G12 := Lib.hid (G1.out.below hb2 G1.out.lt)
      clear HS HS2 hb2 hb2'
      go_wp2
      go_roundw
      case rel => exact ⟨k + 1, by omega, by go_num, HB2, G02, G12⟩
      case measure => simp [intOf]; omega
    · obtain rfl : k = ls.length := by omega
      have H2 := H.quiet HB.out
      go_wp2
      go_ret
      exact ⟨rfl, H2⟩
end Go.Proofs.Ytoglgeinnocfjaa
/-
  A chain, a key and a number drawn.
-/
namespace Go.Proofs.Ytoglgeinnocfjaa
open Go.RowKit
open Go.ChangeShapes Go.WideShapes Go.ChangeAt Go.Deep

set_option linter.unusedSimpArgs false in
set_option maxHeartbeats 1600000 in
set_option maxRecDepth 100000 in
theorem DrawChainPut_any (v : Value) (bs : List Int) (w : World) (h : Bytes w v bs) :
    Calls Try.prog 50 #[v] w fun e w' => ∃ v' ls s x, e = .returned (.tuple #[.agg #[v'], .string s, .int .i64 x]) ∧ (ls.length ≤ 12 ∧ tot ls ≤ 128 ∧ s.size ≤ 9223372036854775807 ∧ -7 ≤ x ∧ x ≤ 10000) ∧ MapsK (In w.heap.size w'.heap.size) w' v' ls ∧ Below w.heap.size w w' := by
  have hb0 : Below w.heap.size w (w.alloc (.cells #[.slice none 0 0] 51)) := (Below.refl _ _).alloc (Nat.le_refl _) _
  have X0 := Lib.hid (One.new w 51 (.slice none 0 0))
  go_enter Try.func50, Try.ntmps50
  go_wp2_with fail
  refine (newReader_any v bs _ (h.kept (K := (· < w.heap.size)) (Keeps.of_below hb0 (fun _ h => h)) (fun h0 _ hg => h.lt h0 hg))).mono ?_
  rintro e w1 ⟨r, rfl, hr, hR1, hb1⟩
  have hs1 := hb1.size
  have X1 := Lib.hid (X0.out.below hb1 (by simp))
  simp at hs1 hr
  have hB1 : Below w.heap.size w w1 := hb0.trans (hb1.mono (by simp))
  clear hb1 hb0 X0 h
  go_wp2_with fail
  refine (chainKey_any r 0 w1 hR1 (by omega)).mono ?_
  rintro e w2 ⟨v2, ls, s, rfl, hbd, hmap, hR2, hk2⟩
  have hs2 := hk2.size
  have hlt := hR1.lt
  obtain ⟨ao, cap, rfl, _, _⟩ := hmap.weak.slice
  have X2 := Lib.hid (X1.out.keeps hk2 ⟨by omega, by omega⟩)
  have HB := Lib.hid (draw_below hB1 (by omega) hk2)
  have hbx : Below w2.heap.size w2 (w2.alloc (.cells #[.slice ao ls.length cap] 51)) := (Below.refl _ _).alloc (Nat.le_refl _) _
  have hbd' : Below w2.heap.size w2 (w2.alloc (.cells #[.slice ao ls.length cap] 51)).drew := hbx.drew
  have BX := One.new w2 51 (.slice ao ls.length cap)
  have hbe : Below (w2.heap.size + 1) (w2.alloc (.cells #[.slice ao ls.length cap] 51)) (w2.alloc (.cells #[.slice ao ls.length cap] 51)).drew := (Below.refl _ _).drew
  have BXd := Lib.hid (BX.below hbe (by omega))
  clear hbe
  have XXd := Lib.hid (X2.out.below hbd' (by omega))
  have R2d := Lib.hid (hR2.below hbd')
  have HB2 := Lib.hid (HB.out.trans (hbd'.mono HB.out.size))
  have HM2 := Lib.hid (hmap.keeps (Keeps.of_below hbd' (fun k hk => hk.2)))
  have c0 := BX.cell
  clear hmap hk2 hR1 hR2 hbx hbd' BX X1 X2 HB hB1
  go_wp2_with fail
  go_region_law (first
    | (go_simp; go_at_call 91; refine (one_lit_at (w2.heap.size + 1) r _ [7, 0, -7, 10000] _ (by simp) R2d.out (by omega) (by decide) (by decide) rfl rfl).mono ?_; rintro e w3 ⟨x, hx, rfl, hR3, hk3⟩; have hx2 : -7 ≤ x ∧ x ≤ 10000 := (by simp at hx; omega); have c3 := (BXd.out.keeps hk3 ⟨by simp, by omega⟩).cell; have X3 := XXd.out.keeps hk3 ⟨by simp; omega, by omega⟩; have s0 := X3.cell; have t0 := X3.free; clear hx))
  all_goals
    have hs3 := hk3.size
    simp at hs3
    have HB3 := Lib.hid (HB2.out.trans (Keeps.below hk3 (fun k hk => ⟨by simp; omega, by omega⟩)))
    have HM := Lib.hid (((HM2.out.keeps (hk3.mono fun j hj => ⟨by have := hj.2; simp; omega, by have := hj.1; omega⟩))).keeps ((Keeps.refl _ _).boxset (a := ⟨w.heap.size, 0, none⟩) (by show w.heap.size < w1.heap.size; omega) (.slice ao ls.length cap)))
    clear X3 hk3 hR3 HM2 HB2 XXd BXd R2d
    go_wp2
    exact bodyPost_ret (v := .tuple #[.agg #[.slice ao ls.length cap], .string s, .int .i64 x]) (by simp [results, Try.results50, go_sem, s0]) rfl ⟨_, ls, s, x, rfl, ⟨hbd.1, hbd.2.1, hbd.2.2, hx2.1, hx2.2⟩, HM.out.within (by omega) (by simp; omega), HB3.out.setCell (Nat.le_refl _) _⟩
end Go.Proofs.Ytoglgeinnocfjaa
