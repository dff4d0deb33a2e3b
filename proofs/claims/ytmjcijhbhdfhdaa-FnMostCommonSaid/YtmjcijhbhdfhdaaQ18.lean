/-
  SrtF, SrtG.
-/
import Derived.Test.YtmjcijhbhdfhdaaQ15
import Derived.Test.YtmjcijhbhdfhdaaQ17
/-
  The library's sorts over few items.
-/
namespace Go.Proofs.Ytmjcijhbhdfhdaa
open Go.RowKit

set_option maxRecDepth 100000 in
theorem len64_any (n : Nat) (w : World) (hn : n ≤ 8) : Calls Try.prog 149 #[.int .u64 n] w fun e w' => ∃ r : Int, e = .returned (.int .i64 r) ∧ w = w' := by
  have h : n = 0 ∨ n = 1 ∨ n = 2 ∨ n = 3 ∨ n = 4 ∨ n = 5 ∨ n = 6 ∨ n = 7 ∨ n = 8 := by omega
  clear hn
  go_enter Try.func149, Try.ntmps149
  rcases h with rfl | rfl | rfl | rfl | rfl | rfl | rfl | rfl | rfl
  all_goals go_wp2
  all_goals go_ret
  all_goals exact ⟨_, rfl, rfl⟩
theorem len_any (n : Nat) (w : World) (hn : n ≤ 8) : Calls Try.prog 133 #[.int .u64 n] w fun e w' => ∃ r : Int, e = .returned (.int .i64 r) ∧ w = w' := by
  go_enter Try.func133, Try.ntmps133
  go_wp2_with fail
  refine (len64_any n w hn).mono ?_
  rintro e w1 ⟨r, rfl, rfl⟩
  go_wp2
  go_ret
  exact ⟨_, rfl, rfl⟩
end Go.Proofs.Ytmjcijhbhdfhdaa
/-
  SortKeys and MostCommon by the program: the library's sorts over a copy.
-/
namespace Go.Proofs.Ytmjcijhbhdfhdaa
open Go.RowKit

/-- A row of one's own, or none: as it lies. -/
theorem own_cases {B : Nat} {w : World} {v : Value} {xs : List Itm} (h : OwnI 30 w B v xs) : (xs = [] ∧ ∃ ao cap, v = .slice ao 0 cap) ∨ (∃ g cap, v = .slice (some ⟨g, 0, none⟩) xs.length cap ∧ w.ownsRow B 30 2 (.slice (some ⟨g, 0, none⟩) xs.length cap) xs.length (cellsI xs)) := by
  cases xs with
  | nil =>
    obtain ⟨ao, cap, e, _, _⟩ := own_slice h.1
    exact .inl ⟨rfl, ao, cap, e⟩
  | cons x r =>
    obtain ⟨g, cap, e, _, _⟩ := own_shape h.1 (by simp)
    exact .inr ⟨g, cap, e, by rw [← e]; exact h.1⟩
theorem sort_none (ao : Option Addr) (cap : Nat) (f : Value) (w : World) :
    Calls Try.prog 139 #[.slice ao 0 cap, .int .i64 0, .int .i64 0, f] w fun e w' => e = .returned (.tuple #[]) ∧ w = w' := by
  go_enter Try.func139, Try.ntmps139
  go_wp2
  refine wp_loop_rounds 1 ?_
  rw [rounds_succ]
  go_wp2
  go_end0
  exact ⟨rfl, rfl⟩

set_option maxHeartbeats 800000 in
set_option maxRecDepth 100000 in
theorem pdqK_any {B : Nat} {v : Value} {xs : List Itm} (r : Int) (w : World) (h : OwnI 30 w B v xs) (hn : xs.length ≤ 8) :
    Calls Try.prog 132 #[v, .int .i64 0, .int .i64 xs.length, .int .i64 r, .func (.func 110) #[] #[]] w fun e w' => e = .returned (.tuple #[]) ∧ w'.ownsRow B 30 2 v xs.length (cellsI (sortR ltK xs)) ∧ Below B w w' := by
  have hl : (xs.length : Int) ≤ 12 := by omega
  rcases own_cases h with ⟨rfl, ao, cap, rfl⟩ | ⟨g, cap, rfl, hr⟩
  · have H := Lib.hid h.1
    clear h
    go_enter Try.func132, Try.ntmps132
    go_wp2
    refine wp_loop_rounds 1 ?_
    rw [rounds_succ]
    go_wp2_with (go_at_call 139; refine (sort_none ao cap _ _).mono ?_; rintro e w1 ⟨rfl, rfl⟩)
    refine bodyPost_ret (results_none rfl _ _ _) rfl ?_
    exact ⟨rfl, H.out, Below.refl _ _⟩
  · have H := Lib.hid hr
    clear h hr
    have hn' : xs.length ≤ 1000 := by omega
    go_enter Try.func132, Try.ntmps132
    go_wp2
    refine wp_loop_rounds 1 ?_
    rw [rounds_succ]
    go_wp2_with (go_at_call 139; refine (sortK_any xs w H.out hn').mono ?_; rintro e w1 ⟨rfl, hr1, hb1⟩)
    refine bodyPost_ret (results_none rfl _ _ _) rfl ?_
    exact ⟨rfl, hr1, hb1⟩

theorem sortFunc_any {B : Nat} {v : Value} {xs : List Itm} (w : World) (h : OwnI 30 w B v xs) (hn : xs.length ≤ 8) :
    Calls Try.prog 109 #[v, .func (.func 110) #[] #[]] w fun e w' => e = .returned (.tuple #[]) ∧ w'.ownsRow B 30 2 v xs.length (cellsI (sortR ltK xs)) ∧ Below B w w' := by
  have H := Lib.hid h
  obtain ⟨ao, cap, rfl, _, _⟩ := own_slice h.1
  have hz : 0 ≤ xs.length := Nat.zero_le _
  clear h
  go_enter Try.func109, Try.ntmps109
  go_wp2_with fail
  refine (len_any xs.length w hn).mono ?_
  rintro e w1 ⟨r, rfl, rfl⟩
  go_wp2_with fail
  refine (pdqK_any r w H.out hn).mono ?_
  rintro e w2 ⟨rfl, hr, hb⟩
  go_wp2
  go_end0
  exact ⟨rfl, hr, hb⟩

set_option maxHeartbeats 800000 in
set_option maxRecDepth 100000 in
theorem stableN_any {B : Nat} {v : Value} {xs : List Itm} (w : World) (h : OwnI 30 w B v xs) (hn : xs.length ≤ 8) :
    Calls Try.prog 123 #[v, .int .i64 xs.length, .func (.func 84) #[] #[]] w fun e w' => e = .returned (.tuple #[]) ∧ w'.ownsRow B 30 2 v xs.length (cellsI (sortR ltN xs)) ∧ Below B w w' := by
  have hl : ¬ (20 : Int) ≤ (xs.length : Int) := by omega
  have hl' : ¬ (20 : Int) < (xs.length : Int) := by omega
  rcases own_cases h with ⟨rfl, ao, cap, rfl⟩ | ⟨g, cap, rfl, hr⟩
  · have H := Lib.hid h.1
    clear h
    go_enter Try.func123, Try.ntmps123
    go_wp2
    refine wp_loop_rounds 1 ?_
    rw [rounds_succ]
    go_wp2_with (go_at_call 139; refine (sort_none ao cap _ _).mono ?_; rintro e w1 ⟨rfl, rfl⟩)
    refine wp_loop_rounds 1 ?_
    rw [rounds_succ]
    go_wp2
    go_end0
    exact ⟨rfl, H.out, Below.refl _ _⟩
  · have H := Lib.hid hr
    clear h hr
    have hn' : xs.length ≤ 1000 := by omega
    go_enter Try.func123, Try.ntmps123
    go_wp2
    refine wp_loop_rounds 1 ?_
    rw [rounds_succ]
    go_wp2_with (go_at_call 139; refine (sortN_any xs w H.out hn').mono ?_; rintro e w1 ⟨rfl, hr1, hb1⟩)
    refine wp_loop_rounds 1 ?_
    rw [rounds_succ]
    go_wp2
    go_end0
    exact ⟨rfl, hr1, hb1⟩
theorem sortStable_any {B : Nat} {v : Value} {xs : List Itm} (w : World) (h : OwnI 30 w B v xs) (hn : xs.length ≤ 8) :
    Calls Try.prog 83 #[v, .func (.func 84) #[] #[]] w fun e w' => e = .returned (.tuple #[]) ∧ w'.ownsRow B 30 2 v xs.length (cellsI (sortR ltN xs)) ∧ Below B w w' := by
  have H := Lib.hid h
  obtain ⟨ao, cap, rfl, _, _⟩ := own_slice h.1
  clear h
  go_enter Try.func83, Try.ntmps83
  go_wp2_with fail
  refine (stableN_any w H.out hn).mono ?_
  rintro e w2 ⟨rfl, hr, hb⟩
  go_wp2
  go_end0
  exact ⟨rfl, hr, hb⟩
theorem sortR_perm (lt : Itm → Itm → Bool) (l : List Itm) : (sortR lt l).Perm l := by
  have ins : ∀ (q : List Itm) (x : Itm), (insRv lt q x).Perm (x :: q) := by
    intro q x
    induction q with
    | nil => exact List.Perm.refl _
    | cons y q ih =>
      unfold insRv
      split
      · exact (ih.cons y).trans (List.Perm.swap x y q)
      · exact List.Perm.refl _
  have ins' : ∀ (p : List Itm) (x : Itm), (insR lt p x).Perm (p ++ [x]) := by
    intro p x
    unfold insR
    refine (List.reverse_perm _).trans ((ins _ _).trans ?_)
    refine ((List.reverse_perm p).cons x).trans ?_
    exact (List.perm_append_singleton x p).symm
  have : ∀ (r p : List Itm), (r.foldl (insR lt) p).Perm (p ++ r) := by
    intro r
    induction r with
    | nil => intro p; simp
    | cons x r ih =>
      intro p
      refine (ih _).trans ?_
      have := (ins' p x).append_right r
      simpa using this
  exact this l []
theorem okI_perm {a b : List Itm} (h : okI a) (hp : b.Perm a) : okI b := fun x hx => h x (hp.mem_iff.1 hx)
def skL (l : List Itm) : List Itm := if validI l = true then sortR ltK l else []
def mcI (l : List Itm) (n : Int) : List Itm := if 0 ≤ n ∧ n ≤ l.length then (sortR ltN l).take n.toNat else sortR ltN l
def mcL (l : List Itm) (n : Int) : List Itm := if validI l = true then mcI l n else []
theorem sk_le (l : List Itm) : (skL l).length ≤ 10000000 := if_len fun h => by
  have := valid_len h
  rw [sortR_length]
  omega
theorem mci_len (l : List Itm) (n : Int) : (mcI l n).length ≤ l.length := by
  unfold mcI
  split
  · rw [List.length_take, sortR_length]; omega
  · rw [sortR_length]; omega
theorem mc_le (l : List Itm) (n : Int) : (mcL l n).length ≤ 10000000 := if_len fun h => by
  have := valid_len h
  have := mci_len l n
  omega

set_option maxHeartbeats 400000 in
theorem SortKeys_any (v : Value) (xs : List Itm) (w : World) (h : Items w v xs) :
    Calls Try.prog 60 #[v] w (NewL (fun v => v) (skL xs) w) := by
  go_enter Try.func60, Try.ntmps60
  cases hv : validI xs
  all_goals
    have HV := Lib.hid hv
    clear hv
    go_wp2_with fail
    refine (Vi_v _ h HV.out).mono ?_
    rintro e w1 ⟨rfl, hb1⟩
  · go_wp2
    go_ret
    exact ⟨_, rfl, by rw [show skL xs = [] from if_neg (by rw [HV.out]; decide)]; exact OwnI_nil _ _ _, hb1⟩
  · have hl := valid_len HV.out
    go_wp2_with fail
    refine (slClone_any v xs w1 (h.mono hb1 (Nat.le_refl _)) (by omega)).mono ?_
    rintro e w2 ⟨v2, rfl, ho2, hb2⟩
    go_wp2_with fail
    refine (sortFunc_any w2 ho2 hl).mono ?_
    rintro e w3 ⟨rfl, hr3, hb3⟩
    go_wp2
    go_ret
    exact ⟨_, rfl, by rw [show skL xs = _ from if_pos HV.out]; exact ⟨ownsRow_base (by rw [sortR_length]; exact hr3) hb1.size, okI_perm ho2.2 (sortR_perm _ _)⟩, hb1.trans ((hb2.trans hb3).mono hb1.size)⟩
end Go.Proofs.Ytmjcijhbhdfhdaa
