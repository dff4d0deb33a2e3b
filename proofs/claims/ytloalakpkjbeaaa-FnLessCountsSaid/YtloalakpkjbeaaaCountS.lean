/-
  The model's count.
-/
import Derived.Test.YtloalakpkjbeaaaSpec
namespace Go.Proofs.Ytloalakpkjbeaaa
open Go.RowKit

set_option maxHeartbeats 400000 in
theorem count_any (v : Value) (xs : List Itm) (s : ByteArray) (w : World) (h : Items w v xs) :
    Calls Try.prog 64 #[v, .string s] w fun e w' => e = .returned (.int .i64 (cnt xs s)) ∧ w = w' := by
  go_enter Try.func64, Try.ntmps64
  cases hh : hasI xs s
  · have HC := Lib.hid (cnt_none hh)
    have HH := Lib.hid hh
    clear hh
    go_wp2_with (go_at_call 87; refine (place_no _ h HH.out).mono ?_; rintro e w1 ⟨rfl, rfl⟩)
    go_ret
    exact ⟨ret_int HC.out.symm, rfl⟩
  · obtain ⟨k, hk, h1, h2, h3, h4⟩ := placeI_at xs s 0 hh
    have H1 := Lib.hid (h1.trans (by simp) : placeI xs s 0 = (k : Int))
    have H3 := Lib.hid h3
    clear hh h1 h2 h3 h4
    have h0 := Lib.hid h
    obtain ⟨ao, cap, rfl, hlc, hcm, hok, hcell⟩ := h
    obtain ⟨b, o, rfl, hb, c1, c2⟩ := hcell k hk
    clear hcell hok
    go_wp2_with (go_at_call 87; refine (place_at _ h0.out H1.out).mono ?_; rintro e w1 ⟨rfl, rfl⟩)
    go_ret
    exact ⟨ret_int H3.out.symm, rfl⟩
end Go.Proofs.Ytloalakpkjbeaaa
