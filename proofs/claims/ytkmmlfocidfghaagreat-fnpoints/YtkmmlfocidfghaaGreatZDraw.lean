import Derived.Test.YtkmmlfocidfghaaGreatZPoint
import Derived.Test.YtkmmlfocidfghaaGreatRDraw
namespace Go.Proofs.YtkmmlfocidfghaaGreat
open Go.RowKit
set_option maxRecDepth 8000 in
set_option maxHeartbeats 2000000 in
theorem id9_c {w : World} {B g n cap : Nat} {A : Option Addr} (h : Curs w w B g A n cap) : Calls Tryz.prog 50 #[.pointer (some ⟨g, 0, none⟩)] w (IntPick B g A n cap w) := by
  have H := Lib.hid (once_c h 40 (by omega) (by omega))
  clear h
  go_enter Tryz.func50, Tryz.ntmps50
  go_wp2_with fail
  refine H.out.mono ?_
  rintro e w1 ⟨b, rfl, hc⟩
  have HC := Lib.hid hc
  have H2 := Lib.hid (below_c HC.out.start 2 (by omega) (by omega))
  clear hc H
  cases b with
  | true =>
    go_wp2_with fail
    refine H2.out.mono ?_
    rintro e w2 ⟨x, rfl, x0, x1, hc2⟩
    have HC2 := Lib.hid (HC.out.trans hc2)
    clear hc2 HC H2
    rcases (by omega : x = 0 ∨ x = 1) with rfl | rfl
    · clear x0 x1
      go_wp2
      go_ret
      exact ⟨_, rfl, by decide, HC2.out⟩
    · clear x0 x1
      go_wp2
      go_ret
      exact ⟨_, rfl, by decide, HC2.out⟩
  | false =>
    go_wp2_with fail
    refine H2.out.mono ?_
    rintro e w2 ⟨x, rfl, x0, x1, hc2⟩
    have HC2 := Lib.hid (HC.out.trans hc2)
    clear hc2 HC H2
    rcases (by omega : x = 0 ∨ x = 1) with rfl | rfl
    · clear x0 x1
      go_wp2
      go_ret
      exact ⟨_, rfl, by decide, HC2.out⟩
    · clear x0 x1
      go_wp2
      go_ret
      exact ⟨_, rfl, by decide, HC2.out⟩
set_option maxRecDepth 8000 in
set_option maxHeartbeats 2000000 in
theorem any9_c {w : World} {B g n cap : Nat} {A : Option Addr} (h : Curs w w B g A n cap) : Calls Tryz.prog 24 #[.pointer (some ⟨g, 0, none⟩)] w (IntPick B g A n cap w) := by
  have H := Lib.hid (once_c h 14 (by omega) (by omega))
  have hglt := h.c.glt
  have HGl := Lib.hid hglt
  clear h hglt
  go_enter Tryz.func24, Tryz.ntmps24
  go_wp2_with fail
  refine H.out.mono ?_
  rintro e w1 ⟨b, rfl, hc⟩
  have HC := Lib.hid hc
  clear hc H
  cases b with
  | true =>
    go_wp2_with fail
    have HP := pickInt_new HC.out HGl.out [.int .i64 0, .int .i64 5, .int .i64 (-1), .int .i64 9223372036854775807] 3 (by decide) (by simp) (by simp)
    simp only [List.length_cons, List.length_nil, Nat.zero_add, Nat.reduceAdd] at HP
    refine HP.mono ?_
    rintro e w2 ⟨y, rfl, hy, hc2⟩
    have HC2 := Lib.hid (And.intro hy hc2)
    clear hc2 HC HP hy
    go_wp2
    go_ret
    exact ⟨_, rfl, HC2.out.1, HC2.out.2⟩
  | false =>
    have H2 := Lib.hid (id9_c HC.out.start)
    go_wp2_with fail
    refine H2.out.mono ?_
    rintro e w2 ⟨y, rfl, hy, hc2⟩
    have HC2 := Lib.hid (And.intro hy (HC.out.trans hc2))
    clear hc2 HC H2 hy
    go_wp2
    go_ret
    exact ⟨_, rfl, HC2.out.1, HC2.out.2⟩
theorem cvPT_size (id : Int) : (cvPT id).size ≤ 950 := by
  cases h : cvB id with
  | false => rw [cvPT_no h]; decide
  | true => rcases four_ids h with rfl | rfl | rfl | rfl <;> decide
end Go.Proofs.YtkmmlfocidfghaaGreat
