import Derived.Test.YtkmmlfocidfghaaGreatZPoint
import Derived.Test.YtkmmlfocidfghaaGreatRDraw
namespace Go.Proofs.YtkmmlfocidfghaaGreat
open Go.RowKit
set_option maxRecDepth 8000 in
set_option maxHeartbeats 2000000 in
theorem id9_c {w : World} {B g n cap : Nat} {A : Option Addr} (h : Curs w w B g A n cap) : Calls Tryz.prog 50 #[.pointer (some ⟨g, 0, none⟩)] w (IntPick B g A n cap w) := by
  have H := Lib.hid (once_c h 40 (by omega) (by omega))
  clear h
  go_enter Tryz.func50, Tryz.ntmps50
  go_wp2_with fail
  refine H.out.mono ?_
  rintro e w1 ⟨b, rfl, hc⟩
  have HC := Lib.hid hc
  have H2 := Lib.hid (below_c HC.out.start 2 (by omega) (by omega))
  clear hc H
  cases b with
  | true =>
    go_wp2_with fail
    refine H2.out.mono ?_
    rintro e w2 ⟨x, rfl, x0, x1, hc2⟩
    have HC2 := Lib.hid (HC.out.trans hc2)
    clear hc2 HC H2
    rcases (by omega : x = 0 ∨ x = 1) with rfl | rfl
    · clear x0 x1
      go_wp2
      go_ret
      exact ⟨_, rfl, by decide, HC2.out⟩
    · clear x0 x1
      go_wp2
      go_ret
      exact ⟨_, rfl, by decide, HC2.out⟩
  | false =>
    go_wp2_with fail
    refine H2.out.mono ?_
    rintro e w2 ⟨x, rfl, x0, x1, hc2⟩
    have HC2 := Lib.hid (HC.out.trans hc2)
    clear hc2 HC H2
    rcases (by omega : x = 0 ∨ x = 1) with rfl | rfl
    · clear x0 x1
      go_wp2
      go_ret
      exact ⟨_, rfl, by decide, HC2.out⟩
    · clear x0 x1
      go_wp2
      go_ret
      exact ⟨_, rfl, by decide, HC2.out⟩
set_option maxRecDepth 8000 in
set_option maxHeartbeats 2000000 in
theorem any9_c {w : World} {B g n cap : Nat} {A : Option Addr} (h : Curs w w B g A n cap) : Calls Tryz.prog 24 #[.pointer (some ⟨g, 0, none⟩)] w (IntPick B g A n cap w) := by
  have H := Lib.hid (once_c h 14 (by omega) (by omega))
  have hglt := h.c.glt
  have HGl := Lib.hid hglt
  clear h hglt
  go_enter Tryz.func24, Tryz.ntmps24
  go_wp2_with fail
  refine H.out.mono ?_
  rintro e w1 ⟨b, rfl, hc⟩
  have HC := Lib.hid hc
  clear hc H
  cases b with
  | true =>
    go_wp2_with fail
    have HP := pickInt_new HC.out HGl.out [.int .i64 0, .int .i64 5, .int .i64 (-1), .int .i64 9223372036854775807] 3 (by decide) (by simp) (by simp)
    simp only [List.length_cons, List.length_nil, Nat.zero_add, Nat.reduceAdd] at HP
    refine HP.mono ?_
    rintro e w2 ⟨y, rfl, hy, hc2⟩
    have HC2 := Lib.hid (And.intro hy hc2)
    clear hc2 HC HP hy
    go_wp2
    go_ret
    exact ⟨_, rfl, HC2.out.1, HC2.out.2⟩
  | false =>
    have H2 := Lib.hid (id9_c HC.out.start)
    go_wp2_with fail
    refine H2.out.mono ?_
    rintro e w2 ⟨y, rfl, hy, hc2⟩
    have HC2 := Lib.hid (And.intro hy (HC.out.trans hc2))
    clear hc2 HC H2 hy
    go_wp2
    go_ret
    exact ⟨_, rfl, HC2.out.1, HC2.out.2⟩
theorem cvPT_size (id : Int) : (cvPT id).size ≤ 950 := by
  cases h : cvB id with
  | false => rw [cvPT_no h]; decide
  | true => rcases four_ids h with rfl | rfl | rfl | rfl <;> decide
def LiftDraw (w : World) (e : Ending) (w' : World) : Prop := ∃ (id : Int) (x : ByteArray) (gr : Bool), e = .returned (.tuple #[.int .i64 id, .string x, .bool gr]) ∧ Below w.heap.size w w'
set_option maxRecDepth 8000 in
set_option maxHeartbeats 4000000 in
theorem drawLift_c (A : Option Addr) (n cap : Nat) (w : World) (hd : DrawIn w w.heap.size A n) : Calls Tryz.prog 17 #[.slice A n cap] w (LiftDraw w) := by
  have H := Lib.hid (new_any A n cap w hd)
  have HD := Lib.hid hd
  clear hd
  go_enter Tryz.func17, Tryz.ntmps17
  go_wp2_with fail
  refine H.out.mono ?_
  rintro e w1 ⟨h, rfl, rfl⟩
  have HC0 := Lib.hid (curs_new (cap := cap) (h := h) HD.out)
  clear H HD
  go_wp2_with fail
  refine (any9_c HC0.out).mono ?_
  rintro e w2 ⟨id, rfl, _, hc2⟩
  have HC2 := Lib.hid hc2
  have HCu := Lib.hid (l09Curve_any id)
  have HFd := Lib.hid (cv_field id)
  have HSz := Lib.hid (cvPT_size id)
  clear hc2 HC0
  generalize cvC id = C at *
  generalize cvPT id = tp at *
  go_wp2_with fail
  refine (HCu.out _).mono ?_
  rintro e w3 ⟨rfl, b3⟩
  have HC3 := Lib.hid (HC2.out.below b3)
  have hf := HFd.out w3
  clear b3 HC2 HCu
  go_wp2_with fail
  refine (rest_c tp HSz.out HC3.out.start).mono ?_
  rintro e w4 ⟨x, rfl, _, hc4⟩
  have HC4 := Lib.hid (HC3.out.trans hc4)
  clear hc4 HC3 hf
  go_wp2_with fail
  refine (once_c HC4.out.start 2 (by omega) (by omega)).mono ?_
  rintro e w5 ⟨gr, rfl, hc5⟩
  have HB := Lib.hid (HC4.out.trans hc5).belowOf
  clear hc5 HC4
  go_wp2
  go_ret3
  exact ⟨id, x, gr, rfl, HB.out⟩
end Go.Proofs.YtkmmlfocidfghaaGreat
