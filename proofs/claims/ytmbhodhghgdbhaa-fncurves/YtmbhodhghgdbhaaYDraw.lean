import Derived.Test.YtmbhodhghgdbhaaYCurve
import Derived.Test.YtmbhodhghgdbhaaGDraw
namespace Go.Proofs.Ytmbhodhghgdbhaa
open Go.RowKit
def CvPost (w : World) (e : Ending) (w' : World) : Prop := ∃ x : Int, e = .returned (.int .i64 x) ∧ Below w.heap.size w w'
set_option maxRecDepth 8000 in
set_option maxHeartbeats 4000000 in
theorem drawCurveOf_c (A : Option Addr) (n cap : Nat) (w : World) (hd : DrawIn w w.heap.size A n) : Calls Try.prog 11 #[.slice A n cap] w (CvPost w) := by
  have H := Lib.hid (new_any A n cap w hd)
  have HD := Lib.hid hd
  clear hd
  go_enter Try.func11, Try.ntmps11
  go_wp2_with fail
  refine H.out.mono ?_
  rintro e w1 ⟨h, rfl, rfl⟩
  have HC0 := Lib.hid (curs_new (cap := cap) (h := h) HD.out)
  clear H HD
  go_wp2_with fail
  have hlt : w.heap.size < (w.alloc (.cells #[.slice A n cap, .int .i64 0, .int .i64 h] 76)).heap.size := by simp
  have hs : (w.alloc (.cells #[.slice A n cap, .int .i64 0, .int .i64 h] 76)).heap.size = w.heap.size + 1 := by simp
  have HP := pickInt_new HC0.out hlt [.int .i64 1, .int .i64 2, .int .i64 3, .int .i64 4, .int .i64 0, .int .i64 5, .int .i64 (-1), .int .i64 9223372036854775807] 3 (by decide) (by simp) (by simp)
  simp only [List.length_cons, List.length_nil, Nat.zero_add, Nat.reduceAdd, hs] at HP
  refine HP.mono ?_
  rintro e w2 ⟨y, rfl, _, hc2⟩
  have HB := Lib.hid hc2.belowOf
  clear hc2 HC0 HP hlt hs
  go_wp2
  go_ret
  exact ⟨y, rfl, HB.out⟩
end Go.Proofs.Ytmbhodhghgdbhaa
