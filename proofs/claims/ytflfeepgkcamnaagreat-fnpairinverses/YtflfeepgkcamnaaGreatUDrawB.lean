/-
  The draws of spec's chapter 7 that FnPairInverses takes: one pair; a pair and a power.
-/
import Derived.Test.YtflfeepgkcamnaaGreatSeqP
namespace Go.Proofs.YtflfeepgkcamnaaGreat
open Go.RowKit

def OneP7 (w : World) (e : Ending) (w' : World) : Prop := ∃ (x : Pt) (p : ByteArray), e = .returned (.tuple #[.agg (aggT x), .string p]) ∧ smallP x ∧ p.size ≤ 950 ∧ Below w.heap.size w w'
set_option maxRecDepth 8000 in
set_option maxHeartbeats 4000000 in
theorem one7_c (A : Option Addr) (n cap : Nat) (w : World) (hd : DrawIn w w.heap.size A n) : Calls Tryz.prog 16 #[.slice A n cap] w (OneP7 w) := by
  have HG0 := Lib.hid (begun1 (Held.none w) #[.string ⟨#[]⟩, .string ⟨#[]⟩] 25)
  have HD := Lib.hid (hd.on HG0.out.b)
  clear hd
  go_enter Tryz.func16, Tryz.ntmps16
  go_wp2_with fail
  generalize w.alloc (.cells #[.string ⟨#[]⟩, .string ⟨#[]⟩] 25) = w1 at *
  refine (two7_c A n cap w1 HD.out).mono ?_
  rintro e w2 ⟨x, y, p, rfl, sx, sy, sp, b2⟩
  have HG2 := Lib.hid (HG0.out.on b2)
  have HX2 := Lib.hid (heap_alloc2_old w2 (.cells #[.string ⟨#[]⟩, .string ⟨#[]⟩] 25) (.cells #[.string ⟨#[]⟩, .string ⟨#[]⟩] 25))
  have HO2 := Lib.hid (heap_alloc2_new w2 (.cells #[.string ⟨#[]⟩, .string ⟨#[]⟩] 25) (.cells #[.string ⟨#[]⟩, .string ⟨#[]⟩] 25))
  have HL := Lib.hid (two_laid (w := w2) (C' := aggT x) (D' := aggT y) HX2.out HO2.out (((Below.refl w2.heap.size w2).alloc (Nat.le_refl _) (.cells #[.string ⟨#[]⟩, .string ⟨#[]⟩] 25)).alloc (by simp) (.cells #[.string ⟨#[]⟩, .string ⟨#[]⟩] 25)) (Nat.le_refl _))
  have HG3 := Lib.hid (HG2.out.on HL.out.2.2.2)
  have HE := Lib.hid (HG3.out.put (Nat.le_refl _) (aggT x))
  have HS := Lib.hid (And.intro sx sp)
  clear b2 sx sy sp HG0 HG2 HD
  go_wp2_with (first | refine store_p rfl (.tmp 4) (.tmp 10) rfl w2.heap.size _ x rfl rfl HX2.out rfl ?_ | refine store_p rfl (.tmp 5) (.tmp 11) rfl (w2.heap.size + 1) _ y rfl rfl HL.out.1 rfl ?_ | refine load_p rfl (.tmp 4) rfl w2.heap.size x rfl HL.out.2.1 ?_ | refine store_p rfl (.tmp 2) (.tmp 13) rfl w.heap.size _ x rfl rfl HG3.out.out rfl ?_)
  exact bodyPost_ret (resP HE.out.out rfl Tryz.results16 _ rfl) rfl ⟨x, p, rfl, HS.out.1, HS.out.2, HE.out.b⟩
set_option maxRecDepth 8000 in
set_option maxHeartbeats 4000000 in
theorem drawInversePair_c (A : Option Addr) (n cap : Nat) (w : World) (hd : DrawIn w w.heap.size A n) : Calls Tryz.prog 5 #[.slice A n cap] w (OneP7 w) := by
  have HG0 := Lib.hid (begun1 (Held.none w) #[.string ⟨#[]⟩, .string ⟨#[]⟩] 25)
  have HD := Lib.hid (hd.on HG0.out.b)
  clear hd
  go_enter Tryz.func5, Tryz.ntmps5
  go_wp2_with fail
  generalize w.alloc (.cells #[.string ⟨#[]⟩, .string ⟨#[]⟩] 25) = w1 at *
  refine (one7_c A n cap w1 HD.out).mono ?_
  rintro e w2 ⟨x, p, rfl, sx, sp, b2⟩
  have HG2 := Lib.hid (HG0.out.on b2)
  have HE := Lib.hid (HG2.out.put (Nat.le_refl _) (aggT x))
  have HS := Lib.hid (And.intro sx sp)
  clear b2 sx sp HG0 HD
  go_wp2_with (first | refine store_p rfl (.tmp 2) (.tmp 6) rfl w.heap.size _ x rfl rfl HG2.out.out rfl ?_)
  exact bodyPost_ret (resP HE.out.out rfl Tryz.results5 _ rfl) rfl ⟨x, p, rfl, HS.out.1, HS.out.2, HE.out.b⟩
end Go.Proofs.YtflfeepgkcamnaaGreat
