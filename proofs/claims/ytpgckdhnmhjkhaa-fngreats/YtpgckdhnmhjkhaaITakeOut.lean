/-
  The contract of impl's takeOut: one limb of the quotient.
-/
import Derived.Test.YtpgckdhnmhjkhaaITake
import Derived.Test.YtpgckdhnmhjkhaaIGuess
namespace Go.Proofs.Ytpgckdhnmhjkhaa
open Go.RowKit

theorem Two.same {w w' : World} {gu gv cu n : Nat} {U v : List Nat} (h : Two w w gu gv U cu v n) (s : Same w w') : Two w w' gu gv U cu v n :=
  ⟨h.u.other (by rw [s.heap]), h.v.other (by rw [s.heap]), h.ne, ⟨s.os, s.tape, s.output, by rw [s.heap]; exact Nat.le_refl _, fun i _ _ => by rw [s.heap]⟩⟩
theorem Two.trans {w w1 w2 : World} {gu gv cu n : Nat} {U v Q : List Nat} (h : Two w w1 gu gv U cu v n) (k : Two w1 w2 gu gv Q cu v n) : Two w w2 gu gv Q cu v n :=
  ⟨k.u, k.v, k.ne, ⟨k.g.os.trans h.g.os, k.g.tape.trans h.g.tape, k.g.output.trans h.g.output, Nat.le_trans h.g.size k.g.size, fun i hi hr => (k.g.block i (Nat.lt_of_lt_of_le hi h.g.size) hr).trans (h.g.block i hi hr)⟩⟩
theorem Two.start {w w' : World} {gu gv cu n : Nat} {U v : List Nat} (h : Two w w' gu gv U cu v n) : Two w' w' gu gv U cu v n := Two.refl h.u h.v h.ne
def OutPost (gu gv cu n at_ : Nat) (U v : List Nat) (w : World) (e : Ending) (w' : World) : Prop :=
  ∃ R g, g < 4294967296 ∧ W.D.Left1 U v at_ g R ∧ e = .returned (.int .u32 (g : Int)) ∧ Two w w' gu gv R cu v n

set_option maxRecDepth 8000 in
set_option maxHeartbeats 2000000 in
theorem takeOut_any (gu gv cu n at_ u0 m : Nat) (U v q : List Nat) (w : World) (hT : Two w w gu gv U cu v n) (d : W.D.Dvr v n) (r : W.D.DivRel u0 v n (at_ + 1) m U q) (hat : at_ + n < 81) :
    Calls Try.prog 71 #[.pointer (some ⟨gu, 0, none⟩), .pointer (some ⟨gv, 0, none⟩), .int .i64 (at_ : Int)] w (OutPost gu gv cu n at_ U v w) := by
  have HG := Lib.hid (guessLimb_any gu gv cu n at_ _ _ _ U v w hT.u hT.v d.two hat (W.D.top_of d r) r.lU)
  have HT := Lib.hid hT
  have HD := Lib.hid d
  have HR := Lib.hid r
  clear hT d r
  go_enter Try.func71, Try.ntmps71
  go_wp2_with fail
  refine HG.out.mono ?_
  rintro e w1 ⟨g, hg, g1, g2, rfl, hS⟩
  have T1 := HT.out.same hS
  have HT1 := Lib.hid T1
  have HTk := Lib.hid (takeTimes_any gu gv cu n at_ g U v w1 T1.start HR.out.lU HD.out.lv HD.out.zv hat hg)
  have G1 := Lib.hid g1
  have G2 := Lib.hid g2
  clear HG hS T1 HT g1 g2
  go_wp2_with fail
  refine HTk.out.mono ?_
  rintro e w2 ⟨Q, br, hM, hbr, rfl, T2⟩
  have HT2 := Lib.hid (HT1.out.trans T2)
  have HM := Lib.hid hM
  clear HTk HT1 hM
  by_cases h0 : br = 0
  · subst h0
    have hq : ((((0 : Nat) : Int)) != 0) = false := rfl
    have HL := Lib.hid (W.D.step_right HD.out HR.out HM.out G1.out)
    clear T2
    go_wp2
    go_ret
    exact ⟨Q, g, hg, HL.out.2, rfl, HT2.out⟩
  · have hq : ((br : Int) != 0) = true := by simpa using h0
    have HB := Lib.hid (addBack_any gu gv cu n at_ Q v w2 T2.start HM.out.1 HD.out.lv HD.out.zv hat)
    have hb0 : 0 < br := by omega
    have hge : 1 ≤ g := by
      have a := HM.out.2.2.2.1
      omega
    obtain ⟨g', hg'⟩ : ∃ g', g - 1 = g' := ⟨_, rfl⟩
    have w1' : IntKind.u32.wrap ((g : Int) - 1) = (g' : Int) := by rw [IntKind.wrap_u32]; omega
    have w2' : ((g : Int) - 1) % 4294967296 = (g' : Int) := by omega
    have HG' := Lib.hid hg'
    clear T2 h0 hg'
    go_wp2_with fail
    refine HB.out.mono ?_
    rintro e w3 ⟨R, ⟨c, hA⟩, rfl, T3⟩
    have HT3 := Lib.hid (HT2.out.trans T3)
    have HL := Lib.hid (W.D.step_back HD.out HR.out HM.out hb0 G2.out hA)
    clear T3 hA HB
    go_wp2
    go_ret
    exact ⟨R, g', by have := HG'.out; omega, by rw [← HG'.out]; exact HL.out.2, rfl, HT3.out⟩
end Go.Proofs.Ytpgckdhnmhjkhaa
