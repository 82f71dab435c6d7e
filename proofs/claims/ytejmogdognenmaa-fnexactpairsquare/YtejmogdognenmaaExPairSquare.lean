/-
  Proved: for every pair of texts and every text laws.FnExactPairSquare returns true: impl.PairSquare answers as its model. Conditions: none.
-/
import Derived.Test.YtejmogdognenmaaRows
import Derived.WalkKit
import Derived.ProofKit
import Derived.OpenShut
import Derived.ShutString
import Derived.ChangeOld
import Derived.Below
import Derived.Lib.SmallJoins
import Derived.Test.YtejmogdognenmaaXPairs
import Derived.Test.YtejmogdognenmaaVImpl
namespace Go.Proofs.Ytejmogdognenmaa.fnExactPairSquare
open Go.ChangeShapes Go.WideShapes Go.ChangeAt Go.RowKit
open Go.ChangeMaps (open_string shut_string)
set_option linter.unusedVariables false
set_option maxRecDepth 8000 in
set_option maxHeartbeats 4000000 in
theorem walk (a0a a0b a1 : ByteArray) (w : World) (w0a : a0a.size ≤ maxLen) (w0b : a0b.size ≤ maxLen) (w1 : a1.size ≤ maxLen) :
    Calls Try.prog 5 #[.agg #[.string a0a, .string a0b], .string a1] w fun e w' => e = .returned (.bool true) ∧ Below w.heap.size w w' := by
  unfold maxLen at w0a w0b w1
  obtain ⟨x, hx⟩ : ∃ x : Pt, (a0a, a0b) = x := ⟨_, rfl⟩
  have hv : Value.agg #[.string a0a, .string a0b] = .agg (aggT x) := by rw [← hx]; rfl
  have k1 : x.1.size ≤ 9223372036854775807 := by rw [← hx]; exact w0a
  have k2 : x.2.size ≤ 9223372036854775807 := by rw [← hx]; exact w0b
  rw [hv]
  clear hv hx w0a w0b
  have HN := Lib.hid (agg_new w x 24)
  by_cases ha1 : 1048576 < a1.size
  · have hda1 : decide ((1048576 : Int) < (a1.size : Int)) = true := by simp; omega
    clear k1 k2
    go_enter Try.func5, Try.ntmps5
    go_wp2
    go_ret
    exact ⟨rfl, HN.out.2⟩
  have hda1 : decide ((1048576 : Int) < (a1.size : Int)) = false := by simp; omega
  have HZ := Lib.hid (fun w => szPair_any x 1048576 w (by omega) k1 k2)
  have HT := Lib.hid (toPair_any x)
  have HS := Lib.hid (pairSquare_any x a1)
  have HI := Lib.hid (pairSquare_i x a1)
  obtain ⟨z, hz⟩ : ∃ z, szG x 1048576 = z := ⟨_, rfl⟩
  rw [hz] at HZ
  generalize psqB x a1 = r0 at *
  clear hz k1 k2
  go_enter Try.func5, Try.ntmps5
  go_wp2_with (first | refine load_v rfl 24 (.tmp 2) rfl w.heap.size (aggT x) rfl HN.out.1 Try.underlying24 rfl Try.infoLP ?_)
  generalize w.alloc _ = w0 at *
  refine (HZ.out _).mono ?_
  rintro e w1 ⟨rfl, b1⟩
  have HX1 := Lib.hid (stays b1 HN.out.1)
  have B1 := Lib.hid (bt HN.out.2 b1)
  clear b1 HN HZ
  by_cases hz : z < 0
  · go_wp2
    go_ret
    exact ⟨rfl, B1.out⟩
  go_wp2_with (first | refine load_v rfl 24 (.tmp 2) rfl w.heap.size (aggT x) rfl HX1.out Try.underlying24 rfl Try.infoLP ?_)
  refine (HT.out _).mono ?_
  rintro e w2 ⟨rfl, b2⟩
  have HX2 := Lib.hid (stays b2 HX1.out)
  have B2 := Lib.hid (bt B1.out b2)
  clear b2 HX1 B1
  go_wp2_with fail
  refine (HS.out _).mono ?_
  rintro e w3 ⟨rfl, b3⟩
  have HX3 := Lib.hid (stays b3 HX2.out)
  have B3 := Lib.hid (bt B2.out b3)
  clear b3 HX2 B2 HS
  have q0 : (r0 != r0) = false := by simp
  go_wp2_with (first | refine load_v rfl 24 (.tmp 2) rfl w.heap.size (aggT x) rfl HX3.out Try.underlying24 rfl Try.infoLP ?_)
  have HX4 := HX3
  have B4 := B3
  refine (HT.out _).mono ?_
  rintro e w5 ⟨rfl, b5⟩
  have B5 := Lib.hid (bt B4.out b5)
  clear b5 HX4 B4
  go_wp2_with fail
  refine (HI.out _).mono ?_
  rintro e w6 ⟨rfl, b6⟩
  have B6 := Lib.hid (bt B5.out b6)
  clear HI HT B5
  clear b6
  go_wp2
  go_ret
  exact ⟨rfl, B6.out⟩

theorem own : ownKnob Try.prog.godebug = none := by kernel_rfl
theorem laidOut : laidOutB Try.prog = true := by kernel_rfl
set_option maxRecDepth 100000 in
theorem lifted (os : Os) (started : os.Started) (H : Type) (enc : TypeId × Value → H) :
    ReturnsInHanded {} Try.checked os 5 .any (Rows.fnExactPairSquareSpec.pre6 enc Try.prog Try.f5 Rows.fnExactPairSquareRow.domain false) (Rows.fnExactPairSquareSpec.post enc Try.prog Try.f5 false true false false) := by
  refine returnsInHanded_of_change (C := Try.checked) own started (by kernel_rfl) Try.func5
    (ChangeSpec.witness6 (enc := enc) (C := Try.checked) false ⟨#[], #[.agg #[.string ByteArray.empty, .string ByteArray.empty], .string ByteArray.empty], []⟩ 8 (by kernel_rfl) (by kernel_rfl) (by kernel_rfl) (by kernel_rfl)) ?_
  intro W base args ds gs before hval0 hW hcnd _
  have hval : ∀ (j : Nat) t v, Try.f5.params[j]? = some t → args[j]? = some v → Value.okWide Try.prog W .any base t v := hval0
  have hW' := hW
  obtain ⟨p, q, hA0, hV, rfl, hfz, hnd⟩ := hW
  have hA : DataW.TrodAll enc Try.prog W 0 (fun _ => true) true Try.f5.params.toList args.toList ds p := hA0
  rw [Try.params5] at hA hval
  obtain ⟨v0, vs0, d0, ds0, p0, q0, hargs, rfl, rfl, h0, r0⟩ := trodAll_cons hA
  obtain ⟨v1, vs1, d1, ds1, p1, q1, rfl, rfl, rfl, h1, r1⟩ := trodAll_cons r0
  obtain ⟨rfl, rfl, rfl⟩ := trodAll_nil r1
  obtain rfl : args = #[v0, v1] := by cases args; simp_all
  obtain ⟨rfl, rfl⟩ := trodVars_none hV
  obtain ⟨c0a, c0b, y0a, y0b, m0, rfl, rfl, rfl, hy0a, hy0b⟩ := Go.Joins.open_agg2 Try.underlying24 (by kernel_rfl) (show Try.prog.cellsOf 24 = 2 by kernel_rfl) (hval 0 24 v0 rfl rfl) h0
  obtain ⟨a0a, e0a, rfl, w0a⟩ := DataW.trod_string Try.underlying9 hy0a
  obtain ⟨a0b, e0b, rfl, w0b⟩ := DataW.trod_string Try.underlying9 hy0b
  simp only [List.cons.injEq, and_true] at e0a e0b
  subst e0a e0b
  obtain ⟨a1, rfl, rfl, rfl, w1⟩ := open_string Try.underlying9 (hval 1 9 v1 rfl rfl) h1
  clear hA0 hval0
  simp only [List.append_nil] at hW'
  refine (walk a0a a0b a1 W w0a w0b w1).mono fun e W' ⟨he, bel⟩ => ?_
  subst he
  exact ⟨_, rfl, _, _, _, [], [], [], hW', trodAll_mk1 (shut_bool Try.underlying4 _), (trodAll_cons_mk (Go.Joins.shut_agg2 (y0 := (.lit (.string a0a.data.toList), [])) (y1 := (.lit (.string a0b.data.toList), [])) Try.underlying24 (by kernel_rfl) (show Try.prog.cellsOf 24 = 2 by kernel_rfl) ⟨1, by simp [DataW.trod, Try.underlying9, w0a]⟩ ⟨1, by simp [DataW.trod, Try.underlying9, w0b]⟩) (trodAll_cons_mk (shut_string Try.underlying9 w1) trodAll_mk0)), rfl, bel.frame _, fun h => by cases h⟩

theorem over : Rows.fnExactPairSquareRow.holds Try.pinned (OpenSpec.ofChange Rows.fnExactPairSquareSpec) :=
  OpenClaim.holds_of_wide 5 Try.f5 rfl rfl rfl rfl rfl rfl rfl ⟨rfl, rfl, rfl, rfl, rfl⟩ rfl rfl rfl rfl rfl (by kernel_rfl) Try.func5 (by kernel_rfl)
    (of_decide_eq_true (by kernel_rfl)) (by unfold Func.isWrapper; first | (rw [if_pos (by decide +kernel)]; kernel_rfl) | (rw [if_neg (by decide +kernel)]; exact ⟨rfl, rfl⟩))
    (fun os started H enc _ => lifted os started H enc)

theorem proved : Rows.FnExactPairSquareSaid := over
end Go.Proofs.Ytejmogdognenmaa.fnExactPairSquare
