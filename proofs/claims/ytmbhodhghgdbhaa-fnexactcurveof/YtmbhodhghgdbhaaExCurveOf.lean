/-
  Proved: for every int laws.FnExactCurveOf returns true: impl.CurveOf answers as its model. Conditions: none.
-/
import Derived.Test.YtmbhodhghgdbhaaRows
import Derived.WalkKit
import Derived.ProofKit
import Derived.OpenShut
import Derived.ShutString
import Derived.ChangeOld
import Derived.Below
import Derived.Test.YtmbhodhghgdbhaaYImpl
import Derived.Test.YtmbhodhghgdbhaaYEq
namespace Go.Proofs.Ytmbhodhghgdbhaa.fnExactCurveOf
open Go.ChangeShapes Go.WideShapes Go.ChangeAt Go.RowKit
open Go.ChangeMaps (open_string shut_string)
set_option linter.unusedVariables false
set_option maxRecDepth 8000 in
set_option maxHeartbeats 4000000 in
theorem walk (a0 : Int) (w : World) (_w0 : (Lit.int .i64 a0).wf = true) :
    Calls Try.prog 4 #[.int .i64 a0] w fun e w' => e = .returned (.bool true) ∧ Below w.heap.size w w' := by
  have HS := Lib.hid (curveOf_any a0)
  have HI := Lib.hid (curveOf_i a0)
  have HC := Lib.hid (cv_in a0)
  have HE := Lib.hid (eqCurve_same a0)
  generalize cvC a0 = C at *
  generalize cvB a0 = v0 at *
  have q0 : (v0 != v0) = false := by simp
  go_enter Try.func4, Try.ntmps4
  go_wp2_with fail
  refine (HS.out _).mono ?_
  rintro e w1 ⟨rfl, b1⟩
  have V := Lib.hid (cv_var' w1 HC.out.size)
  have HB := Lib.hid (bt b1 V.out.b)
  clear b1 HS
  go_wp2_with (first | refine cv_store rfl (.tmp 3) (.tmp 10) rfl w1.heap.size cv0 C rfl rfl V.out.at0 rfl HC.out.size HC.out.one ?_)
  have HX := Lib.hid V.out.at1
  clear V
  generalize (w1.alloc _).setRow _ _ = w2 at *
  generalize w1.heap.size = g at *
  refine (HI.out _).mono ?_
  rintro e w3 ⟨rfl, b3⟩
  have HX3 := Lib.hid (stays b3 HX.out)
  have V := Lib.hid (cv_var' w3 HC.out.size)
  have HX4 := Lib.hid (stays V.out.b HX3.out)
  have HB3 := Lib.hid (bt (bt HB.out b3) V.out.b)
  clear b3 HI HB HX HX3
  go_wp2_with (first | refine cv_store rfl (.tmp 5) (.tmp 15) rfl w3.heap.size cv0 C rfl rfl V.out.at0 rfl HC.out.size HC.out.one ?_ | refine load_v rfl 28 (.tmp 5) rfl w3.heap.size C rfl V.out.at1 Try.underlying28 rfl (by rw [HC.out.size]; exact Try.infoCv) ?_ | refine load_v rfl 28 (.tmp 3) rfl g C rfl HX4.out Try.underlying28 rfl (by rw [HC.out.size]; exact Try.infoCv) ?_)
  refine (HE.out _).mono ?_
  rintro e w5 ⟨rfl, b5⟩
  have HB5 := Lib.hid (bt HB3.out b5)
  clear b5 HE HB3 HX4 V
  go_wp2
  go_ret
  exact ⟨rfl, HB5.out⟩

theorem own : ownKnob Try.prog.godebug = none := by kernel_rfl
theorem laidOut : laidOutB Try.prog = true := by kernel_rfl
set_option maxRecDepth 100000 in
theorem lifted (os : Os) (started : os.Started) (H : Type) (enc : TypeId × Value → H) :
    ReturnsInHanded {} Try.checked os 4 .any (Rows.fnExactCurveOfSpec.pre6 enc Try.prog Try.f4 Rows.fnExactCurveOfRow.domain false) (Rows.fnExactCurveOfSpec.post enc Try.prog Try.f4 false true false false) := by
  refine returnsInHanded_of_change (C := Try.checked) own started (by kernel_rfl) Try.func4
    (ChangeSpec.witness6 (enc := enc) (C := Try.checked) false ⟨#[], #[.int .i64 0], []⟩ 8 (by kernel_rfl) (by kernel_rfl) (by kernel_rfl) (by kernel_rfl)) ?_
  intro W base args ds gs before hval0 hW hcnd _
  have hval : ∀ (j : Nat) t v, Try.f4.params[j]? = some t → args[j]? = some v → Value.okWide Try.prog W .any base t v := hval0
  have hW' := hW
  obtain ⟨p, q, hA0, hV, rfl, hfz, hnd⟩ := hW
  have hA : DataW.TrodAll enc Try.prog W 0 (fun _ => true) true Try.f4.params.toList args.toList ds p := hA0
  rw [Try.params4] at hA hval
  obtain ⟨v0, vs0, d0, ds0, p0, q0, hargs, rfl, rfl, h0, r0⟩ := trodAll_cons hA
  obtain ⟨rfl, rfl, rfl⟩ := trodAll_nil r0
  obtain rfl : args = #[v0] := by cases args; simp_all
  obtain ⟨rfl, rfl⟩ := trodVars_none hV
  obtain ⟨a0, rfl, rfl, rfl, w0⟩ := open_int Try.underlying3 (hval 0 3 v0 rfl rfl) h0
  clear hA0 hval0
  simp only [List.append_nil] at hW'
  refine (walk a0 W w0).mono fun e W' ⟨he, bel⟩ => ?_
  subst he
  exact ⟨_, rfl, _, _, _, [], [], [], hW', trodAll_mk1 (shut_bool Try.underlying4 _), (trodAll_cons_mk (shut_int Try.underlying3 w0) trodAll_mk0), rfl, bel.frame _, fun h => by cases h⟩

theorem over : Rows.fnExactCurveOfRow.holds Try.pinned (OpenSpec.ofChange Rows.fnExactCurveOfSpec) :=
  OpenClaim.holds_of_wide 4 Try.f4 rfl rfl rfl rfl rfl rfl rfl ⟨rfl, rfl, rfl, rfl, rfl⟩ rfl rfl rfl rfl rfl (by kernel_rfl) Try.func4 (by kernel_rfl)
    (of_decide_eq_true (by kernel_rfl)) (by unfold Func.isWrapper; first | (rw [if_pos (by decide +kernel)]; kernel_rfl) | (rw [if_neg (by decide +kernel)]; exact ⟨rfl, rfl⟩))
    (fun os started H enc _ => lifted os started H enc)

theorem proved : Rows.FnExactCurveOfSaid := over
end Go.Proofs.Ytmbhodhghgdbhaa.fnExactCurveOf
