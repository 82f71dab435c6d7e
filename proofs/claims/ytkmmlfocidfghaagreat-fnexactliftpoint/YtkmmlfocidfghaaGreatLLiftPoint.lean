/-
  Proved: for every int, every text and every flag laws.FnExactLiftPoint returns true: impl.LiftPoint answers as its model. Conditions: none.
-/
import Derived.Test.YtkmmlfocidfghaaGreatRows
import Derived.WalkKit
import Derived.ProofKit
import Derived.OpenShut
import Derived.ShutString
import Derived.ChangeOld
import Derived.Below
import Derived.Test.YtkmmlfocidfghaaGreatZPtX
import Derived.Test.YtkmmlfocidfghaaGreatZPz
namespace Go.Proofs.YtkmmlfocidfghaaGreat.fnExactLiftPoint
open Go.ChangeShapes Go.WideShapes Go.ChangeAt Go.RowKit
open Go.ChangeMaps (open_string shut_string)
set_option linter.unusedVariables false
set_option maxRecDepth 8000 in
set_option maxHeartbeats 4000000 in
theorem walk (a0 : Int) (a1 : ByteArray) (a2 : Bool) (w : World) (_w0 : (Lit.int .i64 a0).wf = true) (w1 : a1.size ≤ maxLen) :
    Calls Tryz.prog 5 #[.int .i64 a0, .string a1, .bool a2] w fun e w' => e = .returned (.bool true) ∧ Below w.heap.size w w' := by
  unfold maxLen at w1
  by_cases h1 : 1048576 < a1.size
  · have hd : decide ((1048576 : Int) < (a1.size : Int)) = true := by simp; omega
    go_enter Tryz.func5, Tryz.ntmps5
    go_wp2
    go_ret
    exact ⟨rfl, Below.refl _ _⟩
  have hd : decide ((1048576 : Int) < (a1.size : Int)) = false := by simp; omega
  have HSp := Lib.hid (liftPoint_any a0 a1 a2)
  have HIm := Lib.hid (liftPoint_i a0 a1 a2)
  have HG := Lib.hid (show Stand w w [] from ⟨Held.none w, Below.refl _ _⟩)
  generalize liftG a0 a1 a2 = r at *
  generalize liftB a0 a1 a2 = v0 at *
  have q0 : (v0 != v0) = false := by simp
  go_enter Tryz.func5, Tryz.ntmps5
  go_wp2_with fail
  refine (HSp.out _).mono ?_
  rintro e w2 ⟨rfl, b2⟩
  replace HG := Lib.hid (HG.out.on b2)
  have HN := Lib.hid (heap_alloc_new w2 (.cells #[.bool false, .string ⟨#[]⟩, .string ⟨#[]⟩] 25))
  replace HG := Lib.hid ((HG.out.new #[.bool false, .string ⟨#[]⟩, .string ⟨#[]⟩] 25).putAt HG.out.b.size HG.out.h.apart (tpT r))
  clear b2 HSp
  go_wp2_with (first | refine store_v rfl 25 (.tmp 7) (.tmp 19) rfl w2.heap.size _ (tpT r) rfl rfl HN.out Tryz.infoPoint rfl (by kernel_rfl) ?_)
  clear HN
  generalize (w2.alloc _).setRow _ _ = w3 at *
  generalize w2.heap.size = g at *
  refine (HIm.out _).mono ?_
  rintro e w4 ⟨rfl, b4⟩
  replace HG := Lib.hid (HG.out.on b4)
  have HN := Lib.hid (heap_alloc_new w4 (.cells #[.bool false, .string ⟨#[]⟩, .string ⟨#[]⟩] 25))
  replace HG := Lib.hid ((HG.out.new #[.bool false, .string ⟨#[]⟩, .string ⟨#[]⟩] 25).putAt HG.out.b.size HG.out.h.apart (tpT r))
  clear b4 HIm
  go_wp2_with (first | refine store_v rfl 25 (.tmp 9) (.tmp 26) rfl w4.heap.size _ (tpT r) rfl rfl HN.out Tryz.infoPoint rfl (by kernel_rfl) ?_ | refine load_v rfl 25 (.tmp 9) rfl w4.heap.size (tpT r) rfl (HG.out.h _ (.head _)) Tryz.underlying25 rfl Tryz.infoPoint ?_ | refine load_v rfl 25 (.tmp 7) rfl g (tpT r) rfl (HG.out.h _ (.tail _ (.head _))) Tryz.underlying25 rfl Tryz.infoPoint ?_)
  refine (eqPoint_same r _).mono ?_
  rintro e w6 ⟨rfl, b6⟩
  replace HG := Lib.hid (HG.out.on b6)
  clear b6 HN
  go_wp2
  go_ret
  exact ⟨rfl, HG.out.b⟩

theorem own : ownKnob Tryz.prog.godebug = none := by kernel_rfl
theorem laidOut : laidOutB Tryz.prog = true := by kernel_rfl
set_option maxRecDepth 100000 in
theorem lifted (os : Os) (started : os.Started) (H : Type) (enc : TypeId × Value → H) :
    ReturnsInHanded {} Tryz.checked os 5 .any (Rows.fnExactLiftPointSpec.pre6 enc Tryz.prog Tryz.f5 Rows.fnExactLiftPointRow.domain false) (Rows.fnExactLiftPointSpec.post enc Tryz.prog Tryz.f5 false true false false) := by
  refine returnsInHanded_of_change (C := Tryz.checked) own started (by kernel_rfl) Tryz.func5
    (ChangeSpec.witness6 (enc := enc) (C := Tryz.checked) false ⟨#[], #[.int .i64 0, .string ByteArray.empty, .bool false], []⟩ 8 (by kernel_rfl) (by kernel_rfl) (by kernel_rfl) (by kernel_rfl)) ?_
  intro W base args ds gs before hval0 hW hcnd _
  have hval : ∀ (j : Nat) t v, Tryz.f5.params[j]? = some t → args[j]? = some v → Value.okWide Tryz.prog W .any base t v := hval0
  have hW' := hW
  obtain ⟨p, q, hA0, hV, rfl, hfz, hnd⟩ := hW
  have hA : DataW.TrodAll enc Tryz.prog W 0 (fun _ => true) true Tryz.f5.params.toList args.toList ds p := hA0
  rw [Tryz.params5] at hA hval
  obtain ⟨v0, vs0, d0, ds0, p0, q0, hargs, rfl, rfl, h0, r0⟩ := trodAll_cons hA
  obtain ⟨v1, vs1, d1, ds1, p1, q1, rfl, rfl, rfl, h1, r1⟩ := trodAll_cons r0
  obtain ⟨v2, vs2, d2, ds2, p2, q2, rfl, rfl, rfl, h2, r2⟩ := trodAll_cons r1
  obtain ⟨rfl, rfl, rfl⟩ := trodAll_nil r2
  obtain rfl : args = #[v0, v1, v2] := by cases args; simp_all
  obtain ⟨rfl, rfl⟩ := trodVars_none hV
  obtain ⟨a0, rfl, rfl, rfl, w0⟩ := open_int Tryz.underlying3 (hval 0 3 v0 rfl rfl) h0
  obtain ⟨a1, rfl, rfl, rfl, w1⟩ := open_string Tryz.underlying9 (hval 1 9 v1 rfl rfl) h1
  obtain ⟨a2, rfl, rfl, rfl⟩ := open_bool Tryz.underlying4 (hval 2 4 v2 rfl rfl) h2
  clear hA0 hval0
  simp only [List.append_nil] at hW'
  refine (walk a0 a1 a2 W w0 w1).mono fun e W' ⟨he, bel⟩ => ?_
  subst he
  exact ⟨_, rfl, _, _, _, [], [], [], hW', trodAll_mk1 (shut_bool Tryz.underlying4 _), (trodAll_cons_mk (shut_int Tryz.underlying3 w0) (trodAll_cons_mk (shut_string Tryz.underlying9 w1) (trodAll_cons_mk (shut_bool Tryz.underlying4 a2) trodAll_mk0))), rfl, bel.frame _, fun h => by cases h⟩

theorem over : Rows.fnExactLiftPointRow.holds Tryz.pinned (OpenSpec.ofChange Rows.fnExactLiftPointSpec) :=
  OpenClaim.holds_of_wide 5 Tryz.f5 rfl rfl rfl rfl rfl rfl rfl ⟨rfl, rfl, rfl, rfl, rfl⟩ rfl rfl rfl rfl rfl (by kernel_rfl) Tryz.func5 (by kernel_rfl)
    (of_decide_eq_true (by kernel_rfl)) (by unfold Func.isWrapper; first | (rw [if_pos (by decide +kernel)]; kernel_rfl) | (rw [if_neg (by decide +kernel)]; exact ⟨rfl, rfl⟩))
    (fun os started H enc _ => lifted os started H enc)

theorem proved : Rows.FnExactLiftPointSaid := over
end Go.Proofs.YtkmmlfocidfghaaGreat.fnExactLiftPoint
