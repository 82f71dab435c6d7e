/-
  Proved: for every text laws.FnExactPartsOf returns true: impl.PartsOf answers as its model, and its answer owns its memory. Conditions: none.
-/
import Derived.Test.YtbncjdieilcjjaaRows
import Derived.WalkKit
import Derived.ProofKit
import Derived.OpenShut
import Derived.ShutString
import Derived.ChangeOld
import Derived.Below
import Derived.Test.YtbncjdieilcjjaaWordsPartsI
import Derived.Test.YtbncjdieilcjjaaTextRowsB
namespace Go.Proofs.Ytbncjdieilcjjaa.fnExactPartsOf
open Go.ChangeShapes Go.WideShapes Go.ChangeAt Go.RowKit
open Go.ChangeMaps (open_string shut_string)
set_option linter.unusedVariables false
set_option maxHeartbeats 2000000 in
theorem walk (a0 : ByteArray) (w : World) (w0 : a0.size ≤ maxLen) :
    Calls Try.prog 6 #[.string a0] w fun e w' => e = .returned (.bool true) ∧ Below w.heap.size w w' := by
  have w1 := w0
  unfold maxLen at w1
  by_cases h1 : 1048576 < a0.size
  · have hd : decide ((1048576 : Int) < (a0.size : Int)) = true := by simp; omega
    go_enter Try.func6, Try.ntmps6
    go_wp2
    go_ret
    exact ⟨rfl, Below.refl _ _⟩
  · have hd : decide ((1048576 : Int) < (a0.size : Int)) = false := by simp; omega
    obtain ⟨n, hn⟩ : ∃ n, (pL a0).length = n := ⟨_, rfl⟩
    have hn12 : n ≤ 12 := by have := pL_len a0; omega
    have HN := Lib.hid hn
    clear hn
    go_enter Try.func6, Try.ntmps6
    go_wp2_with fail
    refine (spec_PartsOf a0 _ w0).mono ?_
    rintro e w1 ⟨v1, rfl, o1, b1⟩
    rw [HN.out] at o1
    have s1 := b1.size
    go_wp2_with fail
    refine (impl_PartsOf a0 _ w0).mono ?_
    rintro e w2 ⟨v2, rfl, o2, b2⟩
    rw [HN.out] at o2
    have s2 := b2.size
    have o1b := own_below o1 b2
    go_wp2_with fail
    refine (eqS_below _ _ n v2 v1 _ _ (by omega) o2 o1b).mono ?_
    rintro e w3 ⟨rfl, b3⟩
    have s3 := b3.size
    have o2c := own_below o2 b3
    have o1c := own_below o1b b3
    go_wp2_with fail
    refine (markS_one _ n v2 _ _ (by omega) o2c).mono ?_
    rintro e w4 ⟨rfl, o2d, g4⟩
    have s4 := g4.size
    have o1d := own_far o1c o2c (fun k hk => (o1.lt k hk).2) g4
    have b4 : Below w.heap.size w w4 := (((b1.trans (b2.mono s1)).trans (b3.mono (by omega))).grown g4 (by omega) (fun k hk => by have := (o2.lt k hk).1; omega))
    clear o1 o1b o1c o2 o2c g4
    go_wp2_with fail
    refine (heldS_one _ n v2 _ (by omega) o2d).mono ?_
    rintro e w5 ⟨rfl, b5⟩
    have s5 := b5.size
    have o2e := own_below o2d b5
    have o1e := own_below o1d b5
    clear o1d o2d
    have q1 : (1 + (n : Int) != 1 + (n : Int)) = false := by simp
    have q2 : ¬ 1 + (n : Int) < 0 := by omega
    go_wp2_with fail
    refine (impl_PartsOf a0 _ w0).mono ?_
    rintro e w6 ⟨v3, rfl, o3, b6⟩
    rw [HN.out] at o3
    have s6 := b6.size
    have o2f := own_below o2e b6
    have o1f := own_below o1e b6
    clear o1e o2e
    go_wp2_with fail
    refine (eqS_below _ _ n v3 v1 _ _ (by omega) o3 o1f).mono ?_
    rintro e w7 ⟨rfl, b7⟩
    have s7 := b7.size
    have o2g := own_below o2f b7
    clear o1f o2f o3
    go_wp2_with fail
    refine (heldS_one _ n v2 _ (by omega) o2g).mono ?_
    rintro e w8 ⟨rfl, b8⟩
    clear o2g
    go_wp2
    go_ret
    exact ⟨rfl, (((b4.trans (b5.mono (by omega))).trans (b6.mono (by omega))).trans (b7.mono (by omega))).trans (b8.mono (by omega))⟩

theorem own : ownKnob Try.prog.godebug = none := by kernel_rfl
theorem laidOut : laidOutB Try.prog = true := by kernel_rfl
set_option maxRecDepth 100000 in
theorem lifted (os : Os) (started : os.Started) (H : Type) (enc : TypeId × Value → H) :
    ReturnsInHanded {} Try.checked os 6 .any (Rows.fnExactPartsOfSpec.pre6 enc Try.prog Try.f6 Rows.fnExactPartsOfRow.domain false) (Rows.fnExactPartsOfSpec.post enc Try.prog Try.f6 false true false false) := by
  refine returnsInHanded_of_change (C := Try.checked) own started (by kernel_rfl) Try.func6
    (ChangeSpec.witness6 (enc := enc) (C := Try.checked) false ⟨#[], #[.string ByteArray.empty], []⟩ 8 (by kernel_rfl) (by kernel_rfl) (by kernel_rfl) (by kernel_rfl)) ?_
  intro W base args ds gs before hval0 hW hcnd _
  have hval : ∀ (j : Nat) t v, Try.f6.params[j]? = some t → args[j]? = some v → Value.okWide Try.prog W .any base t v := hval0
  have hW' := hW
  obtain ⟨p, q, hA0, hV, rfl, hfz, hnd⟩ := hW
  have hA : DataW.TrodAll enc Try.prog W 0 (fun _ => true) true Try.f6.params.toList args.toList ds p := hA0
  rw [Try.params6] at hA hval
  obtain ⟨v0, vs0, d0, ds0, p0, q0, hargs, rfl, rfl, h0, r0⟩ := trodAll_cons hA
  obtain ⟨rfl, rfl, rfl⟩ := trodAll_nil r0
  obtain rfl : args = #[v0] := by cases args; simp_all
  obtain ⟨rfl, rfl⟩ := trodVars_none hV
  obtain ⟨a0, rfl, rfl, rfl, w0⟩ := open_string Try.underlying9 (hval 0 9 v0 rfl rfl) h0
  clear hA0 hval0
  simp only [List.append_nil] at hW'
  refine (walk a0 W w0).mono fun e W' ⟨he, bel⟩ => ?_
  subst he
  exact ⟨_, rfl, _, _, _, [], [], [], hW', trodAll_mk1 (shut_bool Try.underlying4 _), (trodAll_cons_mk (shut_string Try.underlying9 w0) trodAll_mk0), rfl, bel.frame _, fun h => by cases h⟩

theorem over : Rows.fnExactPartsOfRow.holds Try.pinned (OpenSpec.ofChange Rows.fnExactPartsOfSpec) :=
  OpenClaim.holds_of_wide 6 Try.f6 rfl rfl rfl rfl rfl rfl rfl ⟨rfl, rfl, rfl, rfl, rfl⟩ rfl rfl rfl rfl rfl (by kernel_rfl) Try.func6 (by kernel_rfl)
    (of_decide_eq_true (by kernel_rfl)) (by unfold Func.isWrapper; first | (rw [if_pos (by decide +kernel)]; kernel_rfl) | (rw [if_neg (by decide +kernel)]; exact ⟨rfl, rfl⟩))
    (fun os started H enc _ => lifted os started H enc)

theorem proved : Rows.FnExactPartsOfSaid := over
end Go.Proofs.Ytbncjdieilcjjaa.fnExactPartsOf
