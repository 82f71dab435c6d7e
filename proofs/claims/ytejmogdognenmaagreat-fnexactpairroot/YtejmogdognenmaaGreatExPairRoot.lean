/-
  Proved: for every pair of texts and every text laws.FnExactPairRoot returns true: impl.PairRoot answers as its model. Conditions: none.
-/
import Derived.Test.YtejmogdognenmaaGreatRows
import Derived.WalkKit
import Derived.ProofKit
import Derived.OpenShut
import Derived.ShutString
import Derived.ChangeOld
import Derived.Below
import Derived.Lib.SmallJoins
import Derived.Test.YtejmogdognenmaaGreatXPairs
import Derived.Test.YtejmogdognenmaaGreatVRootI
namespace Go.Proofs.YtejmogdognenmaaGreat.fnExactPairRoot
open Go.ChangeShapes Go.WideShapes Go.ChangeAt Go.RowKit
open Go.ChangeMaps (open_string shut_string)
set_option linter.unusedVariables false
set_option maxRecDepth 8000 in
set_option maxHeartbeats 4000000 in
theorem walk (a0a a0b a1 : ByteArray) (w : World) (w0a : a0a.size ≤ maxLen) (w0b : a0b.size ≤ maxLen) (w1 : a1.size ≤ maxLen) :
    Calls Tryz.prog 4 #[.agg #[.string a0a, .string a0b], .string a1] w fun e w' => e = .returned (.bool true) ∧ Below w.heap.size w w' := by
  unfold maxLen at w0a w0b w1
  obtain ⟨x, hx⟩ : ∃ x : Pt, (a0a, a0b) = x := ⟨_, rfl⟩
  have hv : Value.agg #[.string a0a, .string a0b] = .agg (aggT x) := by rw [← hx]; rfl
  have k1 : x.1.size ≤ 9223372036854775807 := by rw [← hx]; exact w0a
  have k2 : x.2.size ≤ 9223372036854775807 := by rw [← hx]; exact w0b
  rw [hv]
  clear hv hx w0a w0b
  have HN := Lib.hid (agg_new w x 34)
  by_cases ha1 : 1048576 < a1.size
  · have hda1 : decide ((1048576 : Int) < (a1.size : Int)) = true := by simp; omega
    clear k1 k2
    go_enter Tryz.func4, Tryz.ntmps4
    go_wp2
    go_ret
    exact ⟨rfl, HN.out.2⟩
  have hda1 : decide ((1048576 : Int) < (a1.size : Int)) = false := by simp; omega
  have HZ := Lib.hid (fun w => szPair_any x 1048576 w (by omega) k1 k2)
  have HT := Lib.hid (toPair_any x)
  have HS := Lib.hid (pairRoot_any x a1)
  have HI := Lib.hid (pairRoot_i x a1)
  obtain ⟨z, hz⟩ : ∃ z, szG x 1048576 = z := ⟨_, rfl⟩
  rw [hz] at HZ
  unfold PRootPost at HS HI
  generalize prootG x a1 = r0 at *
  generalize psqB x a1 = r1 at *
  clear hz k1 k2
  go_enter Tryz.func4, Tryz.ntmps4
  go_wp2_with (first | refine load_v rfl 34 (.tmp 2) rfl w.heap.size (aggT x) rfl HN.out.1 Tryz.underlying34 rfl Tryz.infoLP ?_)
  generalize w.alloc _ = w0 at *
  refine (HZ.out _).mono ?_
  rintro e w1 ⟨rfl, b1⟩
  have HX1 := Lib.hid (stays b1 HN.out.1)
  have B1 := Lib.hid (bt HN.out.2 b1)
  clear b1 HN HZ
  by_cases hz : z < 0
  · go_wp2
    go_ret
    exact ⟨rfl, B1.out⟩
  go_wp2_with (first | refine load_v rfl 34 (.tmp 2) rfl w.heap.size (aggT x) rfl HX1.out Tryz.underlying34 rfl Tryz.infoLP ?_)
  refine (HT.out _).mono ?_
  rintro e w2 ⟨rfl, b2⟩
  have HX2 := Lib.hid (stays b2 HX1.out)
  have B2 := Lib.hid (bt B1.out b2)
  clear b2 HX1 B1
  go_wp2_with fail
  refine (HS.out _).mono ?_
  rintro e w3 ⟨rfl, b3⟩
  have HX3 := Lib.hid (stays b3 HX2.out)
  have B3 := Lib.hid (bt B2.out b3)
  clear b3 HX2 B2 HS
  have HG3 := Lib.hid (begun1 ((Held.none w3).cons HX3.out) #[.string ⟨#[]⟩, .string ⟨#[]⟩] 25)
  have HE3 := Lib.hid (HG3.out.put (Nat.le_refl _) (aggT r0))
  have HX4 := Lib.hid (show _ = some (Obj.cells (aggT x) 34 (0, 0)) from HE3.out.h _ (.head _))
  have HR4 := Lib.hid HE3.out.out
  have B4 := Lib.hid (bt B3.out HE3.out.b)
  clear HX3 B3
  go_wp2_with (first | refine store_p rfl (.tmp 6) (.tmp 23) rfl w3.heap.size _ r0 rfl rfl HG3.out.out rfl ?_ | refine load_v rfl 34 (.tmp 2) rfl w.heap.size (aggT x) rfl HX4.out Tryz.underlying34 rfl Tryz.infoLP ?_)
  generalize (w3.alloc _).setRow _ _ = w4 at *
  generalize w3.heap.size = g4 at *
  clear HG3 HE3
  refine (HT.out _).mono ?_
  rintro e w5 ⟨rfl, b5⟩
  have B5 := Lib.hid (bt B4.out b5)
  have HR5 := Lib.hid (stays b5 HR4.out)
  clear b5 HX4 B4
  go_wp2_with fail
  refine (HI.out _).mono ?_
  rintro e w6 ⟨rfl, b6⟩
  have B6 := Lib.hid (bt B5.out b6)
  clear HI HT B5
  have HR6 := Lib.hid (stays b6 HR5.out)
  have HG6 := Lib.hid (begun1 ((Held.none w6).cons HR6.out) #[.string ⟨#[]⟩, .string ⟨#[]⟩] 25)
  have HE6 := Lib.hid (HG6.out.put (Nat.le_refl _) (aggT r0))
  have HR7 := Lib.hid (show _ = some (Obj.cells (aggT r0) 25 (0, 0)) from HE6.out.h _ (.head _))
  have B7 := Lib.hid (bt B6.out HE6.out.b)
  clear b6 HR5 B6 HR6
  have q1 : (r1 != r1) = false := by simp
  go_wp2_with (first | refine store_p rfl (.tmp 8) (.tmp 30) rfl w6.heap.size _ r0 rfl rfl HG6.out.out rfl ?_ | refine load_p rfl (.tmp 8) rfl w6.heap.size r0 rfl HE6.out.out ?_ | refine load_p rfl (.tmp 6) rfl g4 r0 rfl HR7.out ?_)
  refine (eqPair_same r0 _).mono ?_
  rintro e w8 ⟨rfl, b8⟩
  have B8 := Lib.hid (bt B7.out b8)
  clear b8
  go_wp2
  go_ret
  exact ⟨rfl, B8.out⟩

theorem own : ownKnob Tryz.prog.godebug = none := by kernel_rfl
theorem laidOut : laidOutB Tryz.prog = true := by kernel_rfl
set_option maxRecDepth 100000 in
theorem lifted (os : Os) (started : os.Started) (H : Type) (enc : TypeId × Value → H) :
    ReturnsInHanded {} Tryz.checked os 4 .any (Rows.fnExactPairRootSpec.pre6 enc Tryz.prog Tryz.f4 Rows.fnExactPairRootRow.domain false) (Rows.fnExactPairRootSpec.post enc Tryz.prog Tryz.f4 false true false false) := by
  refine returnsInHanded_of_change (C := Tryz.checked) own started (by kernel_rfl) Tryz.func4
    (ChangeSpec.witness6 (enc := enc) (C := Tryz.checked) false ⟨#[], #[.agg #[.string ByteArray.empty, .string ByteArray.empty], .string ByteArray.empty], []⟩ 8 (by kernel_rfl) (by kernel_rfl) (by kernel_rfl) (by kernel_rfl)) ?_
  intro W base args ds gs before hval0 hW hcnd _
  have hval : ∀ (j : Nat) t v, Tryz.f4.params[j]? = some t → args[j]? = some v → Value.okWide Tryz.prog W .any base t v := hval0
  have hW' := hW
  obtain ⟨p, q, hA0, hV, rfl, hfz, hnd⟩ := hW
  have hA : DataW.TrodAll enc Tryz.prog W 0 (fun _ => true) true Tryz.f4.params.toList args.toList ds p := hA0
  rw [Tryz.params4] at hA hval
  obtain ⟨v0, vs0, d0, ds0, p0, q0, hargs, rfl, rfl, h0, r0⟩ := trodAll_cons hA
  obtain ⟨v1, vs1, d1, ds1, p1, q1, rfl, rfl, rfl, h1, r1⟩ := trodAll_cons r0
  obtain ⟨rfl, rfl, rfl⟩ := trodAll_nil r1
  obtain rfl : args = #[v0, v1] := by cases args; simp_all
  obtain ⟨rfl, rfl⟩ := trodVars_none hV
  obtain ⟨c0a, c0b, y0a, y0b, m0, rfl, rfl, rfl, hy0a, hy0b⟩ := Go.Joins.open_agg2 Tryz.underlying34 (by kernel_rfl) (show Tryz.prog.cellsOf 34 = 2 by kernel_rfl) (hval 0 34 v0 rfl rfl) h0
  obtain ⟨a0a, e0a, rfl, w0a⟩ := DataW.trod_string Tryz.underlying9 hy0a
  obtain ⟨a0b, e0b, rfl, w0b⟩ := DataW.trod_string Tryz.underlying9 hy0b
  simp only [List.cons.injEq, and_true] at e0a e0b
  subst e0a e0b
  obtain ⟨a1, rfl, rfl, rfl, w1⟩ := open_string Tryz.underlying9 (hval 1 9 v1 rfl rfl) h1
  clear hA0 hval0
  simp only [List.append_nil] at hW'
  refine (walk a0a a0b a1 W w0a w0b w1).mono fun e W' ⟨he, bel⟩ => ?_
  subst he
  exact ⟨_, rfl, _, _, _, [], [], [], hW', trodAll_mk1 (shut_bool Tryz.underlying4 _), (trodAll_cons_mk (Go.Joins.shut_agg2 (y0 := (.lit (.string a0a.data.toList), [])) (y1 := (.lit (.string a0b.data.toList), [])) Tryz.underlying34 (by kernel_rfl) (show Tryz.prog.cellsOf 34 = 2 by kernel_rfl) ⟨1, by simp [DataW.trod, Tryz.underlying9, w0a]⟩ ⟨1, by simp [DataW.trod, Tryz.underlying9, w0b]⟩) (trodAll_cons_mk (shut_string Tryz.underlying9 w1) trodAll_mk0)), rfl, bel.frame _, fun h => by cases h⟩

theorem over : Rows.fnExactPairRootRow.holds Tryz.pinned (OpenSpec.ofChange Rows.fnExactPairRootSpec) :=
  OpenClaim.holds_of_wide 4 Tryz.f4 rfl rfl rfl rfl rfl rfl rfl ⟨rfl, rfl, rfl, rfl, rfl⟩ rfl rfl rfl rfl rfl (by kernel_rfl) Tryz.func4 (by kernel_rfl)
    (of_decide_eq_true (by kernel_rfl)) (by unfold Func.isWrapper; first | (rw [if_pos (by decide +kernel)]; kernel_rfl) | (rw [if_neg (by decide +kernel)]; exact ⟨rfl, rfl⟩))
    (fun os started H enc _ => lifted os started H enc)

theorem proved : Rows.FnExactPairRootSaid := over
end Go.Proofs.YtejmogdognenmaaGreat.fnExactPairRoot
