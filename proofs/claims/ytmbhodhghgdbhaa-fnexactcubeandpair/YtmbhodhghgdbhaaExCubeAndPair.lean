/-
  Proved: for every int and every pair of texts laws.FnExactCubeAndPair returns true: impl.CubeAndPair answers as its model. Conditions: none.
-/
import Derived.Test.YtmbhodhghgdbhaaRows
import Derived.WalkKit
import Derived.ProofKit
import Derived.OpenShut
import Derived.ShutString
import Derived.ChangeOld
import Derived.Below
import Derived.Lib.SmallJoins
import Derived.Test.YtmbhodhghgdbhaaXPairs
import Derived.Test.YtmbhodhghgdbhaaYImpl
namespace Go.Proofs.Ytmbhodhghgdbhaa.fnExactCubeAndPair
open Go.ChangeShapes Go.WideShapes Go.ChangeAt Go.RowKit
open Go.ChangeMaps (open_string shut_string)
set_option linter.unusedVariables false
set_option maxRecDepth 8000 in
set_option maxHeartbeats 4000000 in
theorem walk (a0 : Int) (a1a a1b : ByteArray) (w : World) (_w0 : (Lit.int .i64 a0).wf = true) (w1a : a1a.size ≤ maxLen) (w1b : a1b.size ≤ maxLen) :
    Calls Try.prog 7 #[.int .i64 a0, .agg #[.string a1a, .string a1b]] w fun e w' => e = .returned (.bool true) ∧ Below w.heap.size w w' := by
  unfold maxLen at w1a w1b
  obtain ⟨x, hx⟩ : ∃ x : Pt, (a1a, a1b) = x := ⟨_, rfl⟩
  have hv : Value.agg #[.string a1a, .string a1b] = .agg (aggT x) := by rw [← hx]; rfl
  have k1 : x.1.size ≤ 9223372036854775807 := by rw [← hx]; exact w1a
  have k2 : x.2.size ≤ 9223372036854775807 := by rw [← hx]; exact w1b
  rw [hv]
  clear hv hx w1a w1b
  have HN := Lib.hid (agg_new w x 48)
  have HZ := Lib.hid (fun w => szPair_any x 1048576 w (by omega) k1 k2)
  have HT := Lib.hid (toPair_any x)
  have HS := Lib.hid (cubeAndPair_any a0 x)
  have HI := Lib.hid (cubeAndPair_i a0 x)
  obtain ⟨z, hz⟩ : ∃ z, szG x 1048576 = z := ⟨_, rfl⟩
  rw [hz] at HZ
  generalize cube2G a0 x = r0 at *
  clear hz k1 k2
  go_enter Try.func7, Try.ntmps7
  go_wp2_with (first | refine load_v rfl 48 (.tmp 3) rfl w.heap.size (aggT x) rfl HN.out.1 Try.underlying48 rfl Try.infoLP ?_)
  generalize w.alloc _ = w0 at *
  refine (HZ.out _).mono ?_
  rintro e w1 ⟨rfl, b1⟩
  have HX1 := Lib.hid (stays b1 HN.out.1)
  have B1 := Lib.hid (bt HN.out.2 b1)
  clear b1 HN HZ
  by_cases hz : z < 0
  · go_wp2
    go_ret
    exact ⟨rfl, B1.out⟩
  go_wp2_with (first | refine load_v rfl 48 (.tmp 3) rfl w.heap.size (aggT x) rfl HX1.out Try.underlying48 rfl Try.infoLP ?_)
  refine (HT.out _).mono ?_
  rintro e w2 ⟨rfl, b2⟩
  have HX2 := Lib.hid (stays b2 HX1.out)
  have B2 := Lib.hid (bt B1.out b2)
  clear b2 HX1 B1
  go_wp2_with fail
  refine (HS.out _).mono ?_
  rintro e w3 ⟨rfl, b3⟩
  have HX3 := Lib.hid (stays b3 HX2.out)
  have B3 := Lib.hid (bt B2.out b3)
  clear b3 HX2 B2 HS
  have HG3 := Lib.hid (begun1 ((Held.none w3).cons HX3.out) #[.string ⟨#[]⟩, .string ⟨#[]⟩] 26)
  have HE3 := Lib.hid (HG3.out.put (Nat.le_refl _) (aggT r0))
  have HX4 := Lib.hid (show _ = some (Obj.cells (aggT x) 48 (0, 0)) from HE3.out.h _ (.head _))
  have HR4 := Lib.hid HE3.out.out
  have B4 := Lib.hid (bt B3.out HE3.out.b)
  clear HX3 B3
  go_wp2_with (first | refine store_p rfl (.tmp 6) (.tmp 16) rfl w3.heap.size _ r0 rfl rfl HG3.out.out rfl ?_ | refine load_v rfl 48 (.tmp 3) rfl w.heap.size (aggT x) rfl HX4.out Try.underlying48 rfl Try.infoLP ?_)
  generalize (w3.alloc _).setRow _ _ = w4 at *
  generalize w3.heap.size = g4 at *
  clear HG3 HE3
  refine (HT.out _).mono ?_
  rintro e w5 ⟨rfl, b5⟩
  have B5 := Lib.hid (bt B4.out b5)
  have HR5 := Lib.hid (stays b5 HR4.out)
  clear b5 HX4 B4
  go_wp2_with fail
  refine (HI.out _).mono ?_
  rintro e w6 ⟨rfl, b6⟩
  have B6 := Lib.hid (bt B5.out b6)
  clear HI HT B5
  have HR6 := Lib.hid (stays b6 HR5.out)
  have HG6 := Lib.hid (begun1 ((Held.none w6).cons HR6.out) #[.string ⟨#[]⟩, .string ⟨#[]⟩] 26)
  have HE6 := Lib.hid (HG6.out.put (Nat.le_refl _) (aggT r0))
  have HR7 := Lib.hid (show _ = some (Obj.cells (aggT r0) 26 (0, 0)) from HE6.out.h _ (.head _))
  have B7 := Lib.hid (bt B6.out HE6.out.b)
  clear b6 HR5 B6 HR6
  go_wp2_with (first | refine store_p rfl (.tmp 7) (.tmp 20) rfl w6.heap.size _ r0 rfl rfl HG6.out.out rfl ?_ | refine load_p rfl (.tmp 7) rfl w6.heap.size r0 rfl HE6.out.out ?_ | refine load_p rfl (.tmp 6) rfl g4 r0 rfl HR7.out ?_)
  refine (eqPair_same r0 _).mono ?_
  rintro e w8 ⟨rfl, b8⟩
  have B8 := Lib.hid (bt B7.out b8)
  clear b8
  go_wp2
  go_ret
  exact ⟨rfl, B8.out⟩

theorem own : ownKnob Try.prog.godebug = none := by kernel_rfl
theorem laidOut : laidOutB Try.prog = true := by kernel_rfl
set_option maxRecDepth 100000 in
theorem lifted (os : Os) (started : os.Started) (H : Type) (enc : TypeId × Value → H) :
    ReturnsInHanded {} Try.checked os 7 .any (Rows.fnExactCubeAndPairSpec.pre6 enc Try.prog Try.f7 Rows.fnExactCubeAndPairRow.domain false) (Rows.fnExactCubeAndPairSpec.post enc Try.prog Try.f7 false true false false) := by
  refine returnsInHanded_of_change (C := Try.checked) own started (by kernel_rfl) Try.func7
    (ChangeSpec.witness6 (enc := enc) (C := Try.checked) false ⟨#[], #[.int .i64 0, .agg #[.string ByteArray.empty, .string ByteArray.empty]], []⟩ 8 (by kernel_rfl) (by kernel_rfl) (by kernel_rfl) (by kernel_rfl)) ?_
  intro W base args ds gs before hval0 hW hcnd _
  have hval : ∀ (j : Nat) t v, Try.f7.params[j]? = some t → args[j]? = some v → Value.okWide Try.prog W .any base t v := hval0
  have hW' := hW
  obtain ⟨p, q, hA0, hV, rfl, hfz, hnd⟩ := hW
  have hA : DataW.TrodAll enc Try.prog W 0 (fun _ => true) true Try.f7.params.toList args.toList ds p := hA0
  rw [Try.params7] at hA hval
  obtain ⟨v0, vs0, d0, ds0, p0, q0, hargs, rfl, rfl, h0, r0⟩ := trodAll_cons hA
  obtain ⟨v1, vs1, d1, ds1, p1, q1, rfl, rfl, rfl, h1, r1⟩ := trodAll_cons r0
  obtain ⟨rfl, rfl, rfl⟩ := trodAll_nil r1
  obtain rfl : args = #[v0, v1] := by cases args; simp_all
  obtain ⟨rfl, rfl⟩ := trodVars_none hV
  obtain ⟨a0, rfl, rfl, rfl, w0⟩ := open_int Try.underlying3 (hval 0 3 v0 rfl rfl) h0
  obtain ⟨c1a, c1b, y1a, y1b, m1, rfl, rfl, rfl, hy1a, hy1b⟩ := Go.Joins.open_agg2 Try.underlying48 (by kernel_rfl) (show Try.prog.cellsOf 48 = 2 by kernel_rfl) (hval 1 48 v1 rfl rfl) h1
  obtain ⟨a1a, e1a, rfl, w1a⟩ := DataW.trod_string Try.underlying9 hy1a
  obtain ⟨a1b, e1b, rfl, w1b⟩ := DataW.trod_string Try.underlying9 hy1b
  simp only [List.cons.injEq, and_true] at e1a e1b
  subst e1a e1b
  clear hA0 hval0
  simp only [List.append_nil] at hW'
  refine (walk a0 a1a a1b W w0 w1a w1b).mono fun e W' ⟨he, bel⟩ => ?_
  subst he
  exact ⟨_, rfl, _, _, _, [], [], [], hW', trodAll_mk1 (shut_bool Try.underlying4 _), (trodAll_cons_mk (shut_int Try.underlying3 w0) (trodAll_cons_mk (Go.Joins.shut_agg2 (y0 := (.lit (.string a1a.data.toList), [])) (y1 := (.lit (.string a1b.data.toList), [])) Try.underlying48 (by kernel_rfl) (show Try.prog.cellsOf 48 = 2 by kernel_rfl) ⟨1, by simp [DataW.trod, Try.underlying9, w1a]⟩ ⟨1, by simp [DataW.trod, Try.underlying9, w1b]⟩) trodAll_mk0)), rfl, bel.frame _, fun h => by cases h⟩

theorem over : Rows.fnExactCubeAndPairRow.holds Try.pinned (OpenSpec.ofChange Rows.fnExactCubeAndPairSpec) :=
  OpenClaim.holds_of_wide 7 Try.f7 rfl rfl rfl rfl rfl rfl rfl ⟨rfl, rfl, rfl, rfl, rfl⟩ rfl rfl rfl rfl rfl (by kernel_rfl) Try.func7 (by kernel_rfl)
    (of_decide_eq_true (by kernel_rfl)) (by unfold Func.isWrapper; first | (rw [if_pos (by decide +kernel)]; kernel_rfl) | (rw [if_neg (by decide +kernel)]; exact ⟨rfl, rfl⟩))
    (fun os started H enc _ => lifted os started H enc)

theorem proved : Rows.FnExactCubeAndPairSaid := over
end Go.Proofs.Ytmbhodhghgdbhaa.fnExactCubeAndPair
