import Derived.Test.YtkmmlfocidfghaaGreatZPoint
import Derived.Test.YtkmmlfocidfghaaGreatQSpec
/-
  Points of texts: what sums of right points are.
-/
namespace Go.Proofs.YtkmmlfocidfghaaGreat
open Go.RowKit
/-- Sums of points of texts. -/
def addPtG (id : Int) (a b : Tp) : Tp := if pointB id a && pointB id b then txt2 (plusP (gV (cvPT id)) (val2 a) (val2 b)) else noT
def Bare : P2 → Prop
  | none => True
  | some A => A.1.2 = 0 ∧ A.2.2 = 0
def zeroT : Tp := (true, ⟨#[]⟩, ⟨#[]⟩)
theorem sub_bare {n : Nat} {x y : Pn} (hx : x.2 = 0) (hy : y.2 = 0) : (subP n x y).2 = 0 := by
  show (x.2 + n - y.2) % n = 0
  rw [hx, hy, Nat.zero_add, Nat.sub_zero, Nat.mod_self]
theorem add_bare {n : Nat} {x y : Pn} (hx : x.2 = 0) (hy : y.2 = 0) : (addP n x y).2 = 0 := by
  show (x.2 + y.2) % n = 0
  rw [hx, hy, Nat.zero_add, Nat.zero_mod]
theorem mul_bare2 {n : Nat} {x y : Pn} (hx : x.2 = 0) (hy : y.2 = 0) : (mulP n x y).2 = 0 := by
  show (x.1 * y.2 % n + x.2 * y.1 % n) % n = 0
  rw [hx, hy, Nat.mul_zero, Nat.zero_mul, Nat.zero_mod, Nat.add_zero, Nat.zero_mod]
theorem inv_bare {n : Nat} {x : Pn} (hx : x.2 = 0) : (inv7 x n).2 = 0 := by
  unfold inv7
  split
  · show (0 + n - x.2) % n * invN (normP n x) n % n = 0
    rw [hx, Nat.zero_add, Nat.sub_zero, Nat.mod_self, Nat.zero_mul, Nat.zero_mod]
  · rfl
theorem line_bare {p : Nat} {A B : Pn × Pn} {u d : Pn} (hA : A.1.2 = 0 ∧ A.2.2 = 0) (hB : B.1.2 = 0 ∧ B.2.2 = 0) (hu : u.2 = 0) (hd : d.2 = 0) : Bare (some (lineP p A B u d)) := by
  have hm := mul_bare2 (n := p) hu (inv_bare (n := p) hd)
  have hx : (lineP p A B u d).1.2 = 0 := sub_bare (sub_bare (mul_bare2 hm hm) hA.1) hB.1
  exact ⟨hx, sub_bare (mul_bare2 hm (sub_bare hA.1 hx)) hA.2⟩
theorem plus_bare {p : Nat} {Q R : P2} (hQ : Bare Q) (hR : Bare R) : Bare (plusP p Q R) := by
  cases Q with
  | none => exact hR
  | some A =>
    cases R with
    | none => exact hQ
    | some B =>
      show Bare (if subP p B.1 A.1 = (0, 0) then (if A.2 = (0, 0) ∨ subP p B.2 A.2 ≠ (0, 0) then none else some (lineP p A B (tripleP p A.1) (addP p A.2 A.2))) else some (lineP p A B (subP p B.2 A.2) (subP p B.1 A.1)))
      split
      · split
        · trivial
        · have hm := mul_bare2 (n := p) hQ.1 hQ.1
          exact line_bare hQ hR (add_bare (add_bare hm hm) hm) (add_bare hQ.2 hQ.2)
      · exact line_bare hQ hR (sub_bare hR.2 hQ.2) (sub_bare hR.1 hQ.1)
theorem minus_bare {p : Nat} {Q : P2} (hQ : Bare Q) : Bare (minusP p Q) := by
  cases Q with
  | none => trivial
  | some A => exact ⟨hQ.1, sub_bare rfl hQ.2⟩
theorem val_bare (q : Tp) : Bare (val2 q) := by
  unfold val2
  split
  · trivial
  · exact ⟨rfl, rfl⟩
theorem val_txt2 {Q : P2} (h : Bare Q) : val2 (txt2 Q) = Q := by
  cases Q with
  | none => rfl
  | some A =>
    obtain ⟨⟨a, a2⟩, b, b2⟩ := A
    obtain ⟨h1, h2⟩ := h
    simp only at h1 h2
    subst h1 h2
    show some ((gV (gS a), 0), (gV (gS b), 0)) = _
    rw [gV_gS, gV_gS]
theorem zero_ok {id : Int} (hc : cvB id = true) : pointB id zeroT = true := by
  unfold pointB zeroT
  rw [hc, Bool.true_and, if_pos rfl]
  decide +kernel
/-- What stands on a curve is right as texts. -/
theorem point_of {id : Int} {Q : P2} (hc : cvB id = true) (h : onP (gV (cvPT id)) (gV (cvBT id), 0) Q) (hb : Bare Q) : pointB id (txt2 Q) = true := by
  have F := curve_fit hc
  cases Q with
  | none => exact zero_ok hc
  | some A =>
    obtain ⟨⟨a, a2⟩, b, b2⟩ := A
    obtain ⟨h1, h2⟩ := hb
    simp only at h1 h2
    subst h1 h2
    obtain ⟨i1, i2, e⟩ := h
    unfold pointB txt2
    simp only
    rw [hc, rest_of_lt F.mp i1.1, rest_of_lt F.mp i2.1, if_neg (by decide)]
    unfold onB
    rw [gV_gS, gV_gS, decide_eq_true e]
    rfl
/-- What is known of right points of one curve. -/
structure PointLaws (id : Int) : Prop where
  sum : ∀ {a b : Tp}, pointB id a = true → pointB id b = true → pointB id (addPtG id a b) = true ∧ val2 (addPtG id a b) = plusP (gV (cvPT id)) (val2 a) (val2 b)
  neg : ∀ {a : Tp}, pointB id a = true → pointB id (negPtG id a) = true ∧ val2 (negPtG id a) = minusP (gV (cvPT id)) (val2 a)
  comm : ∀ {a b : Tp}, pointB id a = true → pointB id b = true → addPtG id a b = addPtG id b a
  assoc : ∀ {a b c : Tp}, pointB id a = true → pointB id b = true → pointB id c = true → addPtG id (addPtG id a b) c = addPtG id a (addPtG id b c)
  against : ∀ {a : Tp}, pointB id a = true → addPtG id a (negPtG id a) = zeroT
  none : ∀ {a : Tp}, pointB id a = true → addPtG id a zeroT = a ∧ addPtG id zeroT a = a
  back : ∀ {a b : Tp}, pointB id a = true → pointB id b = true → addPtG id (addPtG id a b) (negPtG id a) = b
  twice : ∀ {a : Tp}, pointB id a = true → negPtG id (negPtG id a) = a
theorem point_laws {id : Int} (hc : cvB id = true) : PointLaws id := by
  have S := (curve_sums hc).base
  have hsum : ∀ {a b : Tp}, pointB id a = true → pointB id b = true → addPtG id a b = txt2 (plusP (gV (cvPT id)) (val2 a) (val2 b)) := fun {a b} ha hb => by unfold addPtG; rw [ha, hb]; rfl
  have hneg : ∀ {a : Tp}, pointB id a = true → negPtG id a = txt2 (minusP (gV (cvPT id)) (val2 a)) := fun {a} ha => by unfold negPtG; rw [ha]; rfl
  have sum : ∀ {a b : Tp}, pointB id a = true → pointB id b = true → pointB id (addPtG id a b) = true ∧ val2 (addPtG id a b) = plusP (gV (cvPT id)) (val2 a) (val2 b) := fun {a b} ha hb => by
    rw [hsum ha hb]
    have hB := plus_bare (p := gV (cvPT id)) (val_bare a) (val_bare b)
    exact ⟨point_of hc (S.on (point_fit ha).on (point_fit hb).on) hB, val_txt2 hB⟩
  have neg : ∀ {a : Tp}, pointB id a = true → pointB id (negPtG id a) = true ∧ val2 (negPtG id a) = minusP (gV (cvPT id)) (val2 a) := fun {a} ha => by
    rw [hneg ha]
    have hB := minus_bare (p := gV (cvPT id)) (val_bare a)
    exact ⟨point_of hc (S.neg (point_fit ha).on) hB, val_txt2 hB⟩
  have comm : ∀ {a b : Tp}, pointB id a = true → pointB id b = true → addPtG id a b = addPtG id b a := fun {a b} ha hb => by
    rw [hsum ha hb, hsum hb ha, S.comm (point_fit ha).on (point_fit hb).on]
  have assoc : ∀ {a b c : Tp}, pointB id a = true → pointB id b = true → pointB id c = true → addPtG id (addPtG id a b) c = addPtG id a (addPtG id b c) := fun {a b c} ha hb h => by
    rw [hsum (sum ha hb).1 h, hsum ha (sum hb h).1, (sum ha hb).2, (sum hb h).2, S.assoc (point_fit ha).on (point_fit hb).on (point_fit h).on]
  have against : ∀ {a : Tp}, pointB id a = true → addPtG id a (negPtG id a) = zeroT := fun {a} ha => by
    rw [hsum ha (neg ha).1, (neg ha).2, S.against (point_fit ha).on]; rfl
  have hz := zero_ok hc
  have nn : ∀ {a : Tp}, pointB id a = true → addPtG id a zeroT = a := fun {a} ha => by
    rw [hsum ha hz, show val2 zeroT = none from rfl, S.none, (point_fit ha).back]
  refine ⟨sum, neg, comm, assoc, against, fun ha => ⟨nn ha, by rw [comm hz ha, nn ha]⟩, fun {a b} ha hb => ?_, fun {a} ha => ?_⟩
  · rw [comm ha hb, assoc hb ha (neg ha).1, against ha, nn hb]
  · rw [hneg (neg ha).1, (neg ha).2, S.twice (point_fit ha).on, (point_fit ha).back]
/-- The base points. -/
theorem base_ok {id : Int} (h : cvB id = true) : pointB id (false, bsX id, bsY id) = true := by
  have e : restB (bsX id) (cvPT id) = true ∧ restB (bsY id) (cvPT id) = true ∧ onB id (bsX id) (bsY id) = true := by
    rcases four_ids h with rfl | rfl | rfl | rfl
    · exact ⟨by decide +kernel, by decide +kernel, by decide +kernel⟩
    · exact ⟨by decide +kernel, by decide +kernel, by decide +kernel⟩
    · exact ⟨by decide +kernel, by decide +kernel, by decide +kernel⟩
    · exact ⟨by decide +kernel, by decide +kernel, by decide +kernel⟩
  unfold pointB
  rw [h]
  simp only
  rw [e.1, e.2.1, e.2.2]
  rfl
/-! Lifted points. -/
/-- A point lifted from its X. -/
def liftB (id : Int) (x : ByteArray) (gr : Bool) : Bool := (cvB id && restB x (cvPT id)) && (rootB (cubeG id x) (cvPT id) && !(gr && (rootG (cubeG id x) (cvPT id)).toList.isEmpty))
def liftG (id : Int) (x : ByteArray) (gr : Bool) : Tp := if liftB id x gr then (false, x, if gr then negR (rootG (cubeG id x) (cvPT id)) (cvPT id) else rootG (cubeG id x) (cvPT id)) else noT
theorem on_root {id : Int} {x y : ByteArray} (hc : cvB id = true) (hx : restB x (cvPT id) = true) (hy : restB y (cvPT id) = true) (e : mulR y y (cvPT id) = cubeG id x) : onB id x y = true := by
  have F := curve_fit hc
  have h0 := mod_pos F.mp
  unfold cubeG at e
  rw [hc, hx, Bool.true_and, if_pos rfl, cube_num F.mp hx F.b, mul_num F.mp hy hy] at e
  have e2 := congrArg gV e
  rw [gV_gS, gV_gS] at e2
  unfold onB
  rw [mul_bare h0, right_bare h0, e2, decide_eq_true rfl]
theorem neg_text {id : Int} {x y : ByteArray} (h : pointB id (false, x, y) = true) : negPtG id (false, x, y) = (false, x, negR y (cvPT id)) := by
  have F := point_fit h
  have C := curve_fit F.cv
  unfold negPtG
  rw [h, if_pos rfl]
  have hb := F.back
  have on := val_in F.on
  have ex : gS (gV x) = x := congrArg (fun q : Tp => q.2.1) hb
  have ey : gS (gV y) = y := congrArg (fun q : Tp => q.2.2) hb
  show (false, gS (gV x), gS ((0 + gV (cvPT id) - gV y) % gV (cvPT id))) = _
  rw [← negR_gS C.mp on.2.1, ey, ex]
end Go.Proofs.YtkmmlfocidfghaaGreat
/-
  The contract of spec's LiftPoint.
-/
namespace Go.Proofs.YtkmmlfocidfghaaGreat
open Go.RowKit
theorem res_pt {w : World} {g : Nat} {C : Array Value} (hb : w.heap[g]? = some (.cells C 25 (0, 0))) (hs : C.size = 3) {fn : Func} {p q : Tmp} (hf : fn.results = #[.cell p 25, .tmp q]) (tmps : Array Value) (hp : tmps.getD p undef = .pointer (some ⟨g, 0, none⟩)) :
    (results fn tmps).run Tryz.prog w = .ok (.tuple #[.agg C, tmps.getD q undef]) w := by
  have e1 := run_loadVar_row (P := Tryz.prog) w g _ 25 _ _ _ hb Tryz.underlying25 rfl (by rw [hs]; exact Tryz.infoPoint)
  have hp' : tmps[p]?.getD undef = .pointer (some ⟨g, 0, none⟩) := by simpa using hp
  simp [results, hf, hp', asAddr, e1]
set_option maxRecDepth 8000 in
set_option maxHeartbeats 4000000 in
theorem liftPoint_any (id : Int) (x : ByteArray) (gr : Bool) (w : World) : Calls Tryz.prog 19 #[.int .i64 id, .string x, .bool gr] w fun e w' => e = .returned (.tuple #[.agg (tpT (liftG id x gr)), .bool (liftB id x gr)]) ∧ Below w.heap.size w w' := by
  have HK := Lib.hid (curveOf_any id)
  have HC := Lib.hid (cv_in id)
  have HO := Lib.hid (restOk_any x (cvPT id))
  have HG0 := Lib.hid (begun1 (Held.none w) #[.bool false, .string ⟨#[]⟩, .string ⟨#[]⟩] 25)
  unfold liftG liftB
  cases hb : cvB id with
  | false =>
    rw [hb] at HK
    rw [Bool.false_and, Bool.false_and, if_neg (by decide)]
    clear hb HO
    generalize cvC id = C at *
    go_enter Tryz.func19, Tryz.ntmps19
    go_wp2_with fail
    generalize w.alloc _ = w0 at *
    refine (HK.out _).mono ?_
    rintro e w1 ⟨rfl, b1⟩
    have V := Lib.hid (cv_var' w1 HC.out.size)
    have HG2 := Lib.hid (((HG0.out.on b1).new cv0 43).putAt (HG0.out.on b1).b.size (HG0.out.on b1).h.apart C)
    clear b1 HK HG0
    have HE := Lib.hid (HG2.out.put (Nat.le_refl _) (tpT noT))
    go_wp2_with (first | refine cv_store rfl (.tmp 8) (.tmp 15) rfl w1.heap.size cv0 C rfl rfl V.out.at0 rfl HC.out.size HC.out.one ?_ | refine store_v rfl 25 (.tmp 6) (.tmp 26) rfl w.heap.size _ (tpT noT) rfl rfl HG2.out.out Tryz.infoPoint rfl (by kernel_rfl) ?_)
    exact bodyPost_ret (res_pt HE.out.out rfl Tryz.results19 _ rfl) rfl ⟨rfl, HE.out.b⟩
  | true =>
  rw [hb] at HK
  rw [Bool.true_and]
  cases hr : restB x (cvPT id) with
  | false =>
    rw [hr] at HO
    rw [Bool.false_and, if_neg (by decide)]
    clear hb hr
    generalize cvC id = C at *
    generalize cvNT id = tn at *
    generalize cvRT id = tr at *
    generalize cvBT id = tb at *
    generalize cvKT id = tk at *
    generalize cvSz id = sz at *
    generalize cvPT id = tp at *
    go_enter Tryz.func19, Tryz.ntmps19
    go_wp2_with fail
    generalize w.alloc _ = w0 at *
    refine (HK.out _).mono ?_
    rintro e w1 ⟨rfl, b1⟩
    have V := Lib.hid (cv_var' w1 HC.out.size)
    have HG2 := Lib.hid (((HG0.out.on b1).new cv0 43).putAt (HG0.out.on b1).b.size (HG0.out.on b1).h.apart C)
    clear b1 HK HG0
    obtain ⟨_, c1, _⟩ := HC.out.cells _ _ V.out.at1
    go_wp2_with (first | refine cv_store rfl (.tmp 8) (.tmp 15) rfl w1.heap.size cv0 C rfl rfl V.out.at0 rfl HC.out.size HC.out.one ?_)
    generalize (w1.alloc _).setRow _ _ = wv at *
    refine (HO.out _).mono ?_
    rintro e w2 ⟨rfl, b2⟩
    have HG3 := Lib.hid (HG2.out.on b2)
    have HE := Lib.hid (HG3.out.put (Nat.le_refl _) (tpT noT))
    clear b2 HG2 HO c1 V
    go_wp2_with (first | refine store_v rfl 25 (.tmp 6) (.tmp 26) rfl w.heap.size _ (tpT noT) rfl rfl HG3.out.out Tryz.infoPoint rfl (by kernel_rfl) ?_)
    exact bodyPost_ret (res_pt HE.out.out rfl Tryz.results19 _ rfl) rfl ⟨rfl, HE.out.b⟩
  | true =>
  rw [hr] at HO
  rw [Bool.true_and]
  have HCb := Lib.hid (cubeAnd_any id x)
  have HRt := Lib.hid (rootOf_any (cubeG id x) (cvPT id))
  have HNg := Lib.hid (negRest_any (rootG (cubeG id x) (cvPT id)) (cvPT id))
  unfold RootPost at HRt
  clear hb hr
  generalize rootB (cubeG id x) (cvPT id) = rb at *
  generalize negR (rootG (cubeG id x) (cvPT id)) (cvPT id) = ng at *
  generalize rootG (cubeG id x) (cvPT id) = rt at *
  generalize cubeG id x = cb at *
  generalize cvC id = C at *
  generalize cvNT id = tn at *
  generalize cvRT id = tr at *
  generalize cvBT id = tb at *
  generalize cvKT id = tk at *
  generalize cvSz id = sz at *
  generalize cvPT id = tp at *
  cases rb with
  | false =>
    rw [Bool.false_and, if_neg (by decide)]
    cases gr with
    | false =>
      go_enter Tryz.func19, Tryz.ntmps19
      go_wp2_with fail
      generalize w.alloc _ = w0 at *
      refine (HK.out _).mono ?_
      rintro e w1 ⟨rfl, b1⟩
      have V := Lib.hid (cv_var' w1 HC.out.size)
      have HG2 := Lib.hid (((HG0.out.on b1).new cv0 43).putAt (HG0.out.on b1).b.size (HG0.out.on b1).h.apart C)
      clear b1 HK HG0
      obtain ⟨_, c1, _⟩ := HC.out.cells _ _ V.out.at1
      go_wp2_with (first | refine cv_store rfl (.tmp 8) (.tmp 15) rfl w1.heap.size cv0 C rfl rfl V.out.at0 rfl HC.out.size HC.out.one ?_)
      clear c1 V
      generalize (w1.alloc _).setRow _ _ = wv at *
      generalize w1.heap.size = g at *
      refine (HO.out _).mono ?_
      rintro e w2 ⟨rfl, b2⟩
      have HG3 := Lib.hid (HG2.out.on b2)
      clear b2 HG2 HO
      go_wp2_with fail
      have HG0 := Lib.hid HG3.out.drew
      have HS0 := Lib.hid HG0.out.h
      clear HG3
      have FP := Lib.hid (show ∀ w', Held w' ((g, C, 43) :: []) → (Instr.loadAt 9 (.pointer (some ⟨g, 1, none⟩))).run Tryz.prog w' = .ok (.string tp) w' from fun w' hw => (HC.out.strs (show _ = some (Obj.cells (C) 43 (0, 0)) from hw (g, C, 43) (.head _))).2.1)
      refine sq_go (S := fun w' => Held w' ((g, C, 43) :: [])) [(true, 0), (true, 1), (true, 3), (true, 4), (false, 2), (false, 5), (true, 6), (true, 7), (true, 8), (true, 9), (true, 10)] (by kernel_rfl) (fun d _ _ _ _ h => by cases d <;> exact h) HS0.out ?_
      refine sq_ps [(0, .int .i64 id), (1, .string x), (3, .pointer (some ⟨g, 1, none⟩))] (by kernel_rfl) ?_
      refine sq_ld (some 32) FP.out (by kernel_rfl) ?_
      refine sq_c (some 30) Tryz.func44 (HCb.out _) (by kernel_rfl) ?_
      rintro e v1 ⟨rfl, bw1⟩
      have HG1 := Lib.hid (HG0.out.on bw1)
      have HS1 := Lib.hid HG1.out.h
      refine ⟨_, rfl, HS1.out, ?_⟩
      refine sq_c (some 33) Tryz.func43 (HRt.out _) (by kernel_rfl) ?_
      rintro e v2 ⟨rfl, bw2⟩
      have HG2 := Lib.hid (HG1.out.on bw2)
      have HS2 := Lib.hid HG2.out.h
      refine ⟨_, rfl, HS2.out, ?_⟩
      refine sq_ps [(6, .tuple #[.string rt, .bool false]), (7, .string rt), (8, .bool false), (9, .string rt), (10, .bool false)] (by kernel_rfl) ?_
      refine sq_fin { tmps := List.toArray (List.append [.int .i64 id, .string x, .bool false, undef, undef, undef, .pointer (some ⟨w.heap.size, 0, none⟩), .bool false, .pointer (some ⟨g, 0, none⟩), .bool true, .string rt, .bool false, .tuple #[.agg C, .bool true], .int .i64 id, .tuple #[.agg C, .bool true], .agg C, .bool true, .bool true, .bool false, .bool false, .string x, .pointer (some ⟨g, 1, none⟩), .string tp, .bool true, .bool false, .bool false, undef, .tuple #[.string rt, .bool false], .int .i64 id, .string x, .string cb, .pointer (some ⟨g, 1, none⟩), .string tp, .tuple #[.string rt, .bool false], .string rt, .bool false, undef, undef, undef, undef] ([undef, undef, undef, undef, undef, undef, undef, undef, undef, undef, undef, undef, undef, undef])), defers := [] } (by kernel_rfl) ?_
      refine (by assumption : ∀ (a : Act) (w_1 : World), Code.wp _ _ _ a w_1 → _) _ _ ?_
      have HE := Lib.hid (HG2.out.put (Nat.le_refl _) (tpT noT))
      go_wp2_with (first | refine store_v rfl 25 (.tmp 6) (.tmp 45) rfl w.heap.size _ (tpT noT) rfl rfl HG2.out.out Tryz.infoPoint rfl (by kernel_rfl) ?_)
      exact bodyPost_ret (res_pt HE.out.out rfl Tryz.results19 _ rfl) rfl ⟨rfl, HE.out.b⟩
    | true =>
      go_enter Tryz.func19, Tryz.ntmps19
      go_wp2_with fail
      generalize w.alloc _ = w0 at *
      refine (HK.out _).mono ?_
      rintro e w1 ⟨rfl, b1⟩
      have V := Lib.hid (cv_var' w1 HC.out.size)
      have HG2 := Lib.hid (((HG0.out.on b1).new cv0 43).putAt (HG0.out.on b1).b.size (HG0.out.on b1).h.apart C)
      clear b1 HK HG0
      obtain ⟨_, c1, _⟩ := HC.out.cells _ _ V.out.at1
      go_wp2_with (first | refine cv_store rfl (.tmp 8) (.tmp 15) rfl w1.heap.size cv0 C rfl rfl V.out.at0 rfl HC.out.size HC.out.one ?_)
      clear c1 V
      generalize (w1.alloc _).setRow _ _ = wv at *
      generalize w1.heap.size = g at *
      refine (HO.out _).mono ?_
      rintro e w2 ⟨rfl, b2⟩
      have HG3 := Lib.hid (HG2.out.on b2)
      clear b2 HG2 HO
      go_wp2_with fail
      have HG0 := Lib.hid HG3.out.drew
      have HS0 := Lib.hid HG0.out.h
      clear HG3
      have FP := Lib.hid (show ∀ w', Held w' ((g, C, 43) :: []) → (Instr.loadAt 9 (.pointer (some ⟨g, 1, none⟩))).run Tryz.prog w' = .ok (.string tp) w' from fun w' hw => (HC.out.strs (show _ = some (Obj.cells (C) 43 (0, 0)) from hw (g, C, 43) (.head _))).2.1)
      refine sq_go (S := fun w' => Held w' ((g, C, 43) :: [])) [(true, 0), (true, 1), (true, 3), (true, 4), (false, 2), (false, 5), (true, 6), (true, 7), (true, 8), (true, 9), (true, 10)] (by kernel_rfl) (fun d _ _ _ _ h => by cases d <;> exact h) HS0.out ?_
      refine sq_ps [(0, .int .i64 id), (1, .string x), (3, .pointer (some ⟨g, 1, none⟩))] (by kernel_rfl) ?_
      refine sq_ld (some 32) FP.out (by kernel_rfl) ?_
      refine sq_c (some 30) Tryz.func44 (HCb.out _) (by kernel_rfl) ?_
      rintro e v1 ⟨rfl, bw1⟩
      have HG1 := Lib.hid (HG0.out.on bw1)
      have HS1 := Lib.hid HG1.out.h
      refine ⟨_, rfl, HS1.out, ?_⟩
      refine sq_c (some 33) Tryz.func43 (HRt.out _) (by kernel_rfl) ?_
      rintro e v2 ⟨rfl, bw2⟩
      have HG2 := Lib.hid (HG1.out.on bw2)
      have HS2 := Lib.hid HG2.out.h
      refine ⟨_, rfl, HS2.out, ?_⟩
      refine sq_ps [(6, .tuple #[.string rt, .bool false]), (7, .string rt), (8, .bool false), (9, .string rt), (10, .bool false)] (by kernel_rfl) ?_
      refine sq_fin { tmps := List.toArray (List.append [.int .i64 id, .string x, .bool true, undef, undef, undef, .pointer (some ⟨w.heap.size, 0, none⟩), .bool false, .pointer (some ⟨g, 0, none⟩), .bool true, .string rt, .bool false, .tuple #[.agg C, .bool true], .int .i64 id, .tuple #[.agg C, .bool true], .agg C, .bool true, .bool true, .bool false, .bool false, .string x, .pointer (some ⟨g, 1, none⟩), .string tp, .bool true, .bool false, .bool false, undef, .tuple #[.string rt, .bool false], .int .i64 id, .string x, .string cb, .pointer (some ⟨g, 1, none⟩), .string tp, .tuple #[.string rt, .bool false], .string rt, .bool false, undef, undef, undef, undef] ([undef, undef, undef, undef, undef, undef, undef, undef, undef, undef, undef, undef, undef, undef])), defers := [] } (by kernel_rfl) ?_
      refine (by assumption : ∀ (a : Act) (w_1 : World), Code.wp _ _ _ a w_1 → _) _ _ ?_
      have HE := Lib.hid (HG2.out.put (Nat.le_refl _) (tpT noT))
      go_wp2_with (first | refine store_v rfl 25 (.tmp 6) (.tmp 45) rfl w.heap.size _ (tpT noT) rfl rfl HG2.out.out Tryz.infoPoint rfl (by kernel_rfl) ?_)
      exact bodyPost_ret (res_pt HE.out.out rfl Tryz.results19 _ rfl) rfl ⟨rfl, HE.out.b⟩
  | true =>
    rw [Bool.true_and]
    cases gr with
    | false =>
      rw [Bool.false_and, if_pos (by decide), if_neg (by decide)]
      go_enter Tryz.func19, Tryz.ntmps19
      go_wp2_with fail
      generalize w.alloc _ = w0 at *
      refine (HK.out _).mono ?_
      rintro e w1 ⟨rfl, b1⟩
      have V := Lib.hid (cv_var' w1 HC.out.size)
      have HG2 := Lib.hid (((HG0.out.on b1).new cv0 43).putAt (HG0.out.on b1).b.size (HG0.out.on b1).h.apart C)
      clear b1 HK HG0
      obtain ⟨_, c1, _⟩ := HC.out.cells _ _ V.out.at1
      go_wp2_with (first | refine cv_store rfl (.tmp 8) (.tmp 15) rfl w1.heap.size cv0 C rfl rfl V.out.at0 rfl HC.out.size HC.out.one ?_)
      clear c1 V
      generalize (w1.alloc _).setRow _ _ = wv at *
      generalize w1.heap.size = g at *
      refine (HO.out _).mono ?_
      rintro e w2 ⟨rfl, b2⟩
      have HG3 := Lib.hid (HG2.out.on b2)
      clear b2 HG2 HO
      go_wp2_with fail
      have HG0 := Lib.hid HG3.out.drew
      have HS0 := Lib.hid HG0.out.h
      clear HG3
      have FP := Lib.hid (show ∀ w', Held w' ((g, C, 43) :: []) → (Instr.loadAt 9 (.pointer (some ⟨g, 1, none⟩))).run Tryz.prog w' = .ok (.string tp) w' from fun w' hw => (HC.out.strs (show _ = some (Obj.cells (C) 43 (0, 0)) from hw (g, C, 43) (.head _))).2.1)
      refine sq_go (S := fun w' => Held w' ((g, C, 43) :: [])) [(true, 0), (true, 1), (true, 3), (true, 4), (false, 2), (false, 5), (true, 6), (true, 7), (true, 8), (true, 9), (true, 10)] (by kernel_rfl) (fun d _ _ _ _ h => by cases d <;> exact h) HS0.out ?_
      refine sq_ps [(0, .int .i64 id), (1, .string x), (3, .pointer (some ⟨g, 1, none⟩))] (by kernel_rfl) ?_
      refine sq_ld (some 32) FP.out (by kernel_rfl) ?_
      refine sq_c (some 30) Tryz.func44 (HCb.out _) (by kernel_rfl) ?_
      rintro e v1 ⟨rfl, bw1⟩
      have HG1 := Lib.hid (HG0.out.on bw1)
      have HS1 := Lib.hid HG1.out.h
      refine ⟨_, rfl, HS1.out, ?_⟩
      refine sq_c (some 33) Tryz.func43 (HRt.out _) (by kernel_rfl) ?_
      rintro e v2 ⟨rfl, bw2⟩
      have HG2 := Lib.hid (HG1.out.on bw2)
      have HS2 := Lib.hid HG2.out.h
      refine ⟨_, rfl, HS2.out, ?_⟩
      refine sq_ps [(6, .tuple #[.string rt, .bool true]), (7, .string rt), (8, .bool true), (9, .string rt), (10, .bool true)] (by kernel_rfl) ?_
      refine sq_fin { tmps := List.toArray (List.append [.int .i64 id, .string x, .bool false, undef, undef, undef, .pointer (some ⟨w.heap.size, 0, none⟩), .bool false, .pointer (some ⟨g, 0, none⟩), .bool true, .string rt, .bool true, .tuple #[.agg C, .bool true], .int .i64 id, .tuple #[.agg C, .bool true], .agg C, .bool true, .bool true, .bool false, .bool false, .string x, .pointer (some ⟨g, 1, none⟩), .string tp, .bool true, .bool false, .bool false, undef, .tuple #[.string rt, .bool true], .int .i64 id, .string x, .string cb, .pointer (some ⟨g, 1, none⟩), .string tp, .tuple #[.string rt, .bool true], .string rt, .bool true, undef, undef, undef, undef] ([undef, undef, undef, undef, undef, undef, undef, undef, undef, undef, undef, undef, undef, undef])), defers := [] } (by kernel_rfl) ?_
      refine (by assumption : ∀ (a : Act) (w_1 : World), Code.wp _ _ _ a w_1 → _) _ _ ?_
      have HE := Lib.hid (HG2.out.put (Nat.le_refl _) (tpT (false, x, rt)))
      go_wp2_with (first | refine store_v rfl 25 (.tmp 6) (.tmp 53) rfl w.heap.size _ (tpT (false, x, rt)) rfl rfl HG2.out.out Tryz.infoPoint rfl (by kernel_rfl) ?_)
      exact bodyPost_ret (res_pt HE.out.out rfl Tryz.results19 _ rfl) rfl ⟨rfl, HE.out.b⟩
    | true =>
      rw [Bool.true_and]
      cases he : rt.toList.isEmpty with
      | true =>
        rw [if_neg (by decide)]
        go_enter Tryz.func19, Tryz.ntmps19
        go_wp2_with fail
        generalize w.alloc _ = w0 at *
        refine (HK.out _).mono ?_
        rintro e w1 ⟨rfl, b1⟩
        have V := Lib.hid (cv_var' w1 HC.out.size)
        have HG2 := Lib.hid (((HG0.out.on b1).new cv0 43).putAt (HG0.out.on b1).b.size (HG0.out.on b1).h.apart C)
        clear b1 HK HG0
        obtain ⟨_, c1, _⟩ := HC.out.cells _ _ V.out.at1
        go_wp2_with (first | refine cv_store rfl (.tmp 8) (.tmp 15) rfl w1.heap.size cv0 C rfl rfl V.out.at0 rfl HC.out.size HC.out.one ?_)
        clear c1 V
        generalize (w1.alloc _).setRow _ _ = wv at *
        generalize w1.heap.size = g at *
        refine (HO.out _).mono ?_
        rintro e w2 ⟨rfl, b2⟩
        have HG3 := Lib.hid (HG2.out.on b2)
        clear b2 HG2 HO
        go_wp2_with fail
        have HG0 := Lib.hid HG3.out.drew
        have HS0 := Lib.hid HG0.out.h
        clear HG3
        have FP := Lib.hid (show ∀ w', Held w' ((g, C, 43) :: []) → (Instr.loadAt 9 (.pointer (some ⟨g, 1, none⟩))).run Tryz.prog w' = .ok (.string tp) w' from fun w' hw => (HC.out.strs (show _ = some (Obj.cells (C) 43 (0, 0)) from hw (g, C, 43) (.head _))).2.1)
        refine sq_go (S := fun w' => Held w' ((g, C, 43) :: [])) [(true, 0), (true, 1), (true, 3), (true, 4), (false, 2), (false, 5), (true, 6), (true, 7), (true, 8), (true, 9), (true, 10)] (by kernel_rfl) (fun d _ _ _ _ h => by cases d <;> exact h) HS0.out ?_
        refine sq_ps [(0, .int .i64 id), (1, .string x), (3, .pointer (some ⟨g, 1, none⟩))] (by kernel_rfl) ?_
        refine sq_ld (some 32) FP.out (by kernel_rfl) ?_
        refine sq_c (some 30) Tryz.func44 (HCb.out _) (by kernel_rfl) ?_
        rintro e v1 ⟨rfl, bw1⟩
        have HG1 := Lib.hid (HG0.out.on bw1)
        have HS1 := Lib.hid HG1.out.h
        refine ⟨_, rfl, HS1.out, ?_⟩
        refine sq_c (some 33) Tryz.func43 (HRt.out _) (by kernel_rfl) ?_
        rintro e v2 ⟨rfl, bw2⟩
        have HG2 := Lib.hid (HG1.out.on bw2)
        have HS2 := Lib.hid HG2.out.h
        refine ⟨_, rfl, HS2.out, ?_⟩
        refine sq_ps [(6, .tuple #[.string rt, .bool true]), (7, .string rt), (8, .bool true), (9, .string rt), (10, .bool true)] (by kernel_rfl) ?_
        refine sq_fin { tmps := List.toArray (List.append [.int .i64 id, .string x, .bool true, undef, undef, undef, .pointer (some ⟨w.heap.size, 0, none⟩), .bool false, .pointer (some ⟨g, 0, none⟩), .bool true, .string rt, .bool true, .tuple #[.agg C, .bool true], .int .i64 id, .tuple #[.agg C, .bool true], .agg C, .bool true, .bool true, .bool false, .bool false, .string x, .pointer (some ⟨g, 1, none⟩), .string tp, .bool true, .bool false, .bool false, undef, .tuple #[.string rt, .bool true], .int .i64 id, .string x, .string cb, .pointer (some ⟨g, 1, none⟩), .string tp, .tuple #[.string rt, .bool true], .string rt, .bool true, undef, undef, undef, undef] ([undef, undef, undef, undef, undef, undef, undef, undef, undef, undef, undef, undef, undef, undef])), defers := [] } (by kernel_rfl) ?_
        refine (by assumption : ∀ (a : Act) (w_1 : World), Code.wp _ _ _ a w_1 → _) _ _ ?_
        have HE := Lib.hid (HG2.out.put (Nat.le_refl _) (tpT noT))
        go_wp2_with (first | refine store_v rfl 25 (.tmp 6) (.tmp 45) rfl w.heap.size _ (tpT noT) rfl rfl HG2.out.out Tryz.infoPoint rfl (by kernel_rfl) ?_)
        exact bodyPost_ret (res_pt HE.out.out rfl Tryz.results19 _ rfl) rfl ⟨rfl, HE.out.b⟩
      | false =>
        rw [if_pos (by decide), if_pos rfl]
        go_enter Tryz.func19, Tryz.ntmps19
        go_wp2_with fail
        generalize w.alloc _ = w0 at *
        refine (HK.out _).mono ?_
        rintro e w1 ⟨rfl, b1⟩
        have V := Lib.hid (cv_var' w1 HC.out.size)
        have HG2 := Lib.hid (((HG0.out.on b1).new cv0 43).putAt (HG0.out.on b1).b.size (HG0.out.on b1).h.apart C)
        clear b1 HK HG0
        obtain ⟨_, c1, _⟩ := HC.out.cells _ _ V.out.at1
        go_wp2_with (first | refine cv_store rfl (.tmp 8) (.tmp 15) rfl w1.heap.size cv0 C rfl rfl V.out.at0 rfl HC.out.size HC.out.one ?_)
        clear c1 V
        generalize (w1.alloc _).setRow _ _ = wv at *
        generalize w1.heap.size = g at *
        refine (HO.out _).mono ?_
        rintro e w2 ⟨rfl, b2⟩
        have HG3 := Lib.hid (HG2.out.on b2)
        clear b2 HG2 HO
        go_wp2_with fail
        have HG0 := Lib.hid HG3.out.drew
        have HS0 := Lib.hid HG0.out.h
        clear HG3
        have FP := Lib.hid (show ∀ w', Held w' ((g, C, 43) :: []) → (Instr.loadAt 9 (.pointer (some ⟨g, 1, none⟩))).run Tryz.prog w' = .ok (.string tp) w' from fun w' hw => (HC.out.strs (show _ = some (Obj.cells (C) 43 (0, 0)) from hw (g, C, 43) (.head _))).2.1)
        refine sq_go (S := fun w' => Held w' ((g, C, 43) :: [])) [(true, 0), (true, 1), (true, 3), (true, 4), (false, 2), (false, 5), (true, 6), (true, 7), (true, 8), (true, 9), (true, 10)] (by kernel_rfl) (fun d _ _ _ _ h => by cases d <;> exact h) HS0.out ?_
        refine sq_ps [(0, .int .i64 id), (1, .string x), (3, .pointer (some ⟨g, 1, none⟩))] (by kernel_rfl) ?_
        refine sq_ld (some 32) FP.out (by kernel_rfl) ?_
        refine sq_c (some 30) Tryz.func44 (HCb.out _) (by kernel_rfl) ?_
        rintro e v1 ⟨rfl, bw1⟩
        have HG1 := Lib.hid (HG0.out.on bw1)
        have HS1 := Lib.hid HG1.out.h
        refine ⟨_, rfl, HS1.out, ?_⟩
        refine sq_c (some 33) Tryz.func43 (HRt.out _) (by kernel_rfl) ?_
        rintro e v2 ⟨rfl, bw2⟩
        have HG2 := Lib.hid (HG1.out.on bw2)
        have HS2 := Lib.hid HG2.out.h
        refine ⟨_, rfl, HS2.out, ?_⟩
        refine sq_ps [(6, .tuple #[.string rt, .bool true]), (7, .string rt), (8, .bool true), (9, .string rt), (10, .bool true)] (by kernel_rfl) ?_
        refine sq_fin { tmps := List.toArray (List.append [.int .i64 id, .string x, .bool true, undef, undef, undef, .pointer (some ⟨w.heap.size, 0, none⟩), .bool false, .pointer (some ⟨g, 0, none⟩), .bool true, .string rt, .bool true, .tuple #[.agg C, .bool true], .int .i64 id, .tuple #[.agg C, .bool true], .agg C, .bool true, .bool true, .bool false, .bool false, .string x, .pointer (some ⟨g, 1, none⟩), .string tp, .bool true, .bool false, .bool false, undef, .tuple #[.string rt, .bool true], .int .i64 id, .string x, .string cb, .pointer (some ⟨g, 1, none⟩), .string tp, .tuple #[.string rt, .bool true], .string rt, .bool true, undef, undef, undef, undef] ([undef, undef, undef, undef, undef, undef, undef, undef, undef, undef, undef, undef, undef, undef])), defers := [] } (by kernel_rfl) ?_
        refine (by assumption : ∀ (a : Act) (w_1 : World), Code.wp _ _ _ a w_1 → _) _ _ ?_
        obtain ⟨_, c1, _⟩ := HC.out.cells _ _ (show _ = some (Obj.cells C 43 (0, 0)) from HG2.out.h (g, C, 43) (.head _))
        go_wp2_with fail
        refine (HNg.out _).mono ?_
        rintro e w5 ⟨rfl, b5⟩
        have HG5 := Lib.hid (HG2.out.on b5)
        have HE := Lib.hid (HG5.out.put (Nat.le_refl _) (tpT (false, x, ng)))
        clear b5 c1 HG2
        go_wp2_with (first | refine store_v rfl 25 (.tmp 6) (.tmp 53) rfl w.heap.size _ (tpT (false, x, ng)) rfl rfl HG5.out.out Tryz.infoPoint rfl (by kernel_rfl) ?_)
        exact bodyPost_ret (res_pt HE.out.out rfl Tryz.results19 _ rfl) rfl ⟨rfl, HE.out.b⟩
end Go.Proofs.YtkmmlfocidfghaaGreat
