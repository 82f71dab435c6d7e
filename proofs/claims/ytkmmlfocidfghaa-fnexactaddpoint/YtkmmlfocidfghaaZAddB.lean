import Derived.Test.YtkmmlfocidfghaaZAdd
import Derived.Test.YtkmmlfocidfghaaZLaw
namespace Go.Proofs.Ytkmmlfocidfghaa
open Go.RowKit
theorem PtX.put10 {w0 w : World} {v : Value} {Q : P2} {g : Nat} {C C' : Array Value} (h : PtX w v Q) (hg : w0.heap[g]? = some (.cells C 48 (0, 0))) (b : Below w.heap.size w w0 := by assumption) : PtX (w0.setRow g C') v Q := by
  have h2 := h.below b
  cases Q with
  | none => exact h2
  | some A =>
    obtain ⟨xa, xb, ya, yb, e, h1, h2, h3, h4⟩ := h2
    exact ⟨xa, xb, ya, yb, e, RowX.setRow h1 hg (by decide), RowX.setRow h2 hg (by decide), RowX.setRow h3 hg (by decide), RowX.setRow h4 hg (by decide)⟩
set_option maxRecDepth 8000 in
set_option maxHeartbeats 4000000 in
theorem ladd10_x {w : World} {va vb vp : Value} {Q R : P2} {n : Nat} (hA : PtX w va Q) (hB : PtX w vb R) (hp : RowX w vp n) (iA : InO n Q) (iB : InO n R) (hn : n < GB) (h1 : 1 < n) : Calls Try.prog 34 #[va, vb, vp] w (PtTo (plusP n Q R) w) := by
  obtain ⟨A1, n1, c1, A2, n2, c2, A3, n3, c3, A4, n4, c4, rfl⟩ := hA.cells
  obtain ⟨B1, m1, d1, B2, m2, d2, B3, m3, d3, B4, m4, d4, rfl⟩ := hB.cells
  cases Q with
  | none =>
    obtain ⟨pA, pn, pc, rfl⟩ := hp.shape
    have HX := Lib.hid hB
    cases R with
    | none =>
      have HG0 := Lib.hid (begun3 (Held.none w) (ptC true (.slice A1 n1 c1) (.slice A2 n2 c2) (.slice A3 n3 c3) (.slice A4 n4 c4)) (ptC true (.slice B1 m1 d1) (.slice B2 m2 d2) (.slice B3 m3 d3) (.slice B4 m4 d4)) #[.bool false, .slice none 0 0, .slice none 0 0, .slice none 0 0, .slice none 0 0] 48 48 48)
      have HE := Lib.hid (HG0.out.put (show w.heap.size ≤ (w.heap.size + 1 + 1) by omega) (ptC true (.slice B1 m1 d1) (.slice B2 m2 d2) (.slice B3 m3 d3) (.slice B4 m4 d4)))
      clear hp iA iB hn h1 hA hB
      unfold plusP PtTo
      go_enter Try.func34, Try.ntmps34
      go_upto_region 1 with (fail)
      generalize ((w.alloc _).alloc _).alloc _ = w0 at *
      have HHA := Lib.hid (show _ = some (Obj.cells (ptC true (.slice A1 n1 c1) (.slice A2 n2 c2) (.slice A3 n3 c3) (.slice A4 n4 c4)) 48 (0, 0)) from HG0.out.h (w.heap.size, ptC true (.slice A1 n1 c1) (.slice A2 n2 c2) (.slice A3 n3 c3) (.slice A4 n4 c4), 48) (.tail _ (.head _)))
      have HHB := Lib.hid (show _ = some (Obj.cells (ptC true (.slice B1 m1 d1) (.slice B2 m2 d2) (.slice B3 m3 d3) (.slice B4 m4 d4)) 48 (0, 0)) from HG0.out.h ((w.heap.size + 1), ptC true (.slice B1 m1 d1) (.slice B2 m2 d2) (.slice B3 m3 d3) (.slice B4 m4 d4), 48) (.head _))
      have za := pt_z HHA.out
      have zb := pt_z HHB.out
      go_wp2_with (first | refine load_v rfl 48 (.tmp 4) rfl (w.heap.size + 1) (ptC true (.slice B1 m1 d1) (.slice B2 m2 d2) (.slice B3 m3 d3) (.slice B4 m4 d4)) rfl HHB.out Try.underlying48 rfl Try.infoPt10 ?_ | refine store_v rfl 48 (.tmp 6) (.tmp 16) rfl ((w.heap.size + 1 + 1)) _ (ptC true (.slice B1 m1 d1) (.slice B2 m2 d2) (.slice B3 m3 d3) (.slice B4 m4 d4)) rfl rfl HG0.out.out Try.infoPt10 rfl (by kernel_rfl) ?_)
      exact bodyPost_ret (results_cell_row Try.results34 _ _ ((w.heap.size + 1 + 1)) _ _ _ _ rfl HE.out.out Try.underlying48 rfl Try.infoPt10) rfl ⟨_, rfl, HX.out.put10 HG0.out.out HG0.out.b, HE.out.b⟩
    | some B =>
      have HG0 := Lib.hid (begun3 (Held.none w) (ptC true (.slice A1 n1 c1) (.slice A2 n2 c2) (.slice A3 n3 c3) (.slice A4 n4 c4)) (ptC false (.slice B1 m1 d1) (.slice B2 m2 d2) (.slice B3 m3 d3) (.slice B4 m4 d4)) #[.bool false, .slice none 0 0, .slice none 0 0, .slice none 0 0, .slice none 0 0] 48 48 48)
      have HE := Lib.hid (HG0.out.put (show w.heap.size ≤ (w.heap.size + 1 + 1) by omega) (ptC false (.slice B1 m1 d1) (.slice B2 m2 d2) (.slice B3 m3 d3) (.slice B4 m4 d4)))
      clear hp iA iB hn h1 hA hB
      unfold plusP PtTo
      go_enter Try.func34, Try.ntmps34
      go_upto_region 1 with (fail)
      generalize ((w.alloc _).alloc _).alloc _ = w0 at *
      have HHA := Lib.hid (show _ = some (Obj.cells (ptC true (.slice A1 n1 c1) (.slice A2 n2 c2) (.slice A3 n3 c3) (.slice A4 n4 c4)) 48 (0, 0)) from HG0.out.h (w.heap.size, ptC true (.slice A1 n1 c1) (.slice A2 n2 c2) (.slice A3 n3 c3) (.slice A4 n4 c4), 48) (.tail _ (.head _)))
      have HHB := Lib.hid (show _ = some (Obj.cells (ptC false (.slice B1 m1 d1) (.slice B2 m2 d2) (.slice B3 m3 d3) (.slice B4 m4 d4)) 48 (0, 0)) from HG0.out.h ((w.heap.size + 1), ptC false (.slice B1 m1 d1) (.slice B2 m2 d2) (.slice B3 m3 d3) (.slice B4 m4 d4), 48) (.head _))
      have za := pt_z HHA.out
      have zb := pt_z HHB.out
      go_wp2_with (first | refine load_v rfl 48 (.tmp 4) rfl (w.heap.size + 1) (ptC false (.slice B1 m1 d1) (.slice B2 m2 d2) (.slice B3 m3 d3) (.slice B4 m4 d4)) rfl HHB.out Try.underlying48 rfl Try.infoPt10 ?_ | refine store_v rfl 48 (.tmp 6) (.tmp 16) rfl ((w.heap.size + 1 + 1)) _ (ptC false (.slice B1 m1 d1) (.slice B2 m2 d2) (.slice B3 m3 d3) (.slice B4 m4 d4)) rfl rfl HG0.out.out Try.infoPt10 rfl (by kernel_rfl) ?_)
      exact bodyPost_ret (results_cell_row Try.results34 _ _ ((w.heap.size + 1 + 1)) _ _ _ _ rfl HE.out.out Try.underlying48 rfl Try.infoPt10) rfl ⟨_, rfl, HX.out.put10 HG0.out.out HG0.out.b, HE.out.b⟩
  | some A =>
    cases R with
    | none =>
      obtain ⟨pA, pn, pc, rfl⟩ := hp.shape
      have HX := Lib.hid hA
      have HG0 := Lib.hid (begun3 (Held.none w) (ptC false (.slice A1 n1 c1) (.slice A2 n2 c2) (.slice A3 n3 c3) (.slice A4 n4 c4)) (ptC true (.slice B1 m1 d1) (.slice B2 m2 d2) (.slice B3 m3 d3) (.slice B4 m4 d4)) #[.bool false, .slice none 0 0, .slice none 0 0, .slice none 0 0, .slice none 0 0] 48 48 48)
      have HE := Lib.hid (HG0.out.put (show w.heap.size ≤ (w.heap.size + 1 + 1) by omega) (ptC false (.slice A1 n1 c1) (.slice A2 n2 c2) (.slice A3 n3 c3) (.slice A4 n4 c4)))
      clear hp iA iB hn h1 hA hB
      unfold plusP PtTo
      go_enter Try.func34, Try.ntmps34
      go_upto_region 1 with (fail)
      generalize ((w.alloc _).alloc _).alloc _ = w0 at *
      have HHA := Lib.hid (show _ = some (Obj.cells (ptC false (.slice A1 n1 c1) (.slice A2 n2 c2) (.slice A3 n3 c3) (.slice A4 n4 c4)) 48 (0, 0)) from HG0.out.h (w.heap.size, ptC false (.slice A1 n1 c1) (.slice A2 n2 c2) (.slice A3 n3 c3) (.slice A4 n4 c4), 48) (.tail _ (.head _)))
      have HHB := Lib.hid (show _ = some (Obj.cells (ptC true (.slice B1 m1 d1) (.slice B2 m2 d2) (.slice B3 m3 d3) (.slice B4 m4 d4)) 48 (0, 0)) from HG0.out.h ((w.heap.size + 1), ptC true (.slice B1 m1 d1) (.slice B2 m2 d2) (.slice B3 m3 d3) (.slice B4 m4 d4), 48) (.head _))
      have za := pt_z HHA.out
      have zb := pt_z HHB.out
      go_wp2_with (first | refine load_v rfl 48 (.tmp 3) rfl w.heap.size (ptC false (.slice A1 n1 c1) (.slice A2 n2 c2) (.slice A3 n3 c3) (.slice A4 n4 c4)) rfl HHA.out Try.underlying48 rfl Try.infoPt10 ?_ | refine store_v rfl 48 (.tmp 6) (.tmp 19) rfl ((w.heap.size + 1 + 1)) _ (ptC false (.slice A1 n1 c1) (.slice A2 n2 c2) (.slice A3 n3 c3) (.slice A4 n4 c4)) rfl rfl HG0.out.out Try.infoPt10 rfl (by kernel_rfl) ?_)
      exact bodyPost_ret (results_cell_row Try.results34 _ _ ((w.heap.size + 1 + 1)) _ _ _ _ rfl HE.out.out Try.underlying48 rfl Try.infoPt10) rfl ⟨_, rfl, HX.out.put10 HG0.out.out HG0.out.b, HE.out.b⟩
    | some B =>
      rw [show plusP n (some A) (some B) = (if subP n B.1 A.1 = (0, 0) then (if A.2 = (0, 0) ∨ subP n B.2 A.2 ≠ (0, 0) then none else some (lineP n A B (tripleP n A.1) (addP n A.2 A.2))) else some (lineP n A B (subP n B.2 A.2) (subP n B.1 A.1))) from rfl]
      by_cases h : subP n B.1 A.1 = (0, 0)
      · rw [if_pos h]
        by_cases hy : A.2 = (0, 0) ∨ subP n B.2 A.2 ≠ (0, 0)
        · rw [if_pos hy]
          exact ladd10_none hA hB hp iA iB hn h1 h hy
        · rw [if_neg hy]
          exact ladd10_tangent hA hB hp iA iB hn h1 h (fun e => hy (.inl e)) (Classical.byContradiction fun e => hy (.inr e))
      · rw [if_neg h]
        exact ladd10_chord hA hB hp iA iB hn h1 h
theorem yields_fieldC {ops : Array Oper} {S : World → Prop} {o : Oper} {a : Act} (hw : Region.wanted o (yielded ops a.tmps) = true) (x : Operand) (ho : o.op = .field 39 x 1) (C : Array Value) (s : ByteArray) (hx : a.eval x = .agg C) (hF : ∀ w, (Instr.field 39 (.agg C) 1).run Try.prog w = .ok (.string s) w) : YieldsIf Try.prog ops S o (.string s) a := by
  refine .inl ⟨hw, fun w _ => ?_⟩
  unfold execOp
  simp only [ho, hx]
  simp [hF w]
set_option maxRecDepth 8000 in
set_option maxHeartbeats 4000000 in
theorem addPoint_any (id : Int) (a b : Tp) (w : World) : Calls Try.prog 17 #[.int .i64 id, .agg (tpT a), .agg (tpT b)] w fun e w' => e = .returned (.agg (tpT (addPtG id a b))) ∧ Below w.heap.size w w' := by
  have HOa := Lib.hid (pointOk_any id a)
  have HOb := Lib.hid (pointOk_any id b)
  have HG0 := Lib.hid (begun3 (Held.none w) (tpT a) (tpT b) #[.bool false, .string ⟨#[]⟩, .string ⟨#[]⟩] 26 26 26)
  unfold addPtG
  cases ha : pointB id a with
  | false =>
    rw [ha] at HOa
    rw [Bool.false_and, if_neg (by decide)]
    clear ha HOb
    go_enter Try.func17, Try.ntmps17
    go_upto_region 1 with (fail)
    generalize ((w.alloc _).alloc _).alloc _ = w0 at *
    have HHa := Lib.hid (show _ = some (Obj.cells (tpT a) 26 (0, 0)) from HG0.out.h (w.heap.size, tpT a, 26) (.tail _ (.head _)))
    go_wp2_with (first | refine load_v rfl 26 (.tmp 4) rfl w.heap.size (tpT a) rfl HHa.out Try.underlying26 rfl Try.infoPoint ?_)
    refine (HOa.out _).mono ?_
    rintro e w1 ⟨rfl, b1⟩
    have HG1 := Lib.hid (HG0.out.on b1)
    clear b1 HG0 HHa HOa
    have HE := Lib.hid (HG1.out.put (show w.heap.size ≤ (w.heap.size + 1 + 1) by omega) (tpT noT))
    go_wp2_with (first | refine store_v rfl 26 (.tmp 6) (.tmp 17) rfl ((w.heap.size + 1 + 1)) _ (tpT noT) rfl rfl HG1.out.out Try.infoPoint rfl (by kernel_rfl) ?_)
    exact bodyPost_ret (results_cell_row Try.results17 _ _ ((w.heap.size + 1 + 1)) _ _ _ _ rfl HE.out.out Try.underlying26 rfl Try.infoPoint) rfl ⟨rfl, HE.out.b⟩
  | true =>
  rw [ha] at HOa
  rw [Bool.true_and]
  cases hb : pointB id b with
  | false =>
    rw [hb] at HOb
    rw [if_neg (by decide)]
    clear ha hb
    go_enter Try.func17, Try.ntmps17
    go_upto_region 1 with (fail)
    generalize ((w.alloc _).alloc _).alloc _ = w0 at *
    have HHa := Lib.hid (show _ = some (Obj.cells (tpT a) 26 (0, 0)) from HG0.out.h (w.heap.size, tpT a, 26) (.tail _ (.head _)))
    go_wp2_with (first | refine load_v rfl 26 (.tmp 4) rfl w.heap.size (tpT a) rfl HHa.out Try.underlying26 rfl Try.infoPoint ?_)
    refine (HOa.out _).mono ?_
    rintro e w1 ⟨rfl, b1⟩
    have HG1 := Lib.hid (HG0.out.on b1)
    clear b1 HG0 HHa HOa
    obtain ⟨e0, e1, e2⟩ := tp_cells (show _ = some (Obj.cells (tpT b) 26 (0, 0)) from HG1.out.h ((w.heap.size + 1), tpT b, 26) (.head _))
    go_wp2_with fail
    refine (HOb.out _).mono ?_
    rintro e w2 ⟨rfl, b2⟩
    have HG2 := Lib.hid (HG1.out.on b2)
    clear b2 HG1 HOb e0 e1 e2
    have HE := Lib.hid (HG2.out.put (show w.heap.size ≤ (w.heap.size + 1 + 1) by omega) (tpT noT))
    go_wp2_with (first | refine store_v rfl 26 (.tmp 6) (.tmp 17) rfl ((w.heap.size + 1 + 1)) _ (tpT noT) rfl rfl HG2.out.out Try.infoPoint rfl (by kernel_rfl) ?_)
    exact bodyPost_ret (results_cell_row Try.results17 _ _ ((w.heap.size + 1 + 1)) _ _ _ _ rfl HE.out.out Try.underlying26 rfl Try.infoPoint) rfl ⟨rfl, HE.out.b⟩
  | true =>
    rw [hb] at HOb
    rw [if_pos rfl]
    have Fa := point_fit ha
    have Fb := point_fit hb
    have l3 := gV_lt (modB_parts (curve_fit Fa.cv).mp).1
    have l1 := (modB_parts (curve_fit Fa.cv).mp).2
    have on := (curve_sums Fa.cv).base.on Fa.on Fb.on
    have HI := Lib.hid (show a.2.1.size ≤ 1000000 ∧ a.2.2.size ≤ 1000000 ∧ b.2.1.size ≤ 1000000 ∧ b.2.2.size ≤ 1000000 ∧ True from ⟨Fa.s1, Fa.s2, Fb.s1, Fb.s2, trivial⟩)
    have HN2 := Lib.hid (show InO (gV (cvPT id)) (val2 a) ∧ InO (gV (cvPT id)) (val2 b) ∧ gV (cvPT id) < GB ∧ 1 < gV (cvPT id) ∧ (∀ A, plusP (gV (cvPT id)) (val2 a) (val2 b) = some A → A.1.1 < SM ∧ A.2.1 < SM) from ⟨val_in Fa.on, val_in Fb.on, l3, l1, fun A hA => by
      have h := val_in on
      rw [hA] at h
      exact ⟨sm_one (Nat.lt_trans h.1.1 l3), sm_one (Nat.lt_trans h.2.1 l3)⟩⟩)
    have HIn := Lib.hid (fun w => in_x (cvPT id) w (curve_fit Fa.cv).sp)
    have HCu := Lib.hid (l09Curve_any id)
    have HFd := Lib.hid (cv_field id)
    obtain ⟨Qa, hQa⟩ : ∃ Q, val2 a = Q := ⟨_, rfl⟩
    obtain ⟨Qb, hQb⟩ : ∃ Q, val2 b = Q := ⟨_, rfl⟩
    have HQa := Lib.hid hQa
    have HQb := Lib.hid hQb
    rw [hQa, hQb] at HN2
    rw [hQa, hQb]
    clear ha hb Fa Fb l3 l1 on hQa hQb
    generalize cvC id = C at *
    generalize cvPT id = tp at *
    go_enter Try.func17, Try.ntmps17
    go_upto_region 1 with (fail)
    generalize ((w.alloc _).alloc _).alloc _ = w0 at *
    have HHa := Lib.hid (show _ = some (Obj.cells (tpT a) 26 (0, 0)) from HG0.out.h (w.heap.size, tpT a, 26) (.tail _ (.head _)))
    go_wp2_with (first | refine load_v rfl 26 (.tmp 4) rfl w.heap.size (tpT a) rfl HHa.out Try.underlying26 rfl Try.infoPoint ?_)
    refine (HOa.out _).mono ?_
    rintro e w1 ⟨rfl, b1⟩
    have HG1 := Lib.hid (HG0.out.on b1)
    clear b1 HG0 HHa HOa
    obtain ⟨e0, e1, e2⟩ := tp_cells (show _ = some (Obj.cells (tpT b) 26 (0, 0)) from HG1.out.h ((w.heap.size + 1), tpT b, 26) (.head _))
    go_wp2_with fail
    refine (HOb.out _).mono ?_
    rintro e w2 ⟨rfl, b2⟩
    have HG2 := Lib.hid (HG1.out.on b2)
    clear b2 HG1 HOb e0 e1 e2
    go_wp2_with fail
    have HGd := Lib.hid HG2.out.drew
    have HG0 := HGd
    have HS0 := Lib.hid HG0.out.h
    have Fa := Lib.hid (show ∀ w', Held w' (((w.heap.size + 1), tpT b, 26) :: (w.heap.size, tpT a, 26) :: []) → (Instr.loadAt 26 (.pointer (some ⟨w.heap.size, 0, none⟩))).run Try.prog w' = .ok (.agg (tpT a)) w' from fun w' hw => (tp_at (show _ = some (Obj.cells (tpT a) 26 (0, 0)) from hw (w.heap.size, tpT a, 26) (.tail _ (.head _)))).all)
    have Fb := Lib.hid (show ∀ w', Held w' (((w.heap.size + 1), tpT b, 26) :: (w.heap.size, tpT a, 26) :: []) → (Instr.loadAt 26 (.pointer (some ⟨w.heap.size + 1, 0, none⟩))).run Try.prog w' = .ok (.agg (tpT b)) w' from fun w' hw => (tp_at (show _ = some (Obj.cells (tpT b) 26 (0, 0)) from hw ((w.heap.size + 1), tpT b, 26) (.head _))).all)
    clear HG2 HGd
    refine sq_go (S := fun w' => Held w' (((w.heap.size + 1), tpT b, 26) :: (w.heap.size, tpT a, 26) :: [])) [(true, 0), (true, 2), (true, 4), (false, 1), (false, 3), (false, 5), (true, 6), (false, 7), (false, 8), (false, 9), (false, 10)] (by kernel_rfl) (fun d _ _ _ _ h => by cases d <;> exact h) HS0.out ?_
    refine sq_ld (some 18) Fa.out (by kernel_rfl) ?_
    refine sq_ld (some 20) Fb.out (by kernel_rfl) ?_
    refine sq_ps [(4, .int .i64 id)] (by kernel_rfl) ?_
    refine sq_c (some 19) Try.func24 (in10_x a _ HI.out.1 HI.out.2.1) (by kernel_rfl) ?_
    rintro e v1 ⟨A1, n1, c1, A2, n2, c2, rfl, k1, k2, bw1⟩
    have XA := Lib.hid (in10_pt k1 k2)
    rw [HQa.out] at XA
    generalize ptC a.1 _ _ _ _ = Da at *
    have HG1 := Lib.hid (HG0.out.on bw1)
    have HS1 := Lib.hid HG1.out.h
    refine ⟨_, rfl, HS1.out, ?_⟩
    refine sq_c (some 21) Try.func24 (in10_x b _ HI.out.2.2.1 HI.out.2.2.2.1) (by kernel_rfl) ?_
    rintro e v2 ⟨B1, m1, d1, B2, m2, d2, rfl, k3, k4, bw2⟩
    have XB := Lib.hid (in10_pt k3 k4)
    rw [HQb.out] at XB
    have XA := Lib.hid (XA.out.below bw2)
    generalize ptC b.1 _ _ _ _ = Db at *
    have HG2 := Lib.hid (HG1.out.on bw2)
    have HS2 := Lib.hid HG2.out.h
    refine ⟨_, rfl, HS2.out, ?_⟩
    refine sq_c (some 23) Try.func32 (HCu.out _) (by kernel_rfl) ?_
    rintro e v3 ⟨rfl, bw3⟩
    have XA := Lib.hid (XA.out.below bw3)
    have XB := Lib.hid (XB.out.below bw3)
    have HG3 := Lib.hid (HG2.out.on bw3)
    have HS3 := Lib.hid HG3.out.h
    refine ⟨_, rfl, HS3.out, ?_⟩
    refine sq_take (some 24) (.string tp) (by kernel_rfl) (yields_fieldC (by kernel_rfl) (.tmp 23) (by kernel_rfl) C tp (by kernel_rfl) HFd.out) ?_
    refine sq_c (some 25) Try.func25 (HIn.out _) (by kernel_rfl) ?_
    rintro e v4 ⟨vp, rfl, k5, bw4⟩
    have XA := Lib.hid (XA.out.below bw4)
    have XB := Lib.hid (XB.out.below bw4)
    have XP := Lib.hid k5
    obtain ⟨pA, pn, pc, rfl⟩ := k5.shape
    have HG4 := Lib.hid (HG3.out.on bw4)
    have HS4 := Lib.hid HG4.out.h
    refine ⟨_, rfl, HS4.out, ?_⟩
    refine sq_c (some 26) Try.func34 (ladd10_x XA.out XB.out XP.out HN2.out.1 HN2.out.2.1 HN2.out.2.2.1 HN2.out.2.2.2.1) (by kernel_rfl) ?_
    rintro e v5 ⟨vs, rfl, k6, bw5⟩
    have XS := Lib.hid k6
    obtain ⟨E1, o1, f1, E2, o2, f2, E3, o3, f3, E4, o4, f4, rfl⟩ := k6.cells
    generalize ptC _ (.slice E1 o1 f1) _ _ _ = Ds at *
    have HG5 := Lib.hid (HG4.out.on bw5)
    have HS5 := Lib.hid HG5.out.h
    refine ⟨_, rfl, HS5.out, ?_⟩
    refine sq_c (some 27) Try.func30 (out10_x XS.out HN2.out.2.2.2.2) (by kernel_rfl) ?_
    rintro e v6 ⟨rfl, bw6⟩
    have HG6 := Lib.hid (HG5.out.on bw6)
    have HS6 := Lib.hid HG6.out.h
    refine ⟨_, rfl, HS6.out, ?_⟩
    have HE := Lib.hid (HG6.out.put (show w.heap.size ≤ (w.heap.size + 1 + 1) by omega) (tpT (txt2 (plusP (gV tp) Qa Qb))))
    refine sq_st 26 (w.heap.size + 1 + 1) (tpT (txt2 (plusP (gV tp) Qa Qb))) HG6.out.out Try.infoPoint rfl (by kernel_rfl) (HS6.out.setRow HG6.out.ne) (by kernel_rfl) ?_
    refine sq_done ?_
    refine (by assumption : ∀ (a : Act) (w_1 : World), Code.wp _ Code.ret _ a w_1 → _) _ _ ?_
    refine wp_ret ?_
    exact bodyPost_ret (results_cell_row Try.results17 _ _ ((w.heap.size + 1 + 1)) _ _ _ _ (by kernel_rfl) HE.out.out Try.underlying26 rfl Try.infoPoint) (by kernel_rfl) ⟨rfl, HE.out.b⟩
end Go.Proofs.Ytkmmlfocidfghaa
