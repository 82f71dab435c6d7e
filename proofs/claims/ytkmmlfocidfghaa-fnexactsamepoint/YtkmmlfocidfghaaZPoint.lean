import Derived.Test.YtkmmlfocidfghaaZOn
import Derived.LoopN
namespace Go.Proofs.Ytkmmlfocidfghaa
open Go.RowKit
/-- Whether a point stands on a curve. -/
def onB (id : Int) (x y : ByteArray) : Bool := decide (mulP (gV (cvPT id)) (gV y, 0) (gV y, 0) = rightP (gV (cvPT id)) (gV (cvBT id), 0) (gV x, 0))
def pointB (id : Int) (q : Tp) : Bool := cvB id && (if q.1 then q.2.1.toList.isEmpty && q.2.2.toList.isEmpty else restB q.2.1 (cvPT id) && (restB q.2.2 (cvPT id) && onB id q.2.1 q.2.2))
theorem stand1 (w : World) (A : Array Value) (tA : TypeId) : Stand w (w.alloc (.cells A tA)) [(w.heap.size, A, tA)] := Stand.new ⟨Held.none w, Below.refl _ _⟩ A tA
set_option maxRecDepth 8000 in
set_option maxHeartbeats 4000000 in
theorem pointOk_any (id : Int) (q : Tp) (w : World) : Calls Try.prog 9 #[.int .i64 id, .agg (tpT q)] w fun e w' => e = .returned (.bool (pointB id q)) ∧ Below w.heap.size w w' := by
  obtain ⟨z, x, y⟩ := q
  have HK := Lib.hid (curveOf_any id)
  have HC := Lib.hid (cv_in id)
  have HS := Lib.hid (stand1 w (tpT (z, x, y)) 26)
  unfold pointB
  simp only
  cases hb : cvB id with
  | false =>
    rw [hb] at HK
    rw [Bool.false_and]
    clear hb
    generalize cvC id = C at *
    cases z <;> (
      go_enter Try.func9, Try.ntmps9
      go_wp2_with fail
      generalize w.alloc _ = w0 at *
      refine (HK.out _).mono ?_
      rintro e w1 ⟨rfl, b1⟩
      have V := Lib.hid (cv_var' w1 HC.out.size)
      have HG2 := Lib.hid (((HS.out.on b1).new cv0 39).putAt (HS.out.on b1).b.size (HS.out.on b1).h.apart C)
      clear b1 HK HS
      obtain ⟨d0, d1, d2⟩ := tp_cells (HG2.out.h _ (.tail _ (.head _)))
      go_wp2_with (first | refine cv_store rfl (.tmp 5) (.tmp 10) rfl w1.heap.size cv0 C rfl rfl V.out.at0 rfl HC.out.size HC.out.one ?_)
      go_ret
      exact ⟨rfl, HG2.out.b⟩)
  | true =>
  rw [hb] at HK
  rw [Bool.true_and]
  cases z with
  | true =>
    rw [if_pos rfl]
    clear hb
    generalize cvC id = C at *
    cases h1 : x.toList.isEmpty <;> cases h2 : y.toList.isEmpty <;> (
      go_enter Try.func9, Try.ntmps9
      go_wp2_with fail
      generalize w.alloc _ = w0 at *
      refine (HK.out _).mono ?_
      rintro e w1 ⟨rfl, b1⟩
      have V := Lib.hid (cv_var' w1 HC.out.size)
      have HG2 := Lib.hid (((HS.out.on b1).new cv0 39).putAt (HS.out.on b1).b.size (HS.out.on b1).h.apart C)
      clear b1 HK HS
      obtain ⟨d0, d1, d2⟩ := tp_cells (HG2.out.h _ (.tail _ (.head _)))
      go_wp2_with (first | refine cv_store rfl (.tmp 5) (.tmp 10) rfl w1.heap.size cv0 C rfl rfl V.out.at0 rfl HC.out.size HC.out.one ?_)
      go_ret
      exact ⟨rfl, HG2.out.b⟩)
  | false =>
  rw [if_neg (by decide)]
  have RX := Lib.hid (restOk_any x (cvPT id))
  have RY := Lib.hid (restOk_any y (cvPT id))
  cases hx : restB x (cvPT id) with
  | false =>
    rw [hx] at RX
    rw [Bool.false_and]
    clear hb hx RY
    generalize cvC id = C at *
    generalize cvNT id = tn at *
    generalize cvRT id = tr at *
    generalize cvKT id = tk at *
    generalize cvSz id = sz at *
    generalize cvPT id = tp at *
    generalize cvBT id = tb at *
    go_enter Try.func9, Try.ntmps9
    go_wp2_with fail
    generalize w.alloc _ = w0 at *
    refine (HK.out _).mono ?_
    rintro e w1 ⟨rfl, b1⟩
    have V := Lib.hid (cv_var' w1 HC.out.size)
    have HG2 := Lib.hid (((HS.out.on b1).new cv0 39).putAt (HS.out.on b1).b.size (HS.out.on b1).h.apart C)
    clear b1 HK HS
    obtain ⟨d0, d1, d2⟩ := tp_cells (show _ = some (Obj.cells (tpT (false, x, y)) 26 (0, 0)) from HG2.out.h _ (.tail _ (.head _)))
    go_wp2_with (first | refine cv_store rfl (.tmp 5) (.tmp 10) rfl w1.heap.size cv0 C rfl rfl V.out.at0 rfl HC.out.size HC.out.one ?_)
    clear d0 d1 d2 V
    generalize (w1.alloc _).setRow _ _ = wv at *
    generalize w1.heap.size = g at *
    have HG0 := Lib.hid HG2.out.drew
    have HS0 := Lib.hid HG0.out.h
    clear HG2
    have FX := Lib.hid (show ∀ w', Held w' ((g, C, 39) :: (w.heap.size, tpT (false, x, y), 26) :: []) → (Instr.loadAt 9 (.pointer (some ⟨w.heap.size, 1, none⟩))).run Try.prog w' = .ok (.string x) w' from fun w' hw => (tp_at (show _ = some (Obj.cells (tpT (false, x, y)) 26 (0, 0)) from hw (w.heap.size, tpT (false, x, y), 26) (.tail _ (.head _)))).x)
    have FY := Lib.hid (show ∀ w', Held w' ((g, C, 39) :: (w.heap.size, tpT (false, x, y), 26) :: []) → (Instr.loadAt 9 (.pointer (some ⟨w.heap.size, 2, none⟩))).run Try.prog w' = .ok (.string y) w' from fun w' hw => (tp_at (show _ = some (Obj.cells (tpT (false, x, y)) 26 (0, 0)) from hw (w.heap.size, tpT (false, x, y), 26) (.tail _ (.head _)))).y)
    have FQ := Lib.hid (show ∀ w', Held w' ((g, C, 39) :: (w.heap.size, tpT (false, x, y), 26) :: []) → (Instr.loadAt 26 (.pointer (some ⟨w.heap.size, 0, none⟩))).run Try.prog w' = .ok (.agg (tpT (false, x, y))) w' from fun w' hw => (tp_at (show _ = some (Obj.cells (tpT (false, x, y)) 26 (0, 0)) from hw (w.heap.size, tpT (false, x, y), 26) (.tail _ (.head _)))).all)
    have FP := Lib.hid (show ∀ w', Held w' ((g, C, 39) :: (w.heap.size, tpT (false, x, y), 26) :: []) → (Instr.loadAt 9 (.pointer (some ⟨g, 1, none⟩))).run Try.prog w' = .ok (.string tp) w' from fun w' hw => (HC.out.strs (show _ = some (Obj.cells (C) 39 (0, 0)) from hw (g, C, 39) (.head _))).2.1)
    have FBt := Lib.hid (show ∀ w', Held w' ((g, C, 39) :: (w.heap.size, tpT (false, x, y), 26) :: []) → (Instr.loadAt 9 (.pointer (some ⟨g, 3, none⟩))).run Try.prog w' = .ok (.string tb) w' from fun w' hw => (HC.out.strs (show _ = some (Obj.cells (C) 39 (0, 0)) from hw (g, C, 39) (.head _))).2.2.2)
    refine sq_go (S := fun w' => Held w' ((g, C, 39) :: (w.heap.size, tpT (false, x, y), 26) :: [])) [(true, 0), (true, 1), (true, 2), (true, 3), (false, 4), (true, 5), (true, 6), (true, 7), (true, 8), (true, 9), (true, 10), (true, 11), (true, 12), (true, 13), (true, 14), (true, 15), (true, 16), (true, 17), (true, 18), (true, 19), (true, 20), (true, 21), (true, 22), (true, 23), (true, 24)] (by kernel_rfl) (fun d _ _ _ _ h => by cases d <;> exact h) HS0.out ?_
    refine SQ.out ?_
    refine g_ps [(0, .pointer (some ⟨w.heap.size, 1, none⟩))] (by kernel_rfl) ?_
    refine g_ld (some 30) FX.out (by kernel_rfl) ?_
    refine g_ps [(2, .pointer (some ⟨g, 1, none⟩))] (by kernel_rfl) ?_
    refine g_ld (some 32) FP.out (by kernel_rfl) ?_
    refine g_c (some 33) Try.func22 (RX.out _) (by kernel_rfl) ?_
    rintro e v1 ⟨rfl, bw1⟩
    have HG1 := Lib.hid (HG0.out.on bw1)
    have HS1 := Lib.hid HG1.out.h
    refine ⟨_, rfl, HS1.out, ?_⟩
    refine g_ps [(5, .bool false)] (by kernel_rfl) ?_
    refine g_no [6, 7, 8, 9, 10] (by kernel_rfl) ?_
    refine g_ps [(11, .bool false), (12, .bool false)] (by kernel_rfl) ?_
    refine g_no [13, 14, 15, 16, 17, 18, 19, 20, 21, 22] (by kernel_rfl) ?_
    refine g_ps [(23, .bool false), (24, .bool false)] (by kernel_rfl) ?_
    refine g_done ?_
    refine (by assumption : ∀ (a : Act) (w_1 : World), Code.wp _ Code.ret _ a w_1 → _) _ _ ?_
    refine wp_ret ?_
    exact ret_at (v := .bool false) Try.results9 (by kernel_rfl) (by kernel_rfl) ⟨rfl, HG1.out.b⟩
  | true =>
  rw [hx] at RX
  rw [Bool.true_and]
  cases hy : restB y (cvPT id) with
  | false =>
    rw [hy] at RY
    rw [Bool.false_and]
    clear hb hx hy
    generalize cvC id = C at *
    generalize cvNT id = tn at *
    generalize cvRT id = tr at *
    generalize cvKT id = tk at *
    generalize cvSz id = sz at *
    generalize cvPT id = tp at *
    generalize cvBT id = tb at *
    go_enter Try.func9, Try.ntmps9
    go_wp2_with fail
    generalize w.alloc _ = w0 at *
    refine (HK.out _).mono ?_
    rintro e w1 ⟨rfl, b1⟩
    have V := Lib.hid (cv_var' w1 HC.out.size)
    have HG2 := Lib.hid (((HS.out.on b1).new cv0 39).putAt (HS.out.on b1).b.size (HS.out.on b1).h.apart C)
    clear b1 HK HS
    obtain ⟨d0, d1, d2⟩ := tp_cells (show _ = some (Obj.cells (tpT (false, x, y)) 26 (0, 0)) from HG2.out.h _ (.tail _ (.head _)))
    go_wp2_with (first | refine cv_store rfl (.tmp 5) (.tmp 10) rfl w1.heap.size cv0 C rfl rfl V.out.at0 rfl HC.out.size HC.out.one ?_)
    clear d0 d1 d2 V
    generalize (w1.alloc _).setRow _ _ = wv at *
    generalize w1.heap.size = g at *
    have HG0 := Lib.hid HG2.out.drew
    have HS0 := Lib.hid HG0.out.h
    clear HG2
    have FX := Lib.hid (show ∀ w', Held w' ((g, C, 39) :: (w.heap.size, tpT (false, x, y), 26) :: []) → (Instr.loadAt 9 (.pointer (some ⟨w.heap.size, 1, none⟩))).run Try.prog w' = .ok (.string x) w' from fun w' hw => (tp_at (show _ = some (Obj.cells (tpT (false, x, y)) 26 (0, 0)) from hw (w.heap.size, tpT (false, x, y), 26) (.tail _ (.head _)))).x)
    have FY := Lib.hid (show ∀ w', Held w' ((g, C, 39) :: (w.heap.size, tpT (false, x, y), 26) :: []) → (Instr.loadAt 9 (.pointer (some ⟨w.heap.size, 2, none⟩))).run Try.prog w' = .ok (.string y) w' from fun w' hw => (tp_at (show _ = some (Obj.cells (tpT (false, x, y)) 26 (0, 0)) from hw (w.heap.size, tpT (false, x, y), 26) (.tail _ (.head _)))).y)
    have FQ := Lib.hid (show ∀ w', Held w' ((g, C, 39) :: (w.heap.size, tpT (false, x, y), 26) :: []) → (Instr.loadAt 26 (.pointer (some ⟨w.heap.size, 0, none⟩))).run Try.prog w' = .ok (.agg (tpT (false, x, y))) w' from fun w' hw => (tp_at (show _ = some (Obj.cells (tpT (false, x, y)) 26 (0, 0)) from hw (w.heap.size, tpT (false, x, y), 26) (.tail _ (.head _)))).all)
    have FP := Lib.hid (show ∀ w', Held w' ((g, C, 39) :: (w.heap.size, tpT (false, x, y), 26) :: []) → (Instr.loadAt 9 (.pointer (some ⟨g, 1, none⟩))).run Try.prog w' = .ok (.string tp) w' from fun w' hw => (HC.out.strs (show _ = some (Obj.cells (C) 39 (0, 0)) from hw (g, C, 39) (.head _))).2.1)
    have FBt := Lib.hid (show ∀ w', Held w' ((g, C, 39) :: (w.heap.size, tpT (false, x, y), 26) :: []) → (Instr.loadAt 9 (.pointer (some ⟨g, 3, none⟩))).run Try.prog w' = .ok (.string tb) w' from fun w' hw => (HC.out.strs (show _ = some (Obj.cells (C) 39 (0, 0)) from hw (g, C, 39) (.head _))).2.2.2)
    refine sq_go (S := fun w' => Held w' ((g, C, 39) :: (w.heap.size, tpT (false, x, y), 26) :: [])) [(true, 0), (true, 1), (true, 2), (true, 3), (false, 4), (true, 5), (true, 6), (true, 7), (true, 8), (true, 9), (false, 10), (true, 11), (true, 12), (true, 13), (true, 14), (true, 15), (true, 16), (true, 17), (true, 18), (true, 19), (true, 20), (true, 21), (true, 22), (true, 23), (true, 24)] (by kernel_rfl) (fun d _ _ _ _ h => by cases d <;> exact h) HS0.out ?_
    refine SQ.out ?_
    refine g_ps [(0, .pointer (some ⟨w.heap.size, 1, none⟩))] (by kernel_rfl) ?_
    refine g_ld (some 30) FX.out (by kernel_rfl) ?_
    refine g_ps [(2, .pointer (some ⟨g, 1, none⟩))] (by kernel_rfl) ?_
    refine g_ld (some 32) FP.out (by kernel_rfl) ?_
    refine g_c (some 33) Try.func22 (RX.out _) (by kernel_rfl) ?_
    rintro e v1 ⟨rfl, bw1⟩
    have HG1 := Lib.hid (HG0.out.on bw1)
    have HS1 := Lib.hid HG1.out.h
    refine ⟨_, rfl, HS1.out, ?_⟩
    refine g_ps [(5, .bool true), (6, .pointer (some ⟨w.heap.size, 2, none⟩))] (by kernel_rfl) ?_
    refine g_ld (some 36) FY.out (by kernel_rfl) ?_
    refine g_ps [(8, .pointer (some ⟨g, 1, none⟩))] (by kernel_rfl) ?_
    refine g_ld (some 38) FP.out (by kernel_rfl) ?_
    refine g_c (some 39) Try.func22 (RY.out _) (by kernel_rfl) ?_
    rintro e v2 ⟨rfl, bw2⟩
    have HG2 := Lib.hid (HG1.out.on bw2)
    have HS2 := Lib.hid HG2.out.h
    refine ⟨_, rfl, HS2.out, ?_⟩
    refine g_ps [(11, .bool false), (12, .bool false)] (by kernel_rfl) ?_
    refine g_no [13, 14, 15, 16, 17, 18, 19, 20, 21, 22] (by kernel_rfl) ?_
    refine g_ps [(23, .bool false), (24, .bool false)] (by kernel_rfl) ?_
    refine g_done ?_
    refine (by assumption : ∀ (a : Act) (w_1 : World), Code.wp _ Code.ret _ a w_1 → _) _ _ ?_
    refine wp_ret ?_
    exact ret_at (v := .bool false) Try.results9 (by kernel_rfl) (by kernel_rfl) ⟨rfl, HG2.out.b⟩
  | true =>
    rw [hy] at RY
    rw [Bool.true_and]
    have F := curve_fit hb
    have l3 := gV_lt (modB_parts F.mp).1
    have l1 := (restB_lt hx).1
    have l2 := (restB_lt hy).1
    have l4 := (restB_lt F.b).1
    have HI := Lib.hid (show x.size ≤ 1000000 ∧ y.size ≤ 1000000 ∧ (cvBT id).size ≤ 1000000 ∧ (cvPT id).size ≤ 1000000 from ⟨by have := okG_size (restB_lt hx).2.1; omega, by have := okG_size (restB_lt hy).2.1; omega, F.sb, F.sp⟩)
    obtain ⟨bo, hbo⟩ : ∃ o, onB id x y = o := ⟨_, rfl⟩
    rw [hbo]
    unfold onB at hbo
    clear hb hx hy F
    generalize cvC id = C at *
    generalize cvNT id = tn at *
    generalize cvRT id = tr at *
    generalize cvKT id = tk at *
    generalize cvSz id = sz at *
    generalize cvPT id = tp at *
    generalize cvBT id = tb at *
    have h0 : 0 < gV tp := by omega
    have HL := Lib.hid (show InP2 (gV tp) (gV x, 0) ∧ InP2 (gV tp) (gV y, 0) ∧ InP2 (gV tp) (gV tb, 0) ∧ gV tp < GB from ⟨⟨l1, h0⟩, ⟨l2, h0⟩, ⟨l4, h0⟩, l3⟩)
    have HBo := Lib.hid hbo
    clear l1 l2 l3 l4 h0 hbo
    go_enter Try.func9, Try.ntmps9
    go_wp2_with fail
    generalize w.alloc _ = w0 at *
    refine (HK.out _).mono ?_
    rintro e w1 ⟨rfl, b1⟩
    have V := Lib.hid (cv_var' w1 HC.out.size)
    have HG2 := Lib.hid (((HS.out.on b1).new cv0 39).putAt (HS.out.on b1).b.size (HS.out.on b1).h.apart C)
    clear b1 HK HS
    obtain ⟨d0, d1, d2⟩ := tp_cells (show _ = some (Obj.cells (tpT (false, x, y)) 26 (0, 0)) from HG2.out.h _ (.tail _ (.head _)))
    go_wp2_with (first | refine cv_store rfl (.tmp 5) (.tmp 10) rfl w1.heap.size cv0 C rfl rfl V.out.at0 rfl HC.out.size HC.out.one ?_)
    clear d0 d1 d2 V
    generalize (w1.alloc _).setRow _ _ = wv at *
    generalize w1.heap.size = g at *
    have HG0 := Lib.hid HG2.out.drew
    have HS0 := Lib.hid HG0.out.h
    clear HG2
    have FX := Lib.hid (show ∀ w', Held w' ((g, C, 39) :: (w.heap.size, tpT (false, x, y), 26) :: []) → (Instr.loadAt 9 (.pointer (some ⟨w.heap.size, 1, none⟩))).run Try.prog w' = .ok (.string x) w' from fun w' hw => (tp_at (show _ = some (Obj.cells (tpT (false, x, y)) 26 (0, 0)) from hw (w.heap.size, tpT (false, x, y), 26) (.tail _ (.head _)))).x)
    have FY := Lib.hid (show ∀ w', Held w' ((g, C, 39) :: (w.heap.size, tpT (false, x, y), 26) :: []) → (Instr.loadAt 9 (.pointer (some ⟨w.heap.size, 2, none⟩))).run Try.prog w' = .ok (.string y) w' from fun w' hw => (tp_at (show _ = some (Obj.cells (tpT (false, x, y)) 26 (0, 0)) from hw (w.heap.size, tpT (false, x, y), 26) (.tail _ (.head _)))).y)
    have FQ := Lib.hid (show ∀ w', Held w' ((g, C, 39) :: (w.heap.size, tpT (false, x, y), 26) :: []) → (Instr.loadAt 26 (.pointer (some ⟨w.heap.size, 0, none⟩))).run Try.prog w' = .ok (.agg (tpT (false, x, y))) w' from fun w' hw => (tp_at (show _ = some (Obj.cells (tpT (false, x, y)) 26 (0, 0)) from hw (w.heap.size, tpT (false, x, y), 26) (.tail _ (.head _)))).all)
    have FP := Lib.hid (show ∀ w', Held w' ((g, C, 39) :: (w.heap.size, tpT (false, x, y), 26) :: []) → (Instr.loadAt 9 (.pointer (some ⟨g, 1, none⟩))).run Try.prog w' = .ok (.string tp) w' from fun w' hw => (HC.out.strs (show _ = some (Obj.cells (C) 39 (0, 0)) from hw (g, C, 39) (.head _))).2.1)
    have FBt := Lib.hid (show ∀ w', Held w' ((g, C, 39) :: (w.heap.size, tpT (false, x, y), 26) :: []) → (Instr.loadAt 9 (.pointer (some ⟨g, 3, none⟩))).run Try.prog w' = .ok (.string tb) w' from fun w' hw => (HC.out.strs (show _ = some (Obj.cells (C) 39 (0, 0)) from hw (g, C, 39) (.head _))).2.2.2)
    refine sq_go (S := fun w' => Held w' ((g, C, 39) :: (w.heap.size, tpT (false, x, y), 26) :: [])) [(true, 0), (true, 1), (true, 2), (true, 3), (false, 4), (true, 5), (true, 6), (true, 7), (true, 8), (true, 9), (false, 10), (true, 11), (true, 12), (true, 13), (true, 15), (true, 16), (true, 19), (true, 20), (false, 14), (false, 17), (true, 18), (false, 21), (false, 22), (true, 23), (true, 24)] (by kernel_rfl) (fun d _ _ _ _ h => by cases d <;> exact h) HS0.out ?_
    refine SQ.out ?_
    refine g_ps [(0, .pointer (some ⟨w.heap.size, 1, none⟩))] (by kernel_rfl) ?_
    refine g_ld (some 30) FX.out (by kernel_rfl) ?_
    refine g_ps [(2, .pointer (some ⟨g, 1, none⟩))] (by kernel_rfl) ?_
    refine g_ld (some 32) FP.out (by kernel_rfl) ?_
    refine g_c (some 33) Try.func22 (RX.out _) (by kernel_rfl) ?_
    rintro e v1 ⟨rfl, bw1⟩
    have HG1 := Lib.hid (HG0.out.on bw1)
    have HS1 := Lib.hid HG1.out.h
    refine ⟨_, rfl, HS1.out, ?_⟩
    refine g_ps [(5, .bool true), (6, .pointer (some ⟨w.heap.size, 2, none⟩))] (by kernel_rfl) ?_
    refine g_ld (some 36) FY.out (by kernel_rfl) ?_
    refine g_ps [(8, .pointer (some ⟨g, 1, none⟩))] (by kernel_rfl) ?_
    refine g_ld (some 38) FP.out (by kernel_rfl) ?_
    refine g_c (some 39) Try.func22 (RY.out _) (by kernel_rfl) ?_
    rintro e v2 ⟨rfl, bw2⟩
    have HG2 := Lib.hid (HG1.out.on bw2)
    have HS2 := Lib.hid HG2.out.h
    refine ⟨_, rfl, HS2.out, ?_⟩
    refine g_ps [(11, .bool true), (12, .bool true)] (by kernel_rfl) ?_
    refine g_ld (some 42) FQ.out (by kernel_rfl) ?_
    refine g_ps [(15, .pointer (some ⟨g, 3, none⟩))] (by kernel_rfl) ?_
    refine g_ld (some 45) FBt.out (by kernel_rfl) ?_
    refine g_ps [(19, .pointer (some ⟨g, 1, none⟩))] (by kernel_rfl) ?_
    refine g_ld (some 49) FP.out (by kernel_rfl) ?_
    refine g_c (some 43) Try.func24 (in10_x (false, x, y) _ HI.out.1 HI.out.2.1) (by kernel_rfl) ?_
    rintro e v3 ⟨A1, n1, c1, A2, n2, c2, rfl, hx, hy, bw3⟩
    have HX := Lib.hid hx
    have HY := Lib.hid hy
    have HG3 := Lib.hid (HG2.out.on bw3)
    have HS3 := Lib.hid HG3.out.h
    refine ⟨_, rfl, HS3.out, ?_⟩
    refine g_c (some 46) Try.func25 (in_x tb _ HI.out.2.2.1) (by kernel_rfl) ?_
    rintro e v4 ⟨vb, rfl, hvb, bw4⟩
    have RB := Lib.hid hvb
    obtain ⟨Ab, nb, cb, rfl⟩ := hvb.shape
    have HG4 := Lib.hid (HG3.out.on bw4)
    have HS4 := Lib.hid HG4.out.h
    refine ⟨_, rfl, HS4.out, ?_⟩
    refine g_pure (some 47) (.agg #[.slice Ab nb cb, .slice none 0 0]) (by kernel_rfl) (by kernel_rfl) (held_build 46 #[(0, (.tmp 46))] (by kernel_rfl) _ (by kernel_rfl) _ (built_7A Ab nb cb)) ?_
    refine g_c (some 50) Try.func25 (in_x tp _ HI.out.2.2.2) (by kernel_rfl) ?_
    rintro e v5 ⟨vp, rfl, hvp, bw5⟩
    have RP := Lib.hid hvp
    obtain ⟨Ap, np, cp, rfl⟩ := hvp.shape
    have HG5 := Lib.hid (HG4.out.on bw5)
    have HS5 := Lib.hid HG5.out.h
    have CO := Lib.hid (on10_x (z := false) (vb := .agg #[.slice Ab nb cb, .slice none 0 0]) (vp := .slice Ap np cp) (A1 := A1) (n1 := n1) (c1 := c1) (A2 := none) (n2 := 0) (c2 := 0) (A3 := A2) (n3 := n2) (c3 := c2) (A4 := none) (n4 := 0) (c4 := 0) (x := (gV x, 0)) (y := (gV y, 0)) (b := (gV tb, 0)) ⟨_, _, rfl, HX.out.below (bt bw4 bw5), row_nil _⟩ ⟨_, _, rfl, HY.out.below (bt bw4 bw5), row_nil _⟩ ⟨_, _, rfl, RB.out.below bw5, row_nil _⟩ RP.out HL.out.1 HL.out.2.1 HL.out.2.2.1 HL.out.2.2.2)
    refine ⟨_, rfl, HS5.out, ?_⟩
    refine g_c (some 51) Try.func23 (CO.out) (by kernel_rfl) ?_
    rintro e v6 ⟨he, bw6⟩
    rw [HBo.out] at he
    subst he
    have HG6 := Lib.hid (HG5.out.on bw6)
    have HS6 := Lib.hid HG6.out.h
    refine ⟨_, rfl, HS6.out, ?_⟩
    refine g_ps [(23, .bool bo), (24, .bool bo)] (by kernel_rfl) ?_
    refine g_done ?_
    refine (by assumption : ∀ (a : Act) (w_1 : World), Code.wp _ Code.ret _ a w_1 → _) _ _ ?_
    refine wp_ret ?_
    exact ret_at (v := .bool bo) Try.results9 (by kernel_rfl) (by kernel_rfl) ⟨rfl, HG6.out.b⟩
def noT : Tp := (false, ⟨#[]⟩, ⟨#[]⟩)
/-- The numbers of a point of texts. -/
def val2 (q : Tp) : P2 := if q.1 then none else some ((gV q.2.1, 0), (gV q.2.2, 0))
def negPtG (id : Int) (q : Tp) : Tp := if pointB id q then txt2 (minusP (gV (cvPT id)) (val2 q)) else noT
/-- What is known of a point that is right. -/
structure PointFit (id : Int) (q : Tp) : Prop where
  cv : cvB id = true
  on : onP (gV (cvPT id)) (gV (cvBT id), 0) (val2 q)
  back : txt2 (val2 q) = q
  s1 : q.2.1.size ≤ 1000000
  s2 : q.2.2.size ≤ 1000000
  no : q.1 = true → q.2.1 = ⟨#[]⟩ ∧ q.2.2 = ⟨#[]⟩
theorem nil_text {s : ByteArray} (h : s.toList.isEmpty = true) : s = ⟨#[]⟩ := by
  have h2 := List.isEmpty_iff.1 h
  rw [ByteArray.toList_eq] at h2
  exact ByteArray.ext (Array.toList_eq_nil_iff.1 h2)
theorem point_fit {id : Int} {q : Tp} (h : pointB id q = true) : PointFit id q := by
  obtain ⟨z, x, y⟩ := q
  simp only [pointB, Bool.and_eq_true] at h
  obtain ⟨hc, h⟩ := h
  cases z with
  | true =>
    rw [if_pos rfl, Bool.and_eq_true] at h
    have e1 := nil_text h.1
    have e2 := nil_text h.2
    subst e1 e2
    exact ⟨hc, trivial, rfl, by decide, by decide, fun _ => ⟨rfl, rfl⟩⟩
  | false =>
    rw [if_neg (by decide), Bool.and_eq_true, Bool.and_eq_true] at h
    obtain ⟨hx, hy, ho⟩ := h
    obtain ⟨ex, lx⟩ := rest_num hx
    obtain ⟨ey, ly⟩ := rest_num hy
    refine ⟨hc, ⟨⟨lx, ?_⟩, ⟨ly, ?_⟩, of_decide_eq_true ho⟩, ?_, by have := okG_size (restB_lt hx).2.1; show x.size ≤ _; omega, by have := okG_size (restB_lt hy).2.1; show y.size ≤ _; omega, fun e => by cases e⟩
    · show 0 < _; omega
    · show 0 < _; omega
    · show (false, gS (gV x), gS (gV y)) = (false, x, y)
      rw [← ex, ← ey]
theorem val_in {p : Nat} {b : Pn} {Q : P2} (h : onP p b Q) : InO p Q := by
  cases Q with
  | none => trivial
  | some A => exact ⟨h.1, h.2.1⟩
theorem in10_pt {w : World} {q : Tp} {A1 A2 : Option Addr} {n1 c1 n2 c2 : Nat} (h1 : RowX w (.slice A1 n1 c1) (gV q.2.1)) (h2 : RowX w (.slice A2 n2 c2) (gV q.2.2)) : PtX w (.agg (ptC q.1 (.slice A1 n1 c1) (.slice none 0 0) (.slice A2 n2 c2) (.slice none 0 0))) (val2 q) := by
  obtain ⟨z, x, y⟩ := q
  cases z with
  | true => exact ⟨_, _, _, _, _, _, _, _, _, _, _, _, rfl⟩
  | false => exact ⟨_, _, _, _, rfl, h1, row_nil _, h2, row_nil _⟩
theorem cv_field (id : Int) (w : World) : (Instr.field 39 (.agg (cvC id)) 1).run Try.prog w = .ok (.string (cvPT id)) w := by
  rw [cvC_eq]
  kernel_rfl
set_option maxRecDepth 8000 in
set_option maxHeartbeats 4000000 in
theorem negPoint_any (id : Int) (q : Tp) (w : World) : Calls Try.prog 15 #[.int .i64 id, .agg (tpT q)] w fun e w' => e = .returned (.agg (tpT (negPtG id q))) ∧ Below w.heap.size w w' := by
  have HO := Lib.hid (pointOk_any id q)
  have HG0 := Lib.hid (begun2 (Held.none w) (tpT q) #[.bool false, .string ⟨#[]⟩, .string ⟨#[]⟩] 26 26)
  have hge : w.heap.size ≤ w.heap.size + 1 := Nat.le_succ _
  have HGe := Lib.hid hge
  clear hge
  unfold negPtG
  cases hq : pointB id q with
  | false =>
    rw [hq] at HO
    rw [if_neg (by decide)]
    clear hq
    go_enter Try.func15, Try.ntmps15
    go_upto_region 1 with (fail)
    generalize (w.alloc _).alloc _ = w0 at *
    have HH := Lib.hid (show _ = some (Obj.cells (tpT q) 26 (0, 0)) from HG0.out.h _ (.head _))
    go_wp2_with (first | refine load_v rfl 26 (.tmp 3) rfl w.heap.size (tpT q) rfl HH.out Try.underlying26 rfl Try.infoPoint ?_)
    refine (HO.out _).mono ?_
    rintro e w1 ⟨rfl, b1⟩
    have HG1 := Lib.hid (HG0.out.on b1)
    have HH1 := Lib.hid (show _ = some (Obj.cells (tpT q) 26 (0, 0)) from HG1.out.h _ (.head _))
    clear b1 HG0 HH HO
    have HE := Lib.hid (HG1.out.put HGe.out (tpT noT))
    go_wp2_with (first | refine store_v rfl 26 (.tmp 4) (.tmp 9) rfl (w.heap.size + 1) _ (tpT noT) rfl rfl HG1.out.out Try.infoPoint rfl (by kernel_rfl) ?_)
    exact bodyPost_ret (results_cell_row Try.results15 _ _ (w.heap.size + 1) _ _ _ _ rfl HE.out.out Try.underlying26 rfl Try.infoPoint) rfl ⟨rfl, HE.out.b⟩
  | true =>
    rw [hq] at HO
    rw [if_pos rfl]
    have F := point_fit hq
    have l3 := gV_lt (modB_parts (curve_fit F.cv).mp).1
    have HF := Lib.hid (And.intro F.s1 (And.intro F.s2 (And.intro (val_in F.on) l3)))
    have HM := Lib.hid (val_in ((curve_sums F.cv).base.neg F.on))
    have HI := Lib.hid (fun w => in_x (cvPT id) w (curve_fit F.cv).sp)
    have HCu := Lib.hid (l09Curve_any id)
    have HFd := Lib.hid (cv_field id)
    obtain ⟨Q, hQ⟩ : ∃ Q, val2 q = Q := ⟨_, rfl⟩
    have HQ := Lib.hid hQ
    rw [hQ] at HF HM
    rw [hQ]
    clear hq F l3 hQ
    generalize cvC id = C at *
    generalize cvPT id = tp at *
    go_enter Try.func15, Try.ntmps15
    go_upto_region 1 with (fail)
    generalize (w.alloc _).alloc _ = w0 at *
    have HH := Lib.hid (show _ = some (Obj.cells (tpT q) 26 (0, 0)) from HG0.out.h _ (.head _))
    go_wp2_with (first | refine load_v rfl 26 (.tmp 3) rfl w.heap.size (tpT q) rfl HH.out Try.underlying26 rfl Try.infoPoint ?_)
    refine (HO.out _).mono ?_
    rintro e w1 ⟨rfl, b1⟩
    have HG1 := Lib.hid (HG0.out.on b1)
    have HH1 := Lib.hid (show _ = some (Obj.cells (tpT q) 26 (0, 0)) from HG1.out.h _ (.head _))
    clear b1 HG0 HH HO
    go_wp2_with (first | refine load_v rfl 26 (.tmp 3) rfl w.heap.size (tpT q) rfl HH1.out Try.underlying26 rfl Try.infoPoint ?_)
    refine (in10_x q _ HF.out.1 HF.out.2.1).mono ?_
    rintro e w2 ⟨A1, n1, c1, A2, n2, c2, rfl, k1, k2, b2⟩
    have HX := Lib.hid (in10_pt k1 k2)
    rw [HQ.out] at HX
    have HG2 := Lib.hid (HG1.out.on b2)
    clear k1 k2 b2 HG1 HH1
    generalize ptC q.1 _ _ _ _ = D at *
    go_wp2_with fail
    refine (HCu.out _).mono ?_
    rintro e w3 ⟨rfl, b3⟩
    have HX3 := Lib.hid (HX.out.below b3)
    have HG3 := Lib.hid (HG2.out.on b3)
    have hf := HFd.out w3
    clear b3 HG2 HX HCu
    go_wp2_with fail
    refine (HI.out _).mono ?_
    rintro e w4 ⟨v4, rfl, k4, b4⟩
    have HP := Lib.hid k4
    have HX4 := Lib.hid (HX3.out.below b4)
    have HG4 := Lib.hid (HG3.out.on b4)
    obtain ⟨A4, n4, c4, rfl⟩ := k4.shape
    clear b4 k4 HG3 HX3 HI hf
    go_wp2_with fail
    refine (lneg10_x HX4.out HP.out HF.out.2.2.1 HF.out.2.2.2).mono ?_
    rintro e w5 ⟨v5, rfl, k5, b5⟩
    have HX5 := Lib.hid k5
    have HG5 := Lib.hid (HG4.out.on b5)
    obtain ⟨A5, n5, c5, A6, n6, c6, A7, n7, c7, A8, n8, c8, rfl⟩ := k5.cells
    clear b5 k5 HG4 HX4
    generalize ptC _ (.slice A5 n5 c5) _ _ _ = D5 at *
    go_wp2_with fail
    refine (out10_x HX5.out (fun A hA => by have h := HM.out; rw [hA] at h; exact ⟨sm_one (Nat.lt_trans h.1.1 HF.out.2.2.2), sm_one (Nat.lt_trans h.2.1 HF.out.2.2.2)⟩)).mono ?_
    rintro e w6 ⟨rfl, b6⟩
    have HG6 := Lib.hid (HG5.out.on b6)
    have HE := Lib.hid (HG6.out.put HGe.out (tpT (txt2 (minusP (gV tp) Q))))
    clear b6 HG5 HX5
    go_wp2_with (first | refine store_v rfl 26 (.tmp 4) (.tmp 17) rfl (w.heap.size + 1) _ (tpT (txt2 (minusP (gV tp) Q))) rfl rfl HG6.out.out Try.infoPoint rfl (by kernel_rfl) ?_)
    exact bodyPost_ret (results_cell_row Try.results15 _ _ (w.heap.size + 1) _ _ _ _ rfl HE.out.out Try.underlying26 rfl Try.infoPoint) rfl ⟨rfl, HE.out.b⟩
end Go.Proofs.Ytkmmlfocidfghaa
