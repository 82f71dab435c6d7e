import Derived.Test.YtkmmlfocidfghaaGreatYCurve
import Derived.Test.YtkmmlfocidfghaaGreatUOps
namespace Go.Proofs.YtkmmlfocidfghaaGreat
open Go.RowKit
theorem Tryz.parts7 : (structParts Tryz.prog 56).map (fun q => (q.1.cells.toList, q.2)) = some ([.slice none 0 0, .slice none 0 0], [(0, 1), (1, 1)]) := by kernel_rfl
theorem built_7A (A : Option Addr) (n c : Nat) : Tryz.prog.built 56 [(0, .slice A n c)] = some #[.slice A n c, .slice none 0 0] := by
  cases hq : structParts Tryz.prog 56 with
  | none => have e := Tryz.parts7; rw [hq] at e; cases e
  | some q =>
    obtain ⟨z, pl⟩ := q
    have e := Tryz.parts7
    rw [hq] at e
    simp only [Option.map_some, Option.some.injEq, Prod.mk.injEq] at e
    obtain ⟨e1, rfl⟩ := e
    rw [built_parts hq]
    have ez : z.cells = #[] ++ #[.slice none 0 0] ++ #[.slice none 0 0] := Array.ext' (by rw [e1]; rfl)
    rw [ez, fill_step (R := #[.slice A n c]) (off := 0) (n := 1) rfl rfl rfl rfl rfl]
    simp [Instr.fill]
set_option maxRecDepth 8000 in
set_option maxHeartbeats 4000000 in
theorem right_x {w : World} {vx vb vp : Value} {x b : Pn} {n : Nat} (hx : PairX w vx x) (hb : PairX w vb b) (hp : RowX w vp n) (ix : InP2 n x) (ib : InP2 n b) (hn : n < GB) :
    Calls Tryz.prog 60 #[vx, vb, vp] w (PairTo (rightP n b x) w) := by
  have h0 : 0 < n := Nat.lt_of_le_of_lt (Nat.zero_le _) ix.1
  have HX := Lib.hid hx
  have HBx := Lib.hid hb
  have HP := Lib.hid hp
  have HI := Lib.hid (And.intro ix (And.intro ib (And.intro hn h0)))
  obtain ⟨xa, xb, rfl, x1, x2⟩ := hx
  obtain ⟨ba, bb, rfl, b1, b2⟩ := hb
  obtain ⟨pA, pn, pc, rfl⟩ := hp.shape
  obtain ⟨qx, hqx⟩ : ∃ q : Array Value, #[xa, xb] = q := ⟨_, rfl⟩
  obtain ⟨qb, hqb⟩ : ∃ q : Array Value, #[ba, bb] = q := ⟨_, rfl⟩
  have HQ := Lib.hid (show qx.size = 2 ∧ qb.size = 2 by rw [← hqx, ← hqb]; exact ⟨rfl, rfl⟩)
  rw [hqx] at HX
  rw [hqb] at HBx
  rw [hqx, hqb]
  clear x1 x2 b1 b2 hp ix ib hn h0 hqx hqb
  have HG0 := Lib.hid (begun3 (Held.none w) qx qb #[.slice none 0 0, .slice none 0 0] 56 56 56).drew
  have HS0 := Lib.hid HG0.out.h
  have FX := Lib.hid (show ∀ w', Held w' ((w.heap.size + 1, qb, 56) :: (w.heap.size, qx, 56) :: []) → (Instr.loadAt 56 (.pointer (some ⟨w.heap.size, 0, none⟩))).run Tryz.prog w' = .ok (.agg qx) w' from fun w' hw => cells_load (show _ = some (Obj.cells qx 56 (0, 0)) from hw (w.heap.size, qx, 56) (.tail _ (.head _))) Tryz.underlying56 rfl (by rw [HQ.out.1]; exact Tryz.info7))
  have FB := Lib.hid (show ∀ w', Held w' ((w.heap.size + 1, qb, 56) :: (w.heap.size, qx, 56) :: []) → (Instr.loadAt 56 (.pointer (some ⟨w.heap.size + 1, 0, none⟩))).run Tryz.prog w' = .ok (.agg qb) w' from fun w' hw => cells_load (show _ = some (Obj.cells qb 56 (0, 0)) from hw (w.heap.size + 1, qb, 56) (.head _)) Tryz.underlying56 rfl (by rw [HQ.out.2]; exact Tryz.info7))
  go_enter Tryz.func60, Tryz.ntmps60
  go_wp2_with fail
  generalize ((w.alloc _).alloc _).alloc _ = w0 at *
  refine sq_go (S := fun w' => Held w' ((w.heap.size + 1, qb, 56) :: (w.heap.size, qx, 56) :: [])) [(true, 0), (true, 1), (true, 2), (true, 4), (true, 5), (true, 7), (true, 8), (false, 3), (false, 6), (false, 9), (false, 10)] (by kernel_rfl) (fun d _ _ _ _ h => by cases d <;> exact h) HS0.out ?_
  refine sq_ld (some 7) FX.out (by kernel_rfl) ?_
  refine sq_ld (some 8) FX.out (by kernel_rfl) ?_
  refine sq_ps [(2, .slice pA pn pc)] (by kernel_rfl) ?_
  refine sq_ld (some 11) FX.out (by kernel_rfl) ?_
  refine sq_ps [(5, .slice pA pn pc)] (by kernel_rfl) ?_
  refine sq_ld (some 14) FB.out (by kernel_rfl) ?_
  refine sq_ps [(8, .slice pA pn pc)] (by kernel_rfl) ?_
  refine sq_c (some 10) Tryz.func59 (lmul7_x (HX.out.below HG0.out.b) (HX.out.below HG0.out.b) (HP.out.below HG0.out.b) HI.out.1 HI.out.1 HI.out.2.2.1) (by kernel_rfl) ?_
  rintro e w1 ⟨v1, rfl, hv1, bw1⟩
  have HV1 := Lib.hid hv1
  have HG1 := Lib.hid (HG0.out.on bw1)
  have HS1 := Lib.hid HG1.out.h
  refine ⟨_, rfl, HS1.out, ?_⟩
  refine sq_c (some 13) Tryz.func59 (lmul7_x HV1.out (HX.out.below HG1.out.b) (HP.out.below HG1.out.b) (mulP_in HI.out.2.2.2 _ _) HI.out.1 HI.out.2.2.1) (by kernel_rfl) ?_
  rintro e w2 ⟨v2, rfl, hv2, bw2⟩
  have HV2 := Lib.hid hv2
  have HG2 := Lib.hid (HG1.out.on bw2)
  have HS2 := Lib.hid HG2.out.h
  refine ⟨_, rfl, HS2.out, ?_⟩
  refine sq_c (some 16) Tryz.func89 (ladd7_x HV2.out (HBx.out.below HG2.out.b) (HP.out.below HG2.out.b) (mulP_in HI.out.2.2.2 _ _) HI.out.2.1 HI.out.2.2.1) (by kernel_rfl) ?_
  rintro e w3 ⟨v3, rfl, hv3, bw3⟩
  have HG3 := Lib.hid (HG2.out.on bw3)
  have HS3 := Lib.hid HG3.out.h
  refine ⟨_, rfl, HS3.out, ?_⟩
  obtain ⟨va, vb, rfl, ha, hb⟩ := hv3
  have HA := Lib.hid ha
  have HAB := Lib.hid hb
  obtain ⟨aA, an, ac, rfl⟩ := ha.shape
  obtain ⟨bA, bn, bc, rfl⟩ := hb.shape
  have hge : w.heap.size ≤ w.heap.size + 1 + 1 := by omega
  have HE := Lib.hid (HG3.out.put hge #[.slice aA an ac, .slice bA bn bc])
  refine sq_st 56 (w.heap.size + 1 + 1) #[.slice aA an ac, .slice bA bn bc] HG3.out.out Tryz.info7 rfl (by kernel_rfl) (HS3.out.setRow HG3.out.ne) (by kernel_rfl) ?_
  refine sq_done ?_
  refine (by assumption : ∀ (a : Act) (w_1 : World), Code.wp _ Code.ret _ a w_1 → _) _ _ ?_
  refine wp_ret ?_
  exact bodyPost_ret (results_cell_row Tryz.results60 _ _ (w.heap.size + 1 + 1) _ _ _ _ (by kernel_rfl) HE.out.out Tryz.underlying56 rfl Tryz.info7) (by kernel_rfl) ⟨_, rfl, ⟨_, _, rfl, RowX.setRow HA.out HG3.out.out (by decide), RowX.setRow HAB.out HG3.out.out (by decide)⟩, HE.out.b⟩
set_option maxRecDepth 8000 in
set_option maxHeartbeats 4000000 in
theorem cubeAnd_any (id : Int) (x : ByteArray) (w : World) : Calls Tryz.prog 44 #[.int .i64 id, .string x] w fun e w' => e = .returned (.string (cubeG id x)) ∧ Below w.heap.size w w' := by
  have HK := Lib.hid (curveOf_any id)
  have HC := Lib.hid (cv_in id)
  have HO := Lib.hid (restOk_any x (cvPT id))
  cases hb : cvB id with
  | false =>
    rw [hb] at HK
    rw [cube_no (by rw [hb]; rfl)]
    clear hb HO
    generalize cvC id = C at *
    go_enter Tryz.func44, Tryz.ntmps44
    go_wp2_with fail
    refine (HK.out _).mono ?_
    rintro e w1 ⟨rfl, b1⟩
    have V := Lib.hid (cv_var' w1 HC.out.size)
    have HB := Lib.hid (bt b1 V.out.b)
    clear b1 HK
    go_wp2_with (first | refine cv_store rfl (.tmp 5) (.tmp 10) rfl w1.heap.size cv0 C rfl rfl V.out.at0 rfl HC.out.size HC.out.one ?_)
    go_ret
    exact ⟨rfl, HB.out⟩
  | true =>
  rw [hb] at HK
  cases hr : restB x (cvPT id) with
  | false =>
    rw [hr] at HO
    rw [cube_no (by rw [hb, hr]; rfl)]
    clear hb hr
    generalize cvC id = C at *
    generalize cvNT id = tn at *
    generalize cvRT id = tr at *
    generalize cvSz id = sz at *
    generalize cvPT id = tp at *
    generalize cvBT id = tb at *
    generalize cvKT id = tk at *
    go_enter Tryz.func44, Tryz.ntmps44
    go_wp2_with fail
    refine (HK.out _).mono ?_
    rintro e w1 ⟨rfl, b1⟩
    have V := Lib.hid (cv_var' w1 HC.out.size)
    have HB := Lib.hid (bt b1 V.out.b)
    obtain ⟨_, c1, _⟩ := HC.out.cells _ _ V.out.at1
    clear b1 HK
    go_wp2_with (first | refine cv_store rfl (.tmp 5) (.tmp 10) rfl w1.heap.size cv0 C rfl rfl V.out.at0 rfl HC.out.size HC.out.one ?_)
    refine (HO.out _).mono ?_
    rintro e w2 ⟨rfl, b2⟩
    have HB2 := Lib.hid (bt HB.out b2)
    clear b2 HB c1 V HO
    go_wp2
    go_ret
    exact ⟨rfl, HB2.out⟩
  | true =>
    rw [hr] at HO
    rw [← cube_of hb hr]
    have F := curve_fit hb
    have l1 := (restB_lt hr).1
    have l2 := (restB_lt F.b).1
    have l3 := gV_lt (modB_parts F.mp).1
    have I1 := Lib.hid (fun w => in_x x w (by have := okG_size (restB_lt hr).2.1; omega))
    have I2 := Lib.hid (fun w => in_x (cvBT id) w F.sb)
    have I3 := Lib.hid (fun w => in_x (cvPT id) w F.sp)
    clear hb hr F
    generalize cvC id = C at *
    generalize cvNT id = tn at *
    generalize cvRT id = tr at *
    generalize cvSz id = sz at *
    generalize cvPT id = tp at *
    generalize cvBT id = tb at *
    generalize cvKT id = tk at *
    generalize gV tp = n at *
    generalize gV tb = nb at *
    generalize gV x = nx at *
    have h0 : 0 < n := by omega
    have HL := Lib.hid (And.intro (show InP2 n (nx, 0) from ⟨l1, h0⟩) (And.intro (show InP2 n (nb, 0) from ⟨l2, h0⟩) (And.intro l3 h0)))
    have HRt := Lib.hid (right_in h0 (nb, 0) (nx, 0))
    clear l1 l2 l3 h0
    generalize hR : rightP n (nb, 0) (nx, 0) = R at *
    have HEq := Lib.hid hR
    obtain ⟨z, hz⟩ : ∃ z : Pt, txtP R = z := ⟨_, rfl⟩
    have HZ := Lib.hid hz
    rw [hz]
    clear hR hz
    go_enter Tryz.func44, Tryz.ntmps44
    go_wp2_with fail
    refine (HK.out _).mono ?_
    rintro e w1 ⟨rfl, b1⟩
    have V := Lib.hid (cv_var' w1 HC.out.size)
    have HB := Lib.hid (bt b1 V.out.b)
    obtain ⟨_, c1, _⟩ := HC.out.cells _ _ V.out.at1
    clear b1 HK
    go_wp2_with (first | refine cv_store rfl (.tmp 5) (.tmp 10) rfl w1.heap.size cv0 C rfl rfl V.out.at0 rfl HC.out.size HC.out.one ?_)
    have HV := Lib.hid ((Held.none _).cons V.out.at1)
    clear c1 V
    generalize (w1.alloc _).setRow _ _ = wv at *
    generalize w1.heap.size = g at *
    refine (HO.out _).mono ?_
    rintro e w2 ⟨rfl, b2⟩
    have HV2 := Lib.hid (HV.out.on b2)
    have HB2 := Lib.hid (bt HB.out b2)
    clear b2 HB HV HO
    go_wp2_with fail
    have HV3 := Lib.hid HV2.out.drew
    have HB3 := Lib.hid (bt HB2.out (bd7 _))
    clear HV2 HB2
    have FP := Lib.hid (show ∀ w', Held w' [(g, C, 43)] → (Instr.loadAt 9 (.pointer (some ⟨g, 1, none⟩))).run Tryz.prog w' = .ok (.string tp) w' from fun w' hw => (HC.out.strs (hw _ (.head _))).2.1)
    have FB := Lib.hid (show ∀ w', Held w' [(g, C, 43)] → (Instr.loadAt 9 (.pointer (some ⟨g, 3, none⟩))).run Tryz.prog w' = .ok (.string tb) w' from fun w' hw => (HC.out.strs (hw _ (.head _))).2.2.2)
    refine sq_go (S := fun w' => Held w' [(g, C, 43)]) [(true, 0), (true, 3), (true, 4), (true, 7), (true, 8), (false, 1), (true, 2), (false, 5), (true, 6), (false, 9), (false, 10), (false, 11), (true, 12), (true, 13)] (by kernel_rfl) (fun d _ _ _ _ h => by cases d <;> exact h) HV3.out ?_
    refine sq_ps [(0, .string x), (3, .pointer (some ⟨g, 3, none⟩))] (by kernel_rfl) ?_
    refine sq_ld (some 25) FB.out (by kernel_rfl) ?_
    refine sq_ps [(7, .pointer (some ⟨g, 1, none⟩))] (by kernel_rfl) ?_
    refine sq_ld (some 29) FP.out (by kernel_rfl) ?_
    refine sq_c (some 22) Tryz.func31 (I1.out _) (by kernel_rfl) ?_
    rintro e w4 ⟨v4, rfl, hv4, bw4⟩
    have R4 := Lib.hid hv4
    obtain ⟨a4, n4, c4, rfl⟩ := hv4.shape
    have HV4 := Lib.hid (HV3.out.on bw4)
    have HB4 := Lib.hid (bt HB3.out bw4)
    refine ⟨_, rfl, HV4.out, ?_⟩
    refine sq_pure (some 23) (.agg #[.slice a4 n4 c4, .slice none 0 0]) (by kernel_rfl) (by kernel_rfl) (held_build 56 #[(0, (.tmp 22))] (by kernel_rfl) _ (by kernel_rfl) _ (built_7A a4 n4 c4)) ?_
    refine sq_c (some 26) Tryz.func31 (I2.out _) (by kernel_rfl) ?_
    rintro e w5 ⟨v5, rfl, hv5, bw5⟩
    have R5 := Lib.hid hv5
    obtain ⟨a5, n5, c5, rfl⟩ := hv5.shape
    have HV5 := Lib.hid (HV4.out.on bw5)
    have HB5 := Lib.hid (bt HB4.out bw5)
    refine ⟨_, rfl, HV5.out, ?_⟩
    refine sq_pure (some 27) (.agg #[.slice a5 n5 c5, .slice none 0 0]) (by kernel_rfl) (by kernel_rfl) (held_build 56 #[(0, (.tmp 26))] (by kernel_rfl) _ (by kernel_rfl) _ (built_7A a5 n5 c5)) ?_
    refine sq_c (some 30) Tryz.func31 (I3.out _) (by kernel_rfl) ?_
    rintro e w6 ⟨v6, rfl, hv6, bw6⟩
    have R6 := Lib.hid hv6
    obtain ⟨a6, n6, c6, rfl⟩ := hv6.shape
    have HV6 := Lib.hid (HV5.out.on bw6)
    have HB6 := Lib.hid (bt HB5.out bw6)
    refine ⟨_, rfl, HV6.out, ?_⟩
    refine sq_c (some 31) Tryz.func60 (right_x (x := (nx, 0)) (b := (nb, 0)) ⟨_, _, rfl, R4.out.below (bt bw5 bw6), row_nil _⟩ ⟨_, _, rfl, R5.out.below bw6, row_nil _⟩ R6.out HL.out.1 HL.out.2.1 HL.out.2.2.1) (by kernel_rfl) ?_
    rintro e w7 ⟨v7, rfl, hv7, bw7⟩
    rw [HEq.out] at hv7
    have R7 := Lib.hid hv7
    have HV7 := Lib.hid (HV6.out.on bw7)
    have HB7 := Lib.hid (bt HB6.out bw7)
    refine ⟨_, rfl, HV7.out, ?_⟩
    refine sq_c (some 32) Tryz.func79 (out7_x R7.out (sm_one (Nat.lt_trans HRt.out.1 HL.out.2.2.1)) (sm_one (Nat.lt_trans HRt.out.2 HL.out.2.2.1))) (by kernel_rfl) ?_
    rintro e w8 ⟨he, bw8⟩
    rw [HZ.out] at he
    subst he
    have HV8 := Lib.hid (HV7.out.on bw8)
    have HB8 := Lib.hid (bt HB7.out bw8)
    refine ⟨_, rfl, HV8.out, ?_⟩
    refine sq_ps [(12, .string z.1), (13, .string z.1)] (by kernel_rfl) ?_
    refine sq_done ?_
    refine (by assumption : ∀ (a : Act) (w_1 : World), Code.wp _ Code.ret _ a w_1 → _) _ _ ?_
    refine wp_ret ?_
    exact ret_at (v := .string z.1) Tryz.results44 (by kernel_rfl) (by kernel_rfl) ⟨rfl, HB8.out⟩
end Go.Proofs.YtkmmlfocidfghaaGreat
