import Derived.Test.YtdajgcgliidjbaaGreatYCurve
import Derived.Test.YtdajgcgliidjbaaGreatUOps
set_option maxRecDepth 8000
set_option maxHeartbeats 4000000
namespace Go.Proofs.YtdajgcgliidjbaaGreat
open Go.RowKit
theorem right_x {w : World} {vx vb vp : Value} {x b : Pn} {n : Nat} (hx : PairX w vx x) (hb : PairX w vb b) (hp : RowX w vp n) (ix : InP2 n x) (ib : InP2 n b) (hn : n < GB) :
  Calls Tryz.prog 64 #[vx, vb, vp] w (PairTo (rightP n b x) w) := by
 have h0 : 0 < n := Nat.lt_of_le_of_lt (Nat.zero_le _) ix.1
 have HX := Lib.hid hx
 have HBx := Lib.hid hb
 have HP := Lib.hid hp
 have HI := Lib.hid (And.intro ix (And.intro ib (And.intro hn h0)))
 obtain ⟨xa, xb, rfl, x1, x2⟩ := hx
 obtain ⟨ba, bb, rfl, b1, b2⟩ := hb
 obtain ⟨pA, pn, pc, rfl⟩ := hp.shape
 obtain ⟨qx, hqx⟩ : ∃ q : Array Value, #[xa, xb] = q := ⟨_, rfl⟩
 obtain ⟨qb, hqb⟩ : ∃ q : Array Value, #[ba, bb] = q := ⟨_, rfl⟩
 have HQ := Lib.hid (show qx.size = 2 ∧ qb.size = 2 by rw [← hqx, ← hqb]; exact ⟨rfl, rfl⟩)
 rw [hqx] at HX
 rw [hqb] at HBx
 rw [hqx, hqb]
 clear x1 x2 b1 b2 hp ix ib hn h0 hqx hqb
 have HG0 := Lib.hid (begun3 (Held.none w) qx qb #[.slice none 0 0, .slice none 0 0] 59 59 59).drew
 have HS0 := Lib.hid HG0.out.h
 have FX := Lib.hid (show ∀ w', Held w' ((w.heap.size + 1, qb, 59) :: (w.heap.size, qx, 59) :: []) → (Instr.loadAt 59 (.pointer (some ⟨w.heap.size, 0, none⟩))).run Tryz.prog w' = .ok (.agg qx) w' from fun w' hw => cells_load (show _ = some (Obj.cells qx 59 (0, 0)) from hw (w.heap.size, qx, 59) (.tail _ (.head _))) Tryz.underlying59 rfl (by rw [HQ.out.1]; exact Tryz.info7))
 have FB := Lib.hid (show ∀ w', Held w' ((w.heap.size + 1, qb, 59) :: (w.heap.size, qx, 59) :: []) → (Instr.loadAt 59 (.pointer (some ⟨w.heap.size + 1, 0, none⟩))).run Tryz.prog w' = .ok (.agg qb) w' from fun w' hw => cells_load (show _ = some (Obj.cells qb 59 (0, 0)) from hw (w.heap.size + 1, qb, 59) (.head _)) Tryz.underlying59 rfl (by rw [HQ.out.2]; exact Tryz.info7))
 go_enter Tryz.func64, Tryz.ntmps64
 go_wp2_with fail
 generalize ((w.alloc _).alloc _).alloc _ = w0 at *
 refine sq_gok (S := fun w' => Held w' ((w.heap.size + 1, qb, 59) :: (w.heap.size, qx, 59) :: [])) [(true, 0), (true, 1), (true, 2), (true, 4), (true, 5), (true, 7), (true, 8), (false, 3), (false, 6), (false, 9), (false, 10)] HS0.out ?_
 refine sq_ldk (some 7) FX.out ?_
 refine sq_ldk (some 8) FX.out ?_
 refine sq_psk [(2, .slice pA pn pc)] ?_
 refine sq_ldk (some 11) FX.out ?_
 refine sq_psk [(5, .slice pA pn pc)] ?_
 refine sq_ldk (some 14) FB.out ?_
 refine sq_psk [(8, .slice pA pn pc)] ?_
 refine sq_ck (some 10) Tryz.func63 (lmul7_x (HX.out.below HG0.out.b) (HX.out.below HG0.out.b) (HP.out.below HG0.out.b) HI.out.1 HI.out.1 HI.out.2.2.1) ?_
 rintro e w1 ⟨v1, rfl, hv1, bw1⟩
 have HV1 := Lib.hid hv1
 have HG1 := Lib.hid (HG0.out.on bw1)
 have HS1 := Lib.hid HG1.out.h
 refine ⟨_, rfl, HS1.out, ?_⟩
 refine sq_ck (some 13) Tryz.func63 (lmul7_x HV1.out (HX.out.below HG1.out.b) (HP.out.below HG1.out.b) (mulP_in HI.out.2.2.2 _ _) HI.out.1 HI.out.2.2.1) ?_
 rintro e w2 ⟨v2, rfl, hv2, bw2⟩
 have HV2 := Lib.hid hv2
 have HG2 := Lib.hid (HG1.out.on bw2)
 have HS2 := Lib.hid HG2.out.h
 refine ⟨_, rfl, HS2.out, ?_⟩
 refine sq_ck (some 16) Tryz.func84 (ladd7_x HV2.out (HBx.out.below HG2.out.b) (HP.out.below HG2.out.b) (mulP_in HI.out.2.2.2 _ _) HI.out.2.1 HI.out.2.2.1) ?_
 rintro e w3 ⟨v3, rfl, hv3, bw3⟩
 have HG3 := Lib.hid (HG2.out.on bw3)
 have HS3 := Lib.hid HG3.out.h
 refine ⟨_, rfl, HS3.out, ?_⟩
 obtain ⟨va, vb, rfl, ha, hb⟩ := hv3
 have HA := Lib.hid ha
 have HAB := Lib.hid hb
 obtain ⟨aA, an, ac, rfl⟩ := ha.shape
 obtain ⟨bA, bn, bc, rfl⟩ := hb.shape
 have hge : w.heap.size ≤ w.heap.size + 1 + 1 := by omega
 have HE := Lib.hid (HG3.out.put hge #[.slice aA an ac, .slice bA bn bc])
 refine sq_stk 59 (w.heap.size + 1 + 1) #[.slice aA an ac, .slice bA bn bc] HG3.out.out Tryz.info7 rfl (HS3.out.setRow HG3.out.ne) ?_
 refine sq_done ?_
 refine ‹∀ a w, Code.wp _ Code.ret _ a w → _› _ _ ?_
 refine wp_ret ?_
 exact bodyPost_ret (results_cell_row Tryz.results64 _ _ (w.heap.size + 1 + 1) _ _ _ _ (by kernel_rfl) HE.out.out Tryz.underlying59 rfl Tryz.info7) (by kernel_rfl) ⟨_, rfl, ⟨_, _, rfl, RowX.setRow HA.out HG3.out.out (by decide), RowX.setRow HAB.out HG3.out.out (by decide)⟩, HE.out.b⟩
theorem cubeAndPair_any (id : Int) (x : Pt) (w : World) : Calls Tryz.prog 50 #[.int .i64 id, .agg (aggT x)] w fun e w' => e = .returned (.agg (aggT (cube2G id x))) ∧ Below w.heap.size w w' := by
 have HK := Lib.hid (curveOf_any id)
 have HC := Lib.hid (cv_in id)
 have HO := Lib.hid (pairOk_any x (cvPT id))
 have HG0 := Lib.hid (begun2 (Held.none w) (aggT x) #[.string ⟨#[]⟩, .string ⟨#[]⟩] 25 25)
 have hge : w.heap.size ≤ w.heap.size + 1 := Nat.le_succ _
 have HGe := Lib.hid hge
 clear hge
 cases hb : cvB id with
 | false =>
  rw [hb] at HK
  rw [cube2_no (by rw [hb]; rfl)]
  clear hb HO
  generalize cvC id = C at *
  go_enter Tryz.func50, Tryz.ntmps50
  go_wp2_with fail
  generalize (w.alloc _).alloc _ = w0 at *
  refine (HK.out _).mono ?_
  rintro e w1 ⟨rfl, b1⟩
  have HG1 := Lib.hid (HG0.out.on b1)
  have V := Lib.hid (cv_var' w1 HC.out.size)
  have HG2 := Lib.hid ((HG1.out.new cv0 35).putAt HG1.out.b.size HG1.out.h.apart C)
  clear b1 HK HG0 HG1
  have HE := Lib.hid (HG2.out.put HGe.out (aggT noP))
  go_wp2_with (first | refine cv_store rfl (.tmp 5) (.tmp 10) rfl w1.heap.size cv0 C rfl rfl V.out.at0 rfl HC.out.size HC.out.one ?_ | refine store_p rfl (.tmp 4) (.tmp 21) rfl (w.heap.size + 1) _ noP rfl rfl HG2.out.out rfl ?_)
  exact bodyPost_ret (results_cell_row Tryz.results50 _ _ (w.heap.size + 1) _ _ _ _ rfl HE.out.out Tryz.underlying25 rfl Tryz.infoP) rfl ⟨rfl, HE.out.b⟩
 | true =>
 rw [hb] at HK
 cases hr : pairB x (cvPT id) with
 | false =>
  rw [hr] at HO
  rw [cube2_no (by rw [hb, hr]; rfl)]
  clear hb hr
  generalize cvC id = C at *
  generalize cvNT id = tn at *
  generalize cvRT id = tr at *
  generalize cvSz id = sz at *
  generalize cvPT id = tp at *
  generalize cvBT id = tb at *
  generalize cvKT id = tk at *
  go_enter Tryz.func50, Tryz.ntmps50
  go_wp2_with fail
  generalize (w.alloc _).alloc _ = w0 at *
  refine (HK.out _).mono ?_
  rintro e w1 ⟨rfl, b1⟩
  have HG1 := Lib.hid (HG0.out.on b1)
  have V := Lib.hid (cv_var' w1 HC.out.size)
  have HG2 := Lib.hid ((HG1.out.new cv0 35).putAt HG1.out.b.size HG1.out.h.apart C)
  clear b1 HK HG0 HG1
  obtain ⟨_, c1, _⟩ := HC.out.cells _ _ V.out.at1
  obtain ⟨d1, d2⟩ := agg_cells (show _ = some (Obj.cells (aggT x) 25 (0, 0)) from HG2.out.h (w.heap.size, aggT x, 25) (.tail _ (.head _)))
  go_wp2_with (first | refine cv_store rfl (.tmp 5) (.tmp 10) rfl w1.heap.size cv0 C rfl rfl V.out.at0 rfl HC.out.size HC.out.one ?_)
  generalize (w1.alloc _).setRow _ _ = wv at *
  refine (HO.out _).mono ?_
  rintro e w2 ⟨rfl, b2⟩
  have HG3 := Lib.hid (HG2.out.on b2)
  have HE := Lib.hid (HG3.out.put HGe.out (aggT noP))
  clear b2 HG2 c1 d1 d2 V HO
  go_wp2_with (first | refine store_p rfl (.tmp 4) (.tmp 21) rfl (w.heap.size + 1) _ noP rfl rfl HG3.out.out rfl ?_)
  exact bodyPost_ret (results_cell_row Tryz.results50 _ _ (w.heap.size + 1) _ _ _ _ rfl HE.out.out Tryz.underlying25 rfl Tryz.infoP) rfl ⟨rfl, HE.out.b⟩
 | true =>
  rw [hr] at HO
  rw [← cube2_of hb hr]
  have F := curve_fit hb
  obtain ⟨⟨s1, s2⟩, ix⟩ := in_pair hr
  obtain ⟨⟨s3, s4⟩, ik⟩ := in_pair F.k
  have l3 := gV_lt (modB_parts F.mp).1
  have h0 := mod_pos F.mp
  have I1 := Lib.hid (fun w => in7_x x w s1 s2)
  have I2 := Lib.hid (fun w => in7_x (cvKT id) w s3 s4)
  have I3 := Lib.hid (fun w => in_x (cvPT id) w F.sp)
  clear hb hr F s1 s2 s3 s4
  generalize cvC id = C at *
  generalize cvNT id = tn at *
  generalize cvRT id = tr at *
  generalize cvSz id = sz at *
  generalize cvPT id = tp at *
  generalize cvBT id = tb at *
  generalize cvKT id = tk at *
  generalize gV tp = n at *
  generalize hX : valP x = X at *
  generalize hY : valP tk = Y at *
  have HL := Lib.hid (And.intro ix (And.intro ik (And.intro l3 h0)))
  have HRt := Lib.hid (right_in h0 Y X)
  clear ix ik l3 h0 hX hY
  generalize hR : rightP n Y X = R at *
  have HEq := Lib.hid hR
  obtain ⟨z, hz⟩ : ∃ z : Pt, txtP R = z := ⟨_, rfl⟩
  have HZ := Lib.hid hz
  rw [hz]
  clear hR hz
  go_enter Tryz.func50, Tryz.ntmps50
  go_wp2_with fail
  generalize (w.alloc _).alloc _ = w0 at *
  refine (HK.out _).mono ?_
  rintro e w1 ⟨rfl, b1⟩
  have HG1 := Lib.hid (HG0.out.on b1)
  have V := Lib.hid (cv_var' w1 HC.out.size)
  have HG2 := Lib.hid ((HG1.out.new cv0 35).putAt HG1.out.b.size HG1.out.h.apart C)
  clear b1 HK HG0 HG1
  obtain ⟨_, c1, _⟩ := HC.out.cells _ _ V.out.at1
  obtain ⟨d1, d2⟩ := agg_cells (show _ = some (Obj.cells (aggT x) 25 (0, 0)) from HG2.out.h (w.heap.size, aggT x, 25) (.tail _ (.head _)))
  go_wp2_with (first | refine cv_store rfl (.tmp 5) (.tmp 10) rfl w1.heap.size cv0 C rfl rfl V.out.at0 rfl HC.out.size HC.out.one ?_)
  clear c1 d1 d2 V
  generalize (w1.alloc _).setRow _ _ = wv at *
  generalize w1.heap.size = g at *
  refine (HO.out _).mono ?_
  rintro e w2 ⟨rfl, b2⟩
  have HG3 := Lib.hid (HG2.out.on b2)
  clear b2 HG2 HO
  go_wp2_with fail
  have HG4 := Lib.hid HG3.out.drew
  have HS4 := Lib.hid HG4.out.h
  clear HG3
  have FP := Lib.hid (show ∀ w', Held w' ((g, C, 35) :: (w.heap.size, aggT x, 25) :: []) → (Instr.loadAt 9 (.pointer (some ⟨g, 1, none⟩))).run Tryz.prog w' = .ok (.string tp) w' from fun w' hw => (HC.out.strs (show _ = some (Obj.cells C 35 (0, 0)) from hw (g, C, 35) (by simp))).2.1)
  have FK := Lib.hid (show ∀ w', Held w' ((g, C, 35) :: (w.heap.size, aggT x, 25) :: []) → (Instr.loadAt 25 (.pointer (some ⟨g, 4, none⟩))).run Tryz.prog w' = .ok (.agg (aggT tk)) w' from fun w' hw => HC.out.pair w' g (show _ = some (Obj.cells C 35 (0, 0)) from hw (g, C, 35) (by simp)))
  have FX := Lib.hid (show ∀ w', Held w' ((g, C, 35) :: (w.heap.size, aggT x, 25) :: []) → (Instr.loadAt 25 (.pointer (some ⟨w.heap.size, 0, none⟩))).run Tryz.prog w' = .ok (.agg (aggT x)) w' from fun w' hw => pair_load (show _ = some (Obj.cells (aggT x) 25 (0, 0)) from hw (w.heap.size, aggT x, 25) (by simp)))
  refine sq_gok (S := fun w' => Held w' ((g, C, 35) :: (w.heap.size, aggT x, 25) :: [])) [(true, 0), (true, 2), (true, 3), (true, 5), (true, 6), (false, 1), (false, 4), (false, 7), (false, 8), (false, 9), (false, 10)] HS4.out ?_
  refine sq_ldk (some 22) FX.out ?_
  refine sq_psk [(2, .pointer (some ⟨g, 4, none⟩))] ?_
  refine sq_ldk (some 25) FK.out ?_
  refine sq_psk [(5, .pointer (some ⟨g, 1, none⟩))] ?_
  refine sq_ldk (some 28) FP.out ?_
  refine sq_ck (some 23) Tryz.func33 (I1.out _) ?_
  rintro e w4 ⟨v4, rfl, hv4, bw4⟩
  have R4 := Lib.hid hv4
  have HG5 := Lib.hid (HG4.out.on bw4)
  have HS5 := Lib.hid HG5.out.h
  refine ⟨_, rfl, HS5.out, ?_⟩
  refine sq_ck (some 26) Tryz.func33 (I2.out _) ?_
  rintro e w5 ⟨v5, rfl, hv5, bw5⟩
  have R5 := Lib.hid hv5
  have HG6 := Lib.hid (HG5.out.on bw5)
  have HS6 := Lib.hid HG6.out.h
  refine ⟨_, rfl, HS6.out, ?_⟩
  refine sq_ck (some 29) Tryz.func34 (I3.out _) ?_
  rintro e w6 ⟨v6, rfl, hv6, bw6⟩
  have R6 := Lib.hid hv6
  have HG7 := Lib.hid (HG6.out.on bw6)
  have HS7 := Lib.hid HG7.out.h
  refine ⟨_, rfl, HS7.out, ?_⟩
  refine sq_ck (some 30) Tryz.func64 (right_x (R4.out.below (bt bw5 bw6)) (R5.out.below bw6) R6.out HL.out.1 HL.out.2.1 HL.out.2.2.1) ?_
  rintro e w7 ⟨v7, rfl, hv7, bw7⟩
  rw [HEq.out] at hv7
  have R7 := Lib.hid hv7
  have HG8 := Lib.hid (HG7.out.on bw7)
  have HS8 := Lib.hid HG8.out.h
  refine ⟨_, rfl, HS8.out, ?_⟩
  refine sq_ck (some 31) Tryz.func81 (out7_x R7.out (sm_one (Nat.lt_trans HRt.out.1 HL.out.2.2.1)) (sm_one (Nat.lt_trans HRt.out.2 HL.out.2.2.1))) ?_
  rintro e w8 ⟨he, bw8⟩
  rw [HZ.out] at he
  subst he
  have HG9 := Lib.hid (HG8.out.on bw8)
  have HS9 := Lib.hid HG9.out.h
  refine ⟨_, rfl, HS9.out, ?_⟩
  have HE := Lib.hid (HG9.out.put HGe.out (aggT z))
  refine sq_stk 25 (w.heap.size + 1) (aggT z) HG9.out.out Tryz.infoP rfl (HS9.out.setRow HG9.out.ne) ?_
  refine sq_done ?_
  refine ‹∀ a w, Code.wp _ Code.ret _ a w → _› _ _ ?_
  refine wp_ret ?_
  exact bodyPost_ret (results_cell_row Tryz.results50 _ _ (w.heap.size + 1) _ _ _ _ (by kernel_rfl) HE.out.out Tryz.underlying25 rfl Tryz.infoP) (by kernel_rfl) ⟨rfl, HE.out.b⟩
end Go.Proofs.YtdajgcgliidjbaaGreat
