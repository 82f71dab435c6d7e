import Derived.Test.YtdajgcgliidjbaaGreatYCurve
import Derived.Test.YtdajgcgliidjbaaGreatUOps
set_option maxRecDepth 8000
set_option maxHeartbeats 4000000
namespace Go.Proofs.YtdajgcgliidjbaaGreat
open Go.RowKit
theorem right_x {w : World} {vx vb vp : Value} {x b : Pn} {n : Nat} (hx : PairX w vx x) (hb : PairX w vb b) (hp : RowX w vp n) (ix : InP2 n x) (ib : InP2 n b) (hn : n < GB) :
  Calls Tryz.prog 64 #[vx, vb, vp] w (PairTo (rightP n b x) w) := by
 have h0 : 0 < n := Nat.lt_of_le_of_lt (Nat.zero_le _) ix.1
 have HX := Lib.hid hx
 have HBx := Lib.hid hb
 have HP := Lib.hid hp
 have HI := Lib.hid (And.intro ix (And.intro ib (And.intro hn h0)))
 obtain ⟨xa, xb, rfl, x1, x2⟩ := hx
 obtain ⟨ba, bb, rfl, b1, b2⟩ := hb
 obtain ⟨pA, pn, pc, rfl⟩ := hp.shape
 obtain ⟨qx, hqx⟩ : ∃ q : Array Value, #[xa, xb] = q := ⟨_, rfl⟩
 obtain ⟨qb, hqb⟩ : ∃ q : Array Value, #[ba, bb] = q := ⟨_, rfl⟩
 have HQ := Lib.hid (show qx.size = 2 ∧ qb.size = 2 by rw [← hqx, ← hqb]; exact ⟨rfl, rfl⟩)
 rw [hqx] at HX
 rw [hqb] at HBx
 rw [hqx, hqb]
 clear x1 x2 b1 b2 hp ix ib hn h0 hqx hqb
 have HG0 := Lib.hid (begun3 (Held.none w) qx qb #[.slice none 0 0, .slice none 0 0] 59 59 59).drew
 have HS0 := Lib.hid HG0.out.h
 have FX := Lib.hid (show ∀ w', Held w' ((w.heap.size + 1, qb, 59) :: (w.heap.size, qx, 59) :: []) → (Instr.loadAt 59 (.pointer (some ⟨w.heap.size, 0, none⟩))).run Tryz.prog w' = .ok (.agg qx) w' from fun w' hw => cells_load (show _ = some (Obj.cells qx 59 (0, 0)) from hw (w.heap.size, qx, 59) (.tail _ (.head _))) Tryz.underlying59 rfl (by rw [HQ.out.1]; exact Tryz.info7))
 have FB := Lib.hid (show ∀ w', Held w' ((w.heap.size + 1, qb, 59) :: (w.heap.size, qx, 59) :: []) → (Instr.loadAt 59 (.pointer (some ⟨w.heap.size + 1, 0, none⟩))).run Tryz.prog w' = .ok (.agg qb) w' from fun w' hw => cells_load (show _ = some (Obj.cells qb 59 (0, 0)) from hw (w.heap.size + 1, qb, 59) (.head _)) Tryz.underlying59 rfl (by rw [HQ.out.2]; exact Tryz.info7))
 go_enter Tryz.func64, Tryz.ntmps64
 go_wp2_with fail
 generalize ((w.alloc _).alloc _).alloc _ = w0 at *
 refine sq_gok (S := fun w' => Held w' ((w.heap.size + 1, qb, 59) :: (w.heap.size, qx, 59) :: [])) [(true, 0), (true, 1), (true, 2), (true, 4), (true, 5), (true, 7), (true, 8), (false, 3), (false, 6), (false, 9), (false, 10)] HS0.out ?_
 refine sq_ldk (some 7) FX.out ?_
 refine sq_ldk (some 8) FX.out ?_
 refine sq_psk [(2, .slice pA pn pc)] ?_
 refine sq_ldk (some 11) FX.out ?_
 refine sq_psk [(5, .slice pA pn pc)] ?_
 refine sq_ldk (some 14) FB.out ?_
 refine sq_psk [(8, .slice pA pn pc)] ?_
 refine sq_ck (some 10) Tryz.func63 (lmul7_x (HX.out.below HG0.out.b) (HX.out.below HG0.out.b) (HP.out.below HG0.out.b) HI.out.1 HI.out.1 HI.out.2.2.1) ?_
 rintro e w1 ⟨v1, rfl, hv1, bw1⟩
 have HV1 := Lib.hid hv1
 have HG1 := Lib.hid (HG0.out.on bw1)
 have HS1 := Lib.hid HG1.out.h
 refine ⟨_, rfl, HS1.out, ?_⟩
 refine sq_ck (some 13) Tryz.func63 (lmul7_x HV1.out (HX.out.below HG1.out.b) (HP.out.below HG1.out.b) (mulP_in HI.out.2.2.2 _ _) HI.out.1 HI.out.2.2.1) ?_
 rintro e w2 ⟨v2, rfl, hv2, bw2⟩
 have HV2 := Lib.hid hv2
 have HG2 := Lib.hid (HG1.out.on bw2)
 have HS2 := Lib.hid HG2.out.h
 refine ⟨_, rfl, HS2.out, ?_⟩
 refine sq_ck (some 16) Tryz.func84 (ladd7_x HV2.out (HBx.out.below HG2.out.b) (HP.out.below HG2.out.b) (mulP_in HI.out.2.2.2 _ _) HI.out.2.1 HI.out.2.2.1) ?_
 rintro e w3 ⟨v3, rfl, hv3, bw3⟩
 have HG3 := Lib.hid (HG2.out.on bw3)
 have HS3 := Lib.hid HG3.out.h
 refine ⟨_, rfl, HS3.out, ?_⟩
 obtain ⟨va, vb, rfl, ha, hb⟩ := hv3
 have HA := Lib.hid ha
 have HAB := Lib.hid hb
 obtain ⟨aA, an, ac, rfl⟩ := ha.shape
 obtain ⟨bA, bn, bc, rfl⟩ := hb.shape
 have hge : w.heap.size ≤ w.heap.size + 1 + 1 := by omega
 have HE := Lib.hid (HG3.out.put hge #[.slice aA an ac, .slice bA bn bc])
 refine sq_stk 59 (w.heap.size + 1 + 1) #[.slice aA an ac, .slice bA bn bc] HG3.out.out Tryz.info7 rfl (HS3.out.setRow HG3.out.ne) ?_
 refine sq_done ?_
 refine ‹∀ a w, Code.wp _ Code.ret _ a w → _› _ _ ?_
 refine wp_ret ?_
 exact bodyPost_ret (results_cell_row Tryz.results64 _ _ (w.heap.size + 1 + 1) _ _ _ _ (by kernel_rfl) HE.out.out Tryz.underlying59 rfl Tryz.info7) (by kernel_rfl) ⟨_, rfl, ⟨_, _, rfl, RowX.setRow HA.out HG3.out.out (by decide), RowX.setRow HAB.out HG3.out.out (by decide)⟩, HE.out.b⟩
end Go.Proofs.YtdajgcgliidjbaaGreat
