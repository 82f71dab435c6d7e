import Derived.Test.YtdajgcgliidjbaaYCurve
import Derived.Test.YtdajgcgliidjbaaUOps
namespace Go.Proofs.Ytdajgcgliidjbaa
open Go.RowKit
theorem Try.parts7 : (structParts Try.prog 47).map (fun q => (q.1.cells.toList, q.2)) = some ([.slice none 0 0, .slice none 0 0], [(0, 1), (1, 1)]) := by kernel_rfl
set_option maxRecDepth 8000 in
set_option maxHeartbeats 4000000 in
theorem right_x {w : World} {vx vb vp : Value} {x b : Pn} {n : Nat} (hx : PairX w vx x) (hb : PairX w vb b) (hp : RowX w vp n) (ix : InP2 n x) (ib : InP2 n b) (hn : n < GB) :
    Calls Try.prog 40 #[vx, vb, vp] w (PairTo (rightP n b x) w) := by
  have h0 : 0 < n := Nat.lt_of_le_of_lt (Nat.zero_le _) ix.1
  have HX := Lib.hid hx
  have HBx := Lib.hid hb
  have HP := Lib.hid hp
  have HI := Lib.hid (And.intro ix (And.intro ib (And.intro hn h0)))
  obtain ⟨xa, xb, rfl, x1, x2⟩ := hx
  obtain ⟨ba, bb, rfl, b1, b2⟩ := hb
  obtain ⟨pA, pn, pc, rfl⟩ := hp.shape
  obtain ⟨qx, hqx⟩ : ∃ q : Array Value, #[xa, xb] = q := ⟨_, rfl⟩
  obtain ⟨qb, hqb⟩ : ∃ q : Array Value, #[ba, bb] = q := ⟨_, rfl⟩
  have HQ := Lib.hid (show qx.size = 2 ∧ qb.size = 2 by rw [← hqx, ← hqb]; exact ⟨rfl, rfl⟩)
  rw [hqx] at HX
  rw [hqb] at HBx
  rw [hqx, hqb]
  clear x1 x2 b1 b2 hp ix ib hn h0 hqx hqb
  have HG0 := Lib.hid (begun3 (Held.none w) qx qb #[.slice none 0 0, .slice none 0 0] 47 47 47).drew
  have HS0 := Lib.hid HG0.out.h
  have FX := Lib.hid (show ∀ w', Held w' ((w.heap.size + 1, qb, 47) :: (w.heap.size, qx, 47) :: []) → (Instr.loadAt 47 (.pointer (some ⟨w.heap.size, 0, none⟩))).run Try.prog w' = .ok (.agg qx) w' from fun w' hw => cells_load (show _ = some (Obj.cells qx 47 (0, 0)) from hw (w.heap.size, qx, 47) (.tail _ (.head _))) Try.underlying47 rfl (by rw [HQ.out.1]; exact Try.info7))
  have FB := Lib.hid (show ∀ w', Held w' ((w.heap.size + 1, qb, 47) :: (w.heap.size, qx, 47) :: []) → (Instr.loadAt 47 (.pointer (some ⟨w.heap.size + 1, 0, none⟩))).run Try.prog w' = .ok (.agg qb) w' from fun w' hw => cells_load (show _ = some (Obj.cells qb 47 (0, 0)) from hw (w.heap.size + 1, qb, 47) (.head _)) Try.underlying47 rfl (by rw [HQ.out.2]; exact Try.info7))
  go_enter Try.func40, Try.ntmps40
  go_wp2_with fail
  generalize ((w.alloc _).alloc _).alloc _ = w0 at *
  refine sq_go (S := fun w' => Held w' ((w.heap.size + 1, qb, 47) :: (w.heap.size, qx, 47) :: [])) [(true, 0), (true, 1), (true, 2), (true, 4), (true, 5), (true, 7), (true, 8), (false, 3), (false, 6), (false, 9), (false, 10)] (by kernel_rfl) (fun d _ _ _ _ h => by cases d <;> exact h) HS0.out ?_
  refine sq_ld (some 7) FX.out (by kernel_rfl) ?_
  refine sq_ld (some 8) FX.out (by kernel_rfl) ?_
  refine sq_ps [(2, .slice pA pn pc)] (by kernel_rfl) ?_
  refine sq_ld (some 11) FX.out (by kernel_rfl) ?_
  refine sq_ps [(5, .slice pA pn pc)] (by kernel_rfl) ?_
  refine sq_ld (some 14) FB.out (by kernel_rfl) ?_
  refine sq_ps [(8, .slice pA pn pc)] (by kernel_rfl) ?_
  refine sq_c (some 10) Try.func39 (lmul7_x (HX.out.below HG0.out.b) (HX.out.below HG0.out.b) (HP.out.below HG0.out.b) HI.out.1 HI.out.1 HI.out.2.2.1) (by kernel_rfl) ?_
  rintro e w1 ⟨v1, rfl, hv1, bw1⟩
  have HV1 := Lib.hid hv1
  have HG1 := Lib.hid (HG0.out.on bw1)
  have HS1 := Lib.hid HG1.out.h
  refine ⟨_, rfl, HS1.out, ?_⟩
  refine sq_c (some 13) Try.func39 (lmul7_x HV1.out (HX.out.below HG1.out.b) (HP.out.below HG1.out.b) (mulP_in HI.out.2.2.2 _ _) HI.out.1 HI.out.2.2.1) (by kernel_rfl) ?_
  rintro e w2 ⟨v2, rfl, hv2, bw2⟩
  have HV2 := Lib.hid hv2
  have HG2 := Lib.hid (HG1.out.on bw2)
  have HS2 := Lib.hid HG2.out.h
  refine ⟨_, rfl, HS2.out, ?_⟩
  refine sq_c (some 16) Try.func56 (ladd7_x HV2.out (HBx.out.below HG2.out.b) (HP.out.below HG2.out.b) (mulP_in HI.out.2.2.2 _ _) HI.out.2.1 HI.out.2.2.1) (by kernel_rfl) ?_
  rintro e w3 ⟨v3, rfl, hv3, bw3⟩
  have HG3 := Lib.hid (HG2.out.on bw3)
  have HS3 := Lib.hid HG3.out.h
  refine ⟨_, rfl, HS3.out, ?_⟩
  obtain ⟨va, vb, rfl, ha, hb⟩ := hv3
  have HA := Lib.hid ha
  have HAB := Lib.hid hb
  obtain ⟨aA, an, ac, rfl⟩ := ha.shape
  obtain ⟨bA, bn, bc, rfl⟩ := hb.shape
  have hge : w.heap.size ≤ w.heap.size + 1 + 1 := by omega
  have HE := Lib.hid (HG3.out.put hge #[.slice aA an ac, .slice bA bn bc])
  refine sq_st 47 (w.heap.size + 1 + 1) #[.slice aA an ac, .slice bA bn bc] HG3.out.out Try.info7 rfl (by kernel_rfl) (HS3.out.setRow HG3.out.ne) (by kernel_rfl) ?_
  refine sq_done ?_
  refine (by assumption : ∀ (a : Act) (w_1 : World), Code.wp _ Code.ret _ a w_1 → _) _ _ ?_
  refine wp_ret ?_
  exact bodyPost_ret (results_cell_row Try.results40 _ _ (w.heap.size + 1 + 1) _ _ _ _ (by kernel_rfl) HE.out.out Try.underlying47 rfl Try.info7) (by kernel_rfl) ⟨_, rfl, ⟨_, _, rfl, RowX.setRow HA.out HG3.out.out (by decide), RowX.setRow HAB.out HG3.out.out (by decide)⟩, HE.out.b⟩
end Go.Proofs.Ytdajgcgliidjbaa
