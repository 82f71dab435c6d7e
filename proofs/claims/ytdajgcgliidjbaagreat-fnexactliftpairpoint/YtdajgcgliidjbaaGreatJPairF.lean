import Derived.Test.YtdajgcgliidjbaaGreatJPairC
import Derived.Test.YtdajgcgliidjbaaGreatUInvs
import Derived.Deep.LoopGhost
set_option maxRecDepth 8000
set_option maxHeartbeats 2000000
namespace Go.Proofs.YtdajgcgliidjbaaGreat
open Go.RowKit
theorem negPair_i (x : Pt) (p : ByteArray) (w : World) : Calls Tryz.prog 41 #[.agg (aggT x), .string p] w fun e w' => e = .returned (.agg (aggT (negPG x p))) ∧ Below w.heap.size w w' := by
 have HS := Lib.hid (subPair_i noP x p)
 unfold negPG
 generalize subPG noP x p = R at *
 have HX2 := Lib.hid (heap_alloc2_old w (.cells (aggT x) 25) (.cells #[.string ⟨#[]⟩, .string ⟨#[]⟩] 25))
 have HO2 := Lib.hid (heap_alloc2_new w (.cells (aggT x) 25) (.cells #[.string ⟨#[]⟩, .string ⟨#[]⟩] 25))
 have HB2 := Lib.hid (((Below.refl w.heap.size w).alloc (Nat.le_refl _) (.cells (aggT x) 25)).alloc (by simp) (.cells #[.string ⟨#[]⟩, .string ⟨#[]⟩] 25))
 go_enter Tryz.func41, Tryz.ntmps41
 go_wp2_with (first | refine load_p rfl (.tmp 2) rfl w.heap.size x rfl HX2.out ?_)
 generalize (w.alloc (.cells (aggT x) 25)).alloc (.cells #[.string ⟨#[]⟩, .string ⟨#[]⟩] 25) = w2 at *
 have hz2 : w.heap.size + 1 < w2.heap.size := (Array.getElem?_eq_some_iff.1 HO2.out).1
 refine (HS.out _).mono ?_
 rintro e w3 ⟨rfl, b3⟩
 have HO3 := Lib.hid ((b3.block _ hz2).trans HO2.out)
 have HB3 := Lib.hid (bt HB2.out b3)
 have HW := Lib.hid (below_setRow2 HB3.out (show w.heap.size ≤ w.heap.size + 1 by omega) (aggT R))
 have HR := Lib.hid (setRow_heap w3 (w.heap.size + 1) _ (aggT R) _ _ HO3.out)
 clear b3 HB2 HO2 HX2 HS
 go_wp2_with (first | refine store_p rfl (.tmp 4) (.tmp 8) rfl (w.heap.size + 1) _ R rfl rfl HO3.out rfl ?_)
 exact bodyPost_ret (results_cell_row Tryz.results41 _ _ (w.heap.size + 1) _ _ _ _ rfl HR.out Tryz.underlying25 rfl Tryz.infoP) rfl ⟨rfl, HW.out⟩
end Go.Proofs.YtdajgcgliidjbaaGreat
namespace Go.Proofs.YtdajgcgliidjbaaGreat
open Go.RowKit
end Go.Proofs.YtdajgcgliidjbaaGreat
