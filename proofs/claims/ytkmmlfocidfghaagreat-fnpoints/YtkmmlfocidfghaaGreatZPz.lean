import Derived.Test.YtkmmlfocidfghaaGreatZPi
import Derived.Test.YtkmmlfocidfghaaGreatZLaw
import Derived.Test.YtkmmlfocidfghaaGreatJHalf
import Derived.Test.YtkmmlfocidfghaaGreatQMath
import Derived.Test.YtkmmlfocidfghaaGreatQSpec
import Derived.Deep.LoopGhost
import Derived.Test.YtkmmlfocidfghaaGreatIMid
import Derived.Test.YtkmmlfocidfghaaGreatILow
import Derived.Test.YtkmmlfocidfghaaGreatICmp
import Derived.RegionTactic
import Derived.BigRegion
import Derived.WalkMore
import Derived.ScopeJumps
namespace Go.Proofs.YtkmmlfocidfghaaGreat
open Go.RowKit
/-- Three points behind one another. -/
structure ListC (LC : Array Value) (p q r : Tp) : Prop where
  a1 : LC[0]? = some (.bool p.1)
  a2 : LC[1]? = some (.string p.2.1)
  a3 : LC[2]? = some (.string p.2.2)
  b1 : LC[3]? = some (.bool q.1)
  b2 : LC[4]? = some (.string q.2.1)
  b3 : LC[5]? = some (.string q.2.2)
  c1 : LC[6]? = some (.bool r.1)
  c2 : LC[7]? = some (.string r.2.1)
  c3 : LC[8]? = some (.string r.2.2)
set_option maxRecDepth 8000 in
set_option maxHeartbeats 4000000 in
theorem sumThree_i (id : Int) (q1 q2 q3 : Tp) (gl cap : Nat) (LC : Array Value) (w : World) (hl : w.heap[gl]? = some (.cells LC 25 (0, 0))) (hL : ListC LC q1 q2 q3) :
    Calls Tryz.prog 15 #[.int .i64 id, .slice (some ⟨gl, 0, none⟩) 3 cap] w fun e w' => e = .returned (.agg (tpT (addPtG id (addPtG id (addPtG id zeroT q1) q2) q3))) ∧ Below w.heap.size w w' := by
  have HL := Lib.hid hL
  have HG := Lib.hid (begun1 ((Held.none w).cons hl) #[.bool false, .string ⟨#[]⟩, .string ⟨#[]⟩] 25)
  have HA0 := Lib.hid (addPoint_i id zeroT q1)
  have HA1 := Lib.hid (addPoint_i id (addPtG id zeroT q1) q2)
  have HA2 := Lib.hid (addPoint_i id (addPtG id (addPtG id zeroT q1) q2) q3)
  obtain ⟨s0, e0⟩ : ∃ s, zeroT = s := ⟨_, rfl⟩
  have E0 := Lib.hid e0
  rw [e0] at HA0 HA1 HA2 ⊢
  generalize addPtG id s0 q1 = s1 at *
  generalize addPtG id s1 q2 = s2 at *
  generalize addPtG id s2 q3 = s3 at *
  clear hl hL e0
  go_enter Tryz.func15, Tryz.ntmps15
  go_upto_region 1 with (fail)
  generalize w.alloc _ = w0 at *
  have HN := Lib.hid (heap_alloc_new w0 (.cells #[.bool false, .string ⟨#[]⟩, .string ⟨#[]⟩] 25))
  have GE := Lib.hid HG.out.b.size
  have AP := Lib.hid HG.out.h.apart
  replace HG := Lib.hid ((HG.out.new #[.bool false, .string ⟨#[]⟩, .string ⟨#[]⟩] 25).putAt HG.out.b.size HG.out.h.apart (tpT zeroT))
  rw [E0.out] at HG
  go_upto_region 2 with (first | refine store_v rfl 25 (.tmp 5) (.tmp 8) rfl w0.heap.size _ (tpT zeroT) rfl rfl HN.out Tryz.infoPoint rfl (by kernel_rfl) ?_)
  rw [E0.out]
  clear HN
  generalize (w0.alloc _).setRow _ _ = w1 at *
  generalize w0.heap.size = g5 at *
  go_wp2
  refine wp_loop_rounds 5 ?_
  rw [rounds_succ]
  have c0 := (cell_of_row w1 gl 0 _ _ _ (HG.out.h _ (.tail _ (.head _)))).trans HL.out.a1
  have c1 := (cell_of_row w1 gl 1 _ _ _ (HG.out.h _ (.tail _ (.head _)))).trans HL.out.a2
  have c2 := (cell_of_row w1 gl 2 _ _ _ (HG.out.h _ (.tail _ (.head _)))).trans HL.out.a3
  have HN := Lib.hid (heap_alloc_new w1 (.cells #[.bool false, .string ⟨#[]⟩, .string ⟨#[]⟩] 25))
  have HG7 := Lib.hid ((HG.out.new #[.bool false, .string ⟨#[]⟩, .string ⟨#[]⟩] 25).putAt HG.out.b.size HG.out.h.apart (tpT q1))
  go_wp2_with (first | refine store_v rfl 25 (.tmp 7) (.tmp 14) rfl w1.heap.size _ (tpT q1) rfl rfl HN.out Tryz.infoPoint rfl (by kernel_rfl) ?_ | refine load_v rfl 25 (.tmp 5) rfl g5 (tpT s0) rfl (HG7.out.h _ (.tail _ (.head _))) Tryz.underlying25 rfl Tryz.infoPoint ?_ | refine load_v rfl 25 (.tmp 7) rfl w1.heap.size (tpT q1) rfl (HG7.out.h _ (.head _)) Tryz.underlying25 rfl Tryz.infoPoint ?_)
  clear c0 c1 c2 HN HG
  generalize (w1.alloc _).setRow _ _ = u0 at *
  generalize w1.heap.size = h0 at *
  refine (HA0.out _).mono ?_
  rintro e v0 ⟨rfl, b⟩
  have HG := Lib.hid ((HG7.out.on b).sub (L' := [(g5, tpT s0, 25), (gl, LC, 25)]) (fun q hq => .tail _ hq))
  have HN := Lib.hid (HG.out.h _ (.head _))
  clear b HG7 HA0
  go_wp2_with (first | refine store_v rfl 25 (.tmp 5) (.tmp 18) rfl g5 _ (tpT s1) rfl rfl HN.out Tryz.infoPoint rfl (by kernel_rfl) ?_)
  clear HN
  replace HG := Lib.hid (HG.out.putAt GE.out AP.out (tpT s1))
  generalize v0.setRow g5 _ = w2 at *
  rw [rounds_succ]
  have c0 := (cell_of_row w2 gl 3 _ _ _ (HG.out.h _ (.tail _ (.head _)))).trans HL.out.b1
  have c1 := (cell_of_row w2 gl 4 _ _ _ (HG.out.h _ (.tail _ (.head _)))).trans HL.out.b2
  have c2 := (cell_of_row w2 gl 5 _ _ _ (HG.out.h _ (.tail _ (.head _)))).trans HL.out.b3
  have HN := Lib.hid (heap_alloc_new w2 (.cells #[.bool false, .string ⟨#[]⟩, .string ⟨#[]⟩] 25))
  have HG7 := Lib.hid ((HG.out.new #[.bool false, .string ⟨#[]⟩, .string ⟨#[]⟩] 25).putAt HG.out.b.size HG.out.h.apart (tpT q2))
  go_wp2_with (first | refine store_v rfl 25 (.tmp 7) (.tmp 14) rfl w2.heap.size _ (tpT q2) rfl rfl HN.out Tryz.infoPoint rfl (by kernel_rfl) ?_ | refine load_v rfl 25 (.tmp 5) rfl g5 (tpT s1) rfl (HG7.out.h _ (.tail _ (.head _))) Tryz.underlying25 rfl Tryz.infoPoint ?_ | refine load_v rfl 25 (.tmp 7) rfl w2.heap.size (tpT q2) rfl (HG7.out.h _ (.head _)) Tryz.underlying25 rfl Tryz.infoPoint ?_)
  clear c0 c1 c2 HN HG
  generalize (w2.alloc _).setRow _ _ = u1 at *
  generalize w2.heap.size = h1 at *
  refine (HA1.out _).mono ?_
  rintro e v1 ⟨rfl, b⟩
  have HG := Lib.hid ((HG7.out.on b).sub (L' := [(g5, tpT s1, 25), (gl, LC, 25)]) (fun q hq => .tail _ hq))
  have HN := Lib.hid (HG.out.h _ (.head _))
  clear b HG7 HA1
  go_wp2_with (first | refine store_v rfl 25 (.tmp 5) (.tmp 18) rfl g5 _ (tpT s2) rfl rfl HN.out Tryz.infoPoint rfl (by kernel_rfl) ?_)
  clear HN
  replace HG := Lib.hid (HG.out.putAt GE.out AP.out (tpT s2))
  generalize v1.setRow g5 _ = w3 at *
  rw [rounds_succ]
  have c0 := (cell_of_row w3 gl 6 _ _ _ (HG.out.h _ (.tail _ (.head _)))).trans HL.out.c1
  have c1 := (cell_of_row w3 gl 7 _ _ _ (HG.out.h _ (.tail _ (.head _)))).trans HL.out.c2
  have c2 := (cell_of_row w3 gl 8 _ _ _ (HG.out.h _ (.tail _ (.head _)))).trans HL.out.c3
  have HN := Lib.hid (heap_alloc_new w3 (.cells #[.bool false, .string ⟨#[]⟩, .string ⟨#[]⟩] 25))
  have HG7 := Lib.hid ((HG.out.new #[.bool false, .string ⟨#[]⟩, .string ⟨#[]⟩] 25).putAt HG.out.b.size HG.out.h.apart (tpT q3))
  go_wp2_with (first | refine store_v rfl 25 (.tmp 7) (.tmp 14) rfl w3.heap.size _ (tpT q3) rfl rfl HN.out Tryz.infoPoint rfl (by kernel_rfl) ?_ | refine load_v rfl 25 (.tmp 5) rfl g5 (tpT s2) rfl (HG7.out.h _ (.tail _ (.head _))) Tryz.underlying25 rfl Tryz.infoPoint ?_ | refine load_v rfl 25 (.tmp 7) rfl w3.heap.size (tpT q3) rfl (HG7.out.h _ (.head _)) Tryz.underlying25 rfl Tryz.infoPoint ?_)
  clear c0 c1 c2 HN HG
  generalize (w3.alloc _).setRow _ _ = u2 at *
  generalize w3.heap.size = h2 at *
  refine (HA2.out _).mono ?_
  rintro e v2 ⟨rfl, b⟩
  have HG := Lib.hid ((HG7.out.on b).sub (L' := [(g5, tpT s2, 25), (gl, LC, 25)]) (fun q hq => .tail _ hq))
  have HN := Lib.hid (HG.out.h _ (.head _))
  clear b HG7 HA2
  go_wp2_with (first | refine store_v rfl 25 (.tmp 5) (.tmp 18) rfl g5 _ (tpT s3) rfl rfl HN.out Tryz.infoPoint rfl (by kernel_rfl) ?_)
  clear HN
  replace HG := Lib.hid (HG.out.putAt GE.out AP.out (tpT s3))
  generalize v2.setRow g5 _ = w4 at *
  rw [rounds_succ]
  have HE := Lib.hid (HG.out.put (Nat.le_refl _) (tpT s3))
  go_wp2_with (first | refine load_v rfl 25 (.tmp 5) rfl g5 (tpT s3) rfl (HG.out.h _ (.head _)) Tryz.underlying25 rfl Tryz.infoPoint ?_ | refine store_v rfl 25 (.tmp 4) (.tmp 20) rfl w.heap.size _ (tpT s3) rfl rfl HG.out.out Tryz.infoPoint rfl (by kernel_rfl) ?_)
  exact bodyPost_ret (results_cell_row Tryz.results15 _ _ w.heap.size _ _ _ _ rfl HE.out.out Tryz.underlying25 rfl Tryz.infoPoint) rfl ⟨rfl, HE.out.b⟩
end Go.Proofs.YtkmmlfocidfghaaGreat
