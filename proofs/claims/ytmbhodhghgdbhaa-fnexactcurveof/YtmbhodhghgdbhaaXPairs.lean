import Derived.Test.YtmbhodhghgdbhaaJTri
/-
  The helpers of the exact laws over pairs: laws.szPair, toPair, eqPair.
-/
namespace Go.Proofs.Ytmbhodhghgdbhaa
open Go.RowKit
theorem Try.infoLP : (Try.prog.info? 48).map (·.size) = some 2 := by kernel_rfl
def szG (x : Pt) (l : Int) : Int := if l - (x.1.size : Int) < 0 then -1 else if l - (x.1.size : Int) - (x.2.size : Int) < 0 then -1 else l - (x.1.size : Int) - (x.2.size : Int)
set_option maxRecDepth 8000 in
set_option maxHeartbeats 2000000 in
theorem szPair_any (x : Pt) (l : Int) (w : World) (hl : 0 ≤ l ∧ l ≤ 1048576) (s1 : x.1.size ≤ 9223372036854775807) (s2 : x.2.size ≤ 9223372036854775807) :
    Calls Try.prog 29 #[.agg (aggT x), .int .i64 l] w fun e w' => e = .returned (.int .i64 (szG x l)) ∧ Below w.heap.size w w' := by
  have HN := Lib.hid (agg_new w x 48)
  obtain ⟨c1, c2⟩ := agg_cells HN.out.1
  obtain ⟨n1, h1⟩ : ∃ n, (x.1.size : Int) = n := ⟨_, rfl⟩
  obtain ⟨n2, h2⟩ : ∃ n, (x.2.size : Int) = n := ⟨_, rfl⟩
  have k1 : 0 ≤ n1 ∧ n1 ≤ 9223372036854775807 := by omega
  have k2 : 0 ≤ n2 ∧ n2 ≤ 9223372036854775807 := by omega
  have e1 : IntKind.i64.wrap (l - n1) = l - n1 := IntWalk.i64_in _ (by omega)
  unfold szG
  rw [h1, h2]
  by_cases d1 : l - n1 < 0
  · rw [if_pos d1]
    have d1' : l < n1 := by omega
    clear s1 s2
    go_enter Try.func29, Try.ntmps29
    go_wp2
    go_ret
    exact ⟨rfl, HN.out.2⟩
  · rw [if_neg d1]
    have e2 : IntKind.i64.wrap (l - n1 - n2) = l - n1 - n2 := IntWalk.i64_in _ (by omega)
    have d1' : ¬ l < n1 := by omega
    by_cases d2 : l - n1 - n2 < 0
    · rw [if_pos d2]
      clear s1 s2
      go_enter Try.func29, Try.ntmps29
      go_wp2
      go_ret
      exact ⟨rfl, HN.out.2⟩
    · rw [if_neg d2]
      clear s1 s2
      go_enter Try.func29, Try.ntmps29
      go_wp2
      go_ret
      exact ⟨rfl, HN.out.2⟩
set_option maxRecDepth 8000 in
set_option maxHeartbeats 2000000 in
theorem toPair_any (x : Pt) (w : World) : Calls Try.prog 31 #[.agg (aggT x)] w fun e w' => e = .returned (.agg (aggT x)) ∧ Below w.heap.size w w' := by
  have HX2 := Lib.hid (heap_alloc2_old w (.cells (aggT x) 48) (.cells #[.string ⟨#[]⟩, .string ⟨#[]⟩] 26))
  have HO2 := Lib.hid (heap_alloc2_new w (.cells (aggT x) 48) (.cells #[.string ⟨#[]⟩, .string ⟨#[]⟩] 26))
  have HB2 := Lib.hid (((Below.refl w.heap.size w).alloc (Nat.le_refl _) (.cells (aggT x) 48)).alloc (by simp) (.cells #[.string ⟨#[]⟩, .string ⟨#[]⟩] 26))
  have HS2 : Hid (((w.alloc (.cells (aggT x) 48)).alloc (.cells #[.string ⟨#[]⟩, .string ⟨#[]⟩] 26)).heap.size = w.heap.size + 2) := by show _ = _; simp
  go_enter Try.func31, Try.ntmps31
  go_upto_region 1 with (fail)
  generalize (w.alloc (.cells (aggT x) 48)).alloc (.cells #[.string ⟨#[]⟩, .string ⟨#[]⟩] 26) = w2 at *
  have hZ := heap_alloc_new w2 (.cells #[.string ⟨#[]⟩, .string ⟨#[]⟩] 26)
  have bZ : Below w2.heap.size w2 (w2.alloc (.cells #[.string ⟨#[]⟩, .string ⟨#[]⟩] 26)) := (Below.refl _ _).alloc (Nat.le_refl _) _
  have HX3 := Lib.hid (stays bZ HX2.out)
  have HO3 := Lib.hid (stays bZ HO2.out)
  have HB3 := Lib.hid (bt HB2.out bZ)
  rw [HS2.out] at hZ
  have HZ3 := Lib.hid hZ
  clear hZ bZ HX2 HO2 HB2
  go_upto_region 2 with (fail)
  rw [HS2.out]
  generalize w2.alloc (.cells #[.string ⟨#[]⟩, .string ⟨#[]⟩] 26) = w3 at *
  clear HS2
  have c1 := (agg_cells HX3.out).1
  have d1 := (cell_of_row w3 (w.heap.size + 2) 0 _ _ _ HZ3.out).trans (show _ = some (Value.string ⟨#[]⟩) from rfl)
  have f1 := frozen_of_row w3 (w.heap.size + 2) 0 _ _ HZ3.out
  go_upto_region 3 with (fail)
  have HX4 := Lib.hid ((Below.heap_setCell w3 ⟨w.heap.size + 2, 0, none⟩ (.string x.1) w.heap.size (show w.heap.size ≠ w.heap.size + 2 by omega)).trans HX3.out)
  have HO4 := Lib.hid ((Below.heap_setCell w3 ⟨w.heap.size + 2, 0, none⟩ (.string x.1) (w.heap.size + 1) (show w.heap.size + 1 ≠ w.heap.size + 2 by omega)).trans HO3.out)
  have HZ4 := Lib.hid (heap_setCell_same w3 (w.heap.size + 2) 0 _ _ (.string x.1) HZ3.out)
  have HB4 := Lib.hid (HB3.out.setCell (p := ⟨w.heap.size + 2, 0, none⟩) (show w.heap.size ≤ w.heap.size + 2 by omega) (.string x.1))
  generalize w3.setCell ⟨w.heap.size + 2, 0, none⟩ (.string x.1) = w4 at *
  clear c1 d1 f1 HX3 HO3 HZ3 HB3
  have c1 := (agg_cells HX4.out).2
  have d1 := (cell_of_row w4 (w.heap.size + 2) 1 _ _ _ HZ4.out).trans (show _ = some (Value.string ⟨#[]⟩) from rfl)
  have f1 := frozen_of_row w4 (w.heap.size + 2) 1 _ _ HZ4.out
  go_upto_region 4 with (fail)
  have HO5 := Lib.hid ((Below.heap_setCell w4 ⟨w.heap.size + 2, 1, none⟩ (.string x.2) (w.heap.size + 1) (show w.heap.size + 1 ≠ w.heap.size + 2 by omega)).trans HO4.out)
  have HZ5 : Hid ((w4.setCell ⟨w.heap.size + 2, 1, none⟩ (.string x.2)).heap[w.heap.size + 2]? = some (.cells (aggT x) 26 (0, 0))) := heap_setCell_same w4 (w.heap.size + 2) 1 _ _ (.string x.2) HZ4.out
  have HB5 := Lib.hid (HB4.out.setCell (p := ⟨w.heap.size + 2, 1, none⟩) (show w.heap.size ≤ w.heap.size + 2 by omega) (.string x.2))
  generalize w4.setCell ⟨w.heap.size + 2, 1, none⟩ (.string x.2) = w5 at *
  have HW := Lib.hid (below_setRow2 HB5.out (show w.heap.size ≤ w.heap.size + 1 by omega) (aggT x))
  have HR := Lib.hid (setRow_heap w5 (w.heap.size + 1) _ (aggT x) _ _ HO5.out)
  clear c1 d1 f1 HX4 HO4 HZ4 HB4
  go_wp2_with (first | refine load_p rfl (.tmp 3) rfl (w.heap.size + 2) x rfl HZ5.out ?_ | refine store_p rfl (.tmp 2) (.tmp 10) rfl (w.heap.size + 1) _ x rfl rfl HO5.out rfl ?_)
  exact bodyPost_ret (results_cell_row Try.results31 _ _ (w.heap.size + 1) _ _ _ _ rfl HR.out Try.underlying26 rfl Try.infoP) rfl ⟨rfl, HW.out⟩
set_option maxRecDepth 8000 in
set_option maxHeartbeats 2000000 in
theorem eqPair_same (x : Pt) (w : World) : Calls Try.prog 32 #[.agg (aggT x), .agg (aggT x)] w fun e w' => e = .returned (.bool true) ∧ Below w.heap.size w w' := by
  have HX2 := Lib.hid (heap_alloc2_old w (.cells (aggT x) 26) (.cells (aggT x) 26))
  have HO2 := Lib.hid (heap_alloc2_new w (.cells (aggT x) 26) (.cells (aggT x) 26))
  have HB2 := Lib.hid (((Below.refl w.heap.size w).alloc (Nat.le_refl _) (.cells (aggT x) 26)).alloc (by simp) (.cells (aggT x) 26))
  go_enter Try.func32, Try.ntmps32
  go_upto_region 1 with (fail)
  generalize (w.alloc (.cells (aggT x) 26)).alloc (.cells (aggT x) 26) = w2 at *
  obtain ⟨c1, c2⟩ := agg_cells HX2.out
  obtain ⟨d1, d2⟩ := agg_cells HO2.out
  go_wp2
  go_ret
  exact ⟨rfl, HB2.out⟩
end Go.Proofs.Ytmbhodhghgdbhaa
/-
  Blocks that stand without a result of their own: for the exact laws over two pairs.
-/
namespace Go.Proofs.Ytmbhodhghgdbhaa
open Go.RowKit
/-! Blocks that stand, without a result's. -/
structure Stand (w w' : World) (L : List (Nat × Array Value × TypeId)) : Prop where
  h : Held w' L
  b : Below w.heap.size w w'
theorem Stand.on {w w' w'' : World} {L : List (Nat × Array Value × TypeId)} (h : Stand w w' L) (b : Below w'.heap.size w' w'') : Stand w w'' L := ⟨h.h.on b, bt h.b b⟩
theorem Stand.drew {w w' : World} {L : List (Nat × Array Value × TypeId)} (h : Stand w w' L) : Stand w w'.drew L := ⟨h.h, ⟨h.b.os, h.b.tape, h.b.output, h.b.size, h.b.block⟩⟩
theorem Stand.new {w w' : World} {L : List (Nat × Array Value × TypeId)} (h : Stand w w' L) (C : Array Value) (t : TypeId) : Stand w (w'.alloc (.cells C t)) ((w'.heap.size, C, t) :: L) := by
  have b : Below w'.heap.size w' (w'.alloc (.cells C t)) := (Below.refl _ _).alloc (Nat.le_refl _) _
  exact ⟨(h.h.on b).cons (heap_alloc_new w' _), bt h.b b⟩
theorem Stand.putAt {w w' : World} {L : List (Nat × Array Value × TypeId)} {g : Nat} {C : Array Value} {t : TypeId} (h : Stand w w' ((g, C, t) :: L)) (hg : w.heap.size ≤ g) (ap : ∀ q ∈ L, q.1 ≠ g) (C' : Array Value) : Stand w (w'.setRow g C') ((g, C', t) :: L) :=
  ⟨(h.h.tail.setRow ap).cons (setRow_heap _ _ _ _ _ _ (h.h _ List.mem_cons_self)), below_setRow2 h.b hg _⟩
end Go.Proofs.Ytmbhodhghgdbhaa
