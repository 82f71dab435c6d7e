/-
  impl's points with their coordinates: the slope, the sum.
-/
import Derived.Test.YtkmmlfocidfghaaZRc
import Derived.Test.YtkmmlfocidfghaaZSum
import Derived.Test.YtkmmlfocidfghaaZHelp
namespace Go.Proofs.Ytkmmlfocidfghaa
open Go.RowKit

/-- A point with its coordinates, as cells. -/
def spC (q : Tp) (p : ByteArray) : Array Value := #[.bool q.1, .string q.2.1, .string p, .string q.2.2, .string p]
set_option maxRecDepth 8000 in
theorem yields_eqS {ops : Array Oper} {S : World → Prop} {o : Oper} {a : Act} (hw : Region.wanted o (yielded ops a.tmps) = true) (x y : Operand) (ho : o.op = .binOp .eql 62 x y 62) (s t : Tp) (p : ByteArray) (b : Bool) (hb : decide (s = t) = b)
    (hx : a.eval x = .agg (spC s p)) (hy : a.eval y = .agg (spC t p)) : YieldsIf Try.prog ops S o (.bool b) a := by
  refine .inl ⟨hw, fun w _ => ?_⟩
  unfold spC at hx hy
  unfold execOp
  simp only [ho, hx, hy]
  go_simp
  subst hb
  by_cases h0 : s.1 = t.1
  · by_cases h1 : s.2.1 = t.2.1
    · by_cases h2 : s.2.2 = t.2.2
      · have e : s = t := Prod.ext h0 (Prod.ext h1 h2)
        subst e
        simp
      · have e : s ≠ t := fun e => h2 (by rw [e])
        have k1 : ¬ s.2.2.toList = t.2.2.toList := fun q => h2 (bl_iff.1 q)
        simp [h0, h1, k1, e]
    · have e : s ≠ t := fun e => h1 (by rw [e])
      have k1 : ¬ s.2.1.toList = t.2.1.toList := fun q => h1 (bl_iff.1 q)
      simp [h0, k1, e]
  · have e : s ≠ t := fun e => h0 (by rw [e])
    simp [h0, e]
theorem bool_load2 {w : World} {g k : Nat} {b : Bool} (h : w.cell? ⟨g, k, none⟩ = some (.bool b)) : (Instr.loadAt 4 (.pointer (some ⟨g, k, none⟩))).run Try.prog w = .ok (.bool b) w := bool_load h
theorem ld_b {L : List (Nat × Array Value × TypeId)} {g k : Nat} {C : Array Value} {t : TypeId} {s : Bool} (hm : (g, C, t) ∈ L) (h : C[k]? = some (.bool s)) : ∀ w', Held w' L → (Instr.loadAt 4 (.pointer (some ⟨g, k, none⟩))).run Try.prog w' = .ok (.bool s) w' :=
  fun w' hw => bool_load ((cell_of_row w' g k _ _ _ (hw _ hm)).trans h)
theorem ld_r {L : List (Nat × Array Value × TypeId)} {g k : Nat} {C : Array Value} {t : TypeId} {x p : ByteArray} (hm : (g, C, t) ∈ L) (h0 : C[k]? = some (.string x)) (h1 : C[k + 1]? = some (.string p)) : ∀ w', Held w' L → (Instr.loadAt 60 (.pointer (some ⟨g, k, none⟩))).run Try.prog w' = .ok (.agg (aggT (x, p))) w' := by
  intro w' hw
  have hg := hw _ hm
  have e := run_loadAt_mid (P := Try.prog) w' g k 60 [.string x, .string p] _ (fun j v hv => by
    rw [cell_of_row w' g (k + j) _ _ _ hg]
    match j with
    | 0 => simpa [h0] using hv
    | 1 => simpa [h1] using hv
    | j + 2 => simp at hv) Try.underlying60 rfl Try.infoRC
  show (Instr.loadAt 60 (.pointer (some ⟨g, k, none⟩))).run Try.prog w' = .ok (.agg #[.string x, .string p]) w'
  simpa using e
theorem Try.infoSP : (Try.prog.info? 62).map (·.size) = some 5 := by kernel_rfl
theorem ld_sp {L : List (Nat × Array Value × TypeId)} {g : Nat} {C : Array Value} {t : TypeId} (hm : (g, C, t) ∈ L) (hs : Nat.beq C.size 5 = true) : ∀ w', Held w' L → (Instr.loadAt 62 (.pointer (some ⟨g, 0, none⟩))).run Try.prog w' = .ok (.agg C) w' :=
  fun w' hw => cells_load (hw _ hm) Try.underlying62 rfl (by rw [Nat.eq_of_beq_eq_true hs]; exact Try.infoSP)
theorem ld_pt {L : List (Nat × Array Value × TypeId)} {g : Nat} {C : Array Value} {t : TypeId} (hm : (g, C, t) ∈ L) (hs : Nat.beq C.size 3 = true) : ∀ w', Held w' L → (Instr.loadAt 26 (.pointer (some ⟨g, 0, none⟩))).run Try.prog w' = .ok (.agg C) w' :=
  fun w' hw => cells_load (hw _ hm) Try.underlying26 rfl (by rw [Nat.eq_of_beq_eq_true hs]; exact Try.infoPoint)
theorem zero_rc (w : World) : (zeroValue 60).run Try.prog w = .ok (.agg (aggT noP)) w := by kernel_rfl
theorem zero_sp (w : World) : (zeroValue 62).run Try.prog w = .ok (.agg (spC noT ⟨#[]⟩)) w := by kernel_rfl
theorem Try.partsSP : (structParts Try.prog 62).map (fun q => (q.1.cells.toList, q.2)) = some ([.bool false, .string ⟨#[]⟩, .string ⟨#[]⟩, .string ⟨#[]⟩, .string ⟨#[]⟩], [(0, 1), (1, 2), (3, 2)]) := by kernel_rfl
theorem built_s3 (z : Bool) (x y p : ByteArray) : Try.prog.built 62 [(0, .bool z), (1, .agg (aggT (x, p))), (2, .agg (aggT (y, p)))] = some (spC (z, x, y) p) := by
  cases hq : structParts Try.prog 62 with
  | none => have e := Try.partsSP; rw [hq] at e; cases e
  | some q =>
    obtain ⟨zz, pl⟩ := q
    have e := Try.partsSP
    rw [hq] at e
    simp only [Option.map_some, Option.some.injEq, Prod.mk.injEq] at e
    obtain ⟨e1, rfl⟩ := e
    rw [built_parts hq]
    have ez : zz.cells = #[] ++ #[.bool false] ++ #[.string ⟨#[]⟩, .string ⟨#[]⟩, .string ⟨#[]⟩, .string ⟨#[]⟩] := Array.ext' (by rw [e1]; rfl)
    rw [ez, fill_step (R := #[.bool z]) (off := 0) (n := 1) rfl rfl rfl rfl rfl]
    have e2 : (#[] ++ #[.bool z] ++ #[.string ⟨#[]⟩, .string ⟨#[]⟩, .string ⟨#[]⟩, .string ⟨#[]⟩] : Array Value) = #[.bool z] ++ #[.string ⟨#[]⟩, .string ⟨#[]⟩] ++ #[.string ⟨#[]⟩, .string ⟨#[]⟩] := rfl
    rw [e2, fill_step (R := aggT (x, p)) (off := 1) (n := 2) rfl rfl rfl rfl rfl]
    have e3 : (#[.bool z] ++ aggT (x, p) ++ #[.string ⟨#[]⟩, .string ⟨#[]⟩] : Array Value) = (#[.bool z] ++ aggT (x, p)) ++ #[.string ⟨#[]⟩, .string ⟨#[]⟩] ++ #[] := rfl
    rw [e3, fill_step (R := aggT (y, p)) (off := 3) (n := 2) rfl rfl rfl rfl rfl]
    rfl
theorem built_sp (x y p : ByteArray) : Try.prog.built 62 [(1, .agg (aggT (x, p))), (2, .agg (aggT (y, p)))] = some (spC (false, x, y) p) := by
  cases hq : structParts Try.prog 62 with
  | none => have e := Try.partsSP; rw [hq] at e; cases e
  | some q =>
    obtain ⟨zz, pl⟩ := q
    have e := Try.partsSP
    rw [hq] at e
    simp only [Option.map_some, Option.some.injEq, Prod.mk.injEq] at e
    obtain ⟨e1, rfl⟩ := e
    rw [built_parts hq]
    have e2 : zz.cells = #[.bool false] ++ #[.string ⟨#[]⟩, .string ⟨#[]⟩] ++ #[.string ⟨#[]⟩, .string ⟨#[]⟩] := Array.ext' (by rw [e1]; rfl)
    rw [e2, fill_step (R := aggT (x, p)) (off := 1) (n := 2) rfl rfl rfl rfl rfl]
    have e3 : (#[.bool false] ++ aggT (x, p) ++ #[.string ⟨#[]⟩, .string ⟨#[]⟩] : Array Value) = (#[.bool false] ++ aggT (x, p)) ++ #[.string ⟨#[]⟩, .string ⟨#[]⟩] ++ #[] := rfl
    rw [e3, fill_step (R := aggT (y, p)) (off := 3) (n := 2) rfl rfl rfl rfl rfl]
    rfl
theorem built_sz : Try.prog.built 62 [(0, .bool true)] = some (spC zeroT ⟨#[]⟩) := by
  cases hq : structParts Try.prog 62 with
  | none => have e := Try.partsSP; rw [hq] at e; cases e
  | some q =>
    obtain ⟨zz, pl⟩ := q
    have e := Try.partsSP
    rw [hq] at e
    simp only [Option.map_some, Option.some.injEq, Prod.mk.injEq] at e
    obtain ⟨e1, rfl⟩ := e
    rw [built_parts hq]
    have ez : zz.cells = #[] ++ #[.bool false] ++ #[.string ⟨#[]⟩, .string ⟨#[]⟩, .string ⟨#[]⟩, .string ⟨#[]⟩] := Array.ext' (by rw [e1]; rfl)
    rw [ez, fill_step (R := #[.bool true]) (off := 0) (n := 1) rfl rfl rfl rfl rfl]
    rfl
theorem g_alloc {P : Program} {ops : Array Oper} {Q : Exit → Act → World → Prop} {S : World → Prop} {K : Act → World → Prop} {i : Nat} {r : List (Bool × Nat)} {a : Act} {w : World} (d : Option Tmp) (t : TypeId) (Z : Array Value) (hd : (oAt ops i).dst = d) (hi : Nat.blt i ops.size = true) (hw : Region.wanted (oAt ops i) (yielded ops a.tmps) = true) (ho : (oAt ops i).op = .alloc t) (hz : (zeroValue t).run P w = .ok (.agg Z) w) (hS : S (w.alloc (.cells Z t)))
    (k : SQ P ops Q S K r (a.put d (.pointer (some ⟨w.heap.size, 0, none⟩))) (w.alloc (.cells Z t))) : SQ P ops Q S K ((false, i) :: r) a w := ⟨sq_alloc d t Z hd hi hw ho hz hS k.out⟩
theorem then_ret {K : Act → World → Prop} {Q : Exit → Act → World → Prop} {a : Act} {w : World} (h : Q .ret a w) : Exit.then K Q .ret a w := h
theorem block_ret {l : Nat} {Q : Exit → Act → World → Prop} {a : Act} {w : World} (h : Q .ret a w) : Exit.inBlock l Q .ret a w := h
set_option maxRecDepth 8000 in
set_option maxHeartbeats 4000000 in
theorem spot_slope (p x1 y1 x2 y2 : ByteArray) (w : World) : Calls Try.prog 54 #[.agg (spC (false, x1, y1) p), .agg (spC (false, x2, y2) p)] w fun e w' => e = .returned (.agg (aggT (slopeT p x1 y1 x2 y2, p))) ∧ Below w.heap.size w w' := by
  unfold slopeT
  by_cases h : x1 = x2 ∧ y1 = y2
  · rw [if_pos h]
    have hd : decide (((false, x1, y1) : Tp) = (false, x2, y2)) = true := by rw [h.1, h.2]; simp
    clear h
    have HG := Lib.hid (begun3 (Held.none w) (spC (false, x1, y1) p) (spC (false, x2, y2) p) #[.string ⟨#[]⟩, .string ⟨#[]⟩] 62 62 60)
    have hge : w.heap.size ≤ w.heap.size + 1 + 1 := by omega
    go_enter Try.func54, Try.ntmps54
    go_upto_region 1 with (fail)
    generalize ((w.alloc _).alloc _).alloc _ = w0 at *
    have HS := Lib.hid HG.out.h
    refine wp_region_line (S := fun w' => Held w' [(w.heap.size + 1, spC (false, x2, y2) p, 62), (w.heap.size, spC (false, x1, y1) p, 62)]) [(true, 0), (true, 1), (true, 2)] (by kernel_rfl) (by kernel_rfl) HS.out ?_
    refine sq_ld (some 6) (ld_sp (.tail _ (.head _)) (by kernel_rfl)) (by kernel_rfl) ?_
    refine sq_ld (some 7) (ld_sp (.head _) (by kernel_rfl)) (by kernel_rfl) ?_
    refine sq_take (some 8) (.bool true) (by kernel_rfl) (yields_eqS (by kernel_rfl) (.tmp 6) (.tmp 7) (by kernel_rfl) (false, x1, y1) (false, x2, y2) p true hd (by kernel_rfl) (by kernel_rfl)) ?_
    refine sq_fin { tmps := List.toArray (List.append [.agg (spC (false, x1, y1) p), .agg (spC (false, x2, y2) p), .pointer (some ⟨w.heap.size, 0, none⟩), .pointer (some ⟨(w.heap.size + 1), 0, none⟩), .pointer (some ⟨(w.heap.size + 1 + 1), 0, none⟩), undef, .agg (spC (false, x1, y1) p), .agg (spC (false, x2, y2) p), .bool true, undef, undef, undef, undef, undef, undef, undef, undef, undef, undef, undef, undef, undef, undef, undef, undef, undef, undef, undef, undef, undef, undef, undef, undef, undef, undef, undef, undef, undef, undef, undef] ([undef, undef, undef, undef, undef, undef, undef, undef])), defers := [] } (by kernel_rfl) ?_
    refine (by assumption : ∀ (a : Act) (w_1 : World), Code.wp _ _ _ a w_1 → _) _ _ ?_
    go_upto_region 2 with (fail)
    replace HS := Lib.hid HG.out.h
    refine wp_region_line (S := fun w' => Held w' [(w.heap.size + 1, spC (false, x2, y2) p, 62), (w.heap.size, spC (false, x1, y1) p, 62)]) [(true, 0), (true, 1), (true, 2), (true, 3), (true, 4), (false, 5), (false, 6), (false, 7)] (by kernel_rfl) (by kernel_rfl) HS.out ?_
    refine sq_ps [(0, .pointer (some ⟨w.heap.size, 1, none⟩))] (by kernel_rfl) ?_
    refine sq_ld (some 10) (ld_r (.tail _ (.head _)) (k := 1) rfl rfl) (by kernel_rfl) ?_
    refine sq_ps [(2, .iface 60 (.agg (aggT (x1, p)))), (3, .pointer (some ⟨w.heap.size, 1, none⟩))] (by kernel_rfl) ?_
    refine sq_ld (some 13) (ld_r (.tail _ (.head _)) (k := 1) rfl rfl) (by kernel_rfl) ?_
    refine sq_ci (some 14) (meets_times _ _) (rc_times (x1) (p) (x1) (p) _) (by kernel_rfl) ?_
    rintro e v1 ⟨rfl, bw⟩
    replace HG := Lib.hid (HG.out.on bw)
    have HS := Lib.hid (HG.out.h)
    clear bw
    refine ⟨_, rfl, HS.out, ?_⟩
    have GEg2 := Lib.hid HG.out.b.size
    have APg2 := Lib.hid HG.out.h.apart
    replace HG := Lib.hid (HG.out.new (aggT noP) 60)
    have HS := Lib.hid (HG.out.h.tail)
    refine sq_alloc (some 5) 60 (aggT noP) (by kernel_rfl) (by kernel_rfl) (by kernel_rfl) (by kernel_rfl) (zero_rc _) HS.out ?_
    generalize v1.alloc _ = u2 at *
    generalize v1.heap.size = g2 at *
    have HN := Lib.hid (HG.out.h _ (.head _))
    replace HG := Lib.hid (HG.out.putAt GEg2.out APg2.out (aggT (mulR (x1) (x1) p, p)))
    have HS := Lib.hid (HG.out.h.tail)
    refine sq_st 60 g2 (aggT (mulR (x1) (x1) p, p)) HN.out Try.infoRC rfl (by kernel_rfl) HS.out (by kernel_rfl) ?_
    clear HN
    generalize World.setRow _ g2 _ = t3 at *
    refine sq_fin { tmps := List.toArray (List.append [.agg (spC (false, x1, y1) p), .agg (spC (false, x2, y2) p), .pointer (some ⟨w.heap.size, 0, none⟩), .pointer (some ⟨(w.heap.size + 1), 0, none⟩), .pointer (some ⟨(w.heap.size + 1 + 1), 0, none⟩), .pointer (some ⟨g2, 0, none⟩), .agg (spC (false, x1, y1) p), .agg (spC (false, x2, y2) p), .bool true, .pointer (some ⟨w.heap.size, 1, none⟩), .agg (aggT (x1, p)), .iface 60 (.agg (aggT (x1, p))), .pointer (some ⟨w.heap.size, 1, none⟩), .agg (aggT (x1, p)), .agg (aggT (mulR (x1) (x1) p, p)), undef, undef, undef, undef, undef, undef, undef, undef, undef, undef, undef, undef, undef, undef, undef, undef, undef, undef, undef, undef, undef, undef, undef, undef, undef] ([undef, undef, undef, undef, undef, undef, undef, undef])), defers := [] } (by kernel_rfl) ?_
    refine (by assumption : ∀ (a : Act) (w_1 : World), Code.wp _ _ _ a w_1 → _) _ _ ?_
    go_upto_region 3 with (fail)
    replace HS := Lib.hid HG.out.h
    replace HG := Lib.hid HG.out.drew
    replace HS := Lib.hid HG.out.h
    refine sq_go (S := fun w' => Held w' [(g2, aggT (mulR (x1) (x1) p, p), 60), (w.heap.size + 1, spC (false, x2, y2) p, 62), (w.heap.size, spC (false, x1, y1) p, 62)]) [(true, 0), (true, 1), (true, 2), (true, 5), (true, 8), (true, 9), (true, 10), (true, 11), (true, 12), (false, 3), (true, 4), (false, 6), (true, 7), (false, 13), (true, 14), (false, 15), (false, 16), (false, 17)] (by kernel_rfl) (fun d _ _ _ _ h => by cases d <;> exact h) HS.out ?_
    refine sq_ld (some 15) (ld_r (.head _) (k := 0) rfl rfl) (by kernel_rfl) ?_
    refine sq_ps [(1, .iface 60 (.agg (aggT ((mulR (x1) (x1) p), (p)))))] (by kernel_rfl) ?_
    refine sq_ld (some 17) (ld_r (.head _) (k := 0) rfl rfl) (by kernel_rfl) ?_
    refine sq_ld (some 20) (ld_r (.head _) (k := 0) rfl rfl) (by kernel_rfl) ?_
    refine sq_ps [(8, .pointer (some ⟨w.heap.size, 3, none⟩))] (by kernel_rfl) ?_
    refine sq_ld (some 24) (ld_r (.tail _ (.tail _ (.head _))) (k := 3) rfl rfl) (by kernel_rfl) ?_
    refine sq_ps [(10, .iface 60 (.agg (aggT (y1, p)))), (11, .pointer (some ⟨w.heap.size, 3, none⟩))] (by kernel_rfl) ?_
    refine sq_ld (some 27) (ld_r (.tail _ (.tail _ (.head _))) (k := 3) rfl rfl) (by kernel_rfl) ?_
    refine sq_ci (some 18) (meets_plus _ _) (rc_plus ((mulR (x1) (x1) p)) ((p)) ((mulR (x1) (x1) p)) ((p)) _) (by kernel_rfl) ?_
    rintro e v4 ⟨rfl, bw⟩
    replace HG := Lib.hid (HG.out.on bw)
    have HS := Lib.hid (HG.out.h)
    clear bw
    refine ⟨_, rfl, HS.out, ?_⟩
    refine sq_ps [(4, .iface 60 (.agg (aggT (addR ((mulR (x1) (x1) p)) ((mulR (x1) (x1) p)) (p), (p)))))] (by kernel_rfl) ?_
    refine sq_ci (some 21) (meets_plus _ _) (rc_plus (addR ((mulR (x1) (x1) p)) ((mulR (x1) (x1) p)) (p)) ((p)) ((mulR (x1) (x1) p)) ((p)) _) (by kernel_rfl) ?_
    rintro e v5 ⟨rfl, bw⟩
    replace HG := Lib.hid (HG.out.on bw)
    have HS := Lib.hid (HG.out.h)
    clear bw
    refine ⟨_, rfl, HS.out, ?_⟩
    refine sq_ps [(7, .iface 60 (.agg (aggT (addR (addR ((mulR (x1) (x1) p)) ((mulR (x1) (x1) p)) (p)) ((mulR (x1) (x1) p)) (p), (p)))))] (by kernel_rfl) ?_
    refine sq_ci (some 28) (meets_plus _ _) (rc_plus (y1) (p) (y1) (p) _) (by kernel_rfl) ?_
    rintro e v6 ⟨rfl, bw⟩
    replace HG := Lib.hid (HG.out.on bw)
    have HS := Lib.hid (HG.out.h)
    clear bw
    refine ⟨_, rfl, HS.out, ?_⟩
    refine sq_ps [(14, .iface 60 (.agg (aggT (addR (y1) (y1) p, p))))] (by kernel_rfl) ?_
    refine sq_ci (some 30) (meets_inverse _) (rc_inverse (addR (y1) (y1) p) (p) _) (by kernel_rfl) ?_
    rintro e v7 ⟨rfl, bw⟩
    replace HG := Lib.hid (HG.out.on bw)
    have HS := Lib.hid (HG.out.h)
    clear bw
    refine ⟨_, rfl, HS.out, ?_⟩
    refine sq_ci (some 31) (meets_times _ _) (rc_times (addR (addR ((mulR (x1) (x1) p)) ((mulR (x1) (x1) p)) (p)) ((mulR (x1) (x1) p)) (p)) ((p)) (invR (addR (y1) (y1) p) p) (p) _) (by kernel_rfl) ?_
    rintro e v8 ⟨rfl, bw⟩
    replace HG := Lib.hid (HG.out.on bw)
    have HS := Lib.hid (HG.out.h)
    clear bw
    refine ⟨_, rfl, HS.out, ?_⟩
    have HE := Lib.hid (HG.out.put hge (aggT (mulR (addR (addR ((mulR (x1) (x1) p)) ((mulR (x1) (x1) p)) (p)) ((mulR (x1) (x1) p)) (p)) (invR (addR (y1) (y1) p) p) (p), (p))))
    refine sq_st 60 (w.heap.size + 1 + 1) (aggT (mulR (addR (addR ((mulR (x1) (x1) p)) ((mulR (x1) (x1) p)) (p)) ((mulR (x1) (x1) p)) (p)) (invR (addR (y1) (y1) p) p) (p), (p))) HG.out.out Try.infoRC rfl (by kernel_rfl) ((HG.out.h).setRow (HG.out.ne)) (by kernel_rfl) ?_
    refine sq_done ?_
    refine (by assumption : ∀ (a : Act) (w_1 : World), Code.wp _ Code.ret _ a w_1 → _) _ _ ?_
    refine wp_ret ?_
    try refine block_ret ?_
    try refine then_ret ?_
    exact bodyPost_ret (results_cell_row Try.results54 _ _ (w.heap.size + 1 + 1) _ _ _ _ (by kernel_rfl) HE.out.out Try.underlying60 rfl Try.infoRC) (by kernel_rfl) ⟨rfl, HE.out.b⟩
  · rw [if_neg h]
    have hd : decide (((false, x1, y1) : Tp) = (false, x2, y2)) = false := decide_eq_false (fun e => h (by simpa using e))
    clear h
    have HG := Lib.hid (begun3 (Held.none w) (spC (false, x1, y1) p) (spC (false, x2, y2) p) #[.string ⟨#[]⟩, .string ⟨#[]⟩] 62 62 60)
    have hge : w.heap.size ≤ w.heap.size + 1 + 1 := by omega
    go_enter Try.func54, Try.ntmps54
    go_upto_region 1 with (fail)
    generalize ((w.alloc _).alloc _).alloc _ = w0 at *
    have HS := Lib.hid HG.out.h
    refine wp_region_line (S := fun w' => Held w' [(w.heap.size + 1, spC (false, x2, y2) p, 62), (w.heap.size, spC (false, x1, y1) p, 62)]) [(true, 0), (true, 1), (true, 2)] (by kernel_rfl) (by kernel_rfl) HS.out ?_
    refine sq_ld (some 6) (ld_sp (.tail _ (.head _)) (by kernel_rfl)) (by kernel_rfl) ?_
    refine sq_ld (some 7) (ld_sp (.head _) (by kernel_rfl)) (by kernel_rfl) ?_
    refine sq_take (some 8) (.bool false) (by kernel_rfl) (yields_eqS (by kernel_rfl) (.tmp 6) (.tmp 7) (by kernel_rfl) (false, x1, y1) (false, x2, y2) p false hd (by kernel_rfl) (by kernel_rfl)) ?_
    refine sq_fin { tmps := List.toArray (List.append [.agg (spC (false, x1, y1) p), .agg (spC (false, x2, y2) p), .pointer (some ⟨w.heap.size, 0, none⟩), .pointer (some ⟨(w.heap.size + 1), 0, none⟩), .pointer (some ⟨(w.heap.size + 1 + 1), 0, none⟩), undef, .agg (spC (false, x1, y1) p), .agg (spC (false, x2, y2) p), .bool false, undef, undef, undef, undef, undef, undef, undef, undef, undef, undef, undef, undef, undef, undef, undef, undef, undef, undef, undef, undef, undef, undef, undef, undef, undef, undef, undef, undef, undef, undef, undef] ([undef, undef, undef, undef, undef, undef, undef, undef])), defers := [] } (by kernel_rfl) ?_
    refine (by assumption : ∀ (a : Act) (w_1 : World), Code.wp _ _ _ a w_1 → _) _ _ ?_
    go_upto_region 4 with (fail)
    replace HS := Lib.hid HG.out.h
    replace HG := Lib.hid HG.out.drew
    replace HS := Lib.hid HG.out.h
    refine sq_go (S := fun w' => Held w' [(w.heap.size + 1, spC (false, x2, y2) p, 62), (w.heap.size, spC (false, x1, y1) p, 62)]) [(true, 0), (true, 1), (true, 2), (true, 3), (true, 4), (true, 7), (true, 8), (true, 9), (true, 10), (true, 11), (false, 5), (true, 6), (false, 12), (true, 13), (false, 14), (false, 15), (false, 16)] (by kernel_rfl) (fun d _ _ _ _ h => by cases d <;> exact h) HS.out ?_
    refine sq_ps [(0, .pointer (some ⟨(w.heap.size + 1), 3, none⟩))] (by kernel_rfl) ?_
    refine sq_ld (some 33) (ld_r (.head _) (k := 3) rfl rfl) (by kernel_rfl) ?_
    refine sq_ps [(2, .iface 60 (.agg (aggT (y2, p)))), (3, .pointer (some ⟨w.heap.size, 3, none⟩))] (by kernel_rfl) ?_
    refine sq_ld (some 36) (ld_r (.tail _ (.head _)) (k := 3) rfl rfl) (by kernel_rfl) ?_
    refine sq_ps [(7, .pointer (some ⟨(w.heap.size + 1), 1, none⟩))] (by kernel_rfl) ?_
    refine sq_ld (some 40) (ld_r (.head _) (k := 1) rfl rfl) (by kernel_rfl) ?_
    refine sq_ps [(9, .iface 60 (.agg (aggT (x2, p)))), (10, .pointer (some ⟨w.heap.size, 1, none⟩))] (by kernel_rfl) ?_
    refine sq_ld (some 43) (ld_r (.tail _ (.head _)) (k := 1) rfl rfl) (by kernel_rfl) ?_
    refine sq_ci (some 37) (meets_less _ _) (rc_less (y2) (p) (y1) (p) _) (by kernel_rfl) ?_
    rintro e v1 ⟨rfl, bw⟩
    replace HG := Lib.hid (HG.out.on bw)
    have HS := Lib.hid (HG.out.h)
    clear bw
    refine ⟨_, rfl, HS.out, ?_⟩
    refine sq_ps [(6, .iface 60 (.agg (aggT (subR (y2) (y1) p, p))))] (by kernel_rfl) ?_
    refine sq_ci (some 44) (meets_less _ _) (rc_less (x2) (p) (x1) (p) _) (by kernel_rfl) ?_
    rintro e v2 ⟨rfl, bw⟩
    replace HG := Lib.hid (HG.out.on bw)
    have HS := Lib.hid (HG.out.h)
    clear bw
    refine ⟨_, rfl, HS.out, ?_⟩
    refine sq_ps [(13, .iface 60 (.agg (aggT (subR (x2) (x1) p, p))))] (by kernel_rfl) ?_
    refine sq_ci (some 46) (meets_inverse _) (rc_inverse (subR (x2) (x1) p) (p) _) (by kernel_rfl) ?_
    rintro e v3 ⟨rfl, bw⟩
    replace HG := Lib.hid (HG.out.on bw)
    have HS := Lib.hid (HG.out.h)
    clear bw
    refine ⟨_, rfl, HS.out, ?_⟩
    refine sq_ci (some 47) (meets_times _ _) (rc_times (subR (y2) (y1) p) (p) (invR (subR (x2) (x1) p) p) (p) _) (by kernel_rfl) ?_
    rintro e v4 ⟨rfl, bw⟩
    replace HG := Lib.hid (HG.out.on bw)
    have HS := Lib.hid (HG.out.h)
    clear bw
    refine ⟨_, rfl, HS.out, ?_⟩
    have HE := Lib.hid (HG.out.put hge (aggT (mulR (subR (y2) (y1) p) (invR (subR (x2) (x1) p) p) p, p)))
    refine sq_st 60 (w.heap.size + 1 + 1) (aggT (mulR (subR (y2) (y1) p) (invR (subR (x2) (x1) p) p) p, p)) HG.out.out Try.infoRC rfl (by kernel_rfl) ((HG.out.h).setRow (HG.out.ne)) (by kernel_rfl) ?_
    refine sq_done ?_
    refine (by assumption : ∀ (a : Act) (w_1 : World), Code.wp _ Code.ret _ a w_1 → _) _ _ ?_
    refine wp_ret ?_
    try refine block_ret ?_
    try refine then_ret ?_
    exact bodyPost_ret (results_cell_row Try.results54 _ _ (w.heap.size + 1 + 1) _ _ _ _ (by kernel_rfl) HE.out.out Try.underlying60 rfl Try.infoRC) (by kernel_rfl) ⟨rfl, HE.out.b⟩
def SumPost (t : Tp) (w : World) (e : Ending) (w' : World) : Prop := (∃ q, e = .returned (.agg (spC t q))) ∧ Below w.heap.size w w'
set_option maxRecDepth 8000 in
set_option maxHeartbeats 4000000 in
theorem spot_early (p : ByteArray) (a b : Tp) (h : (a.1 || b.1) = true) (w : World) : Calls Try.prog 36 #[.agg (spC a p), .agg (spC b p)] w (SumPost (plusT p a b) w) := by
  have HG := Lib.hid (begun3 (Held.none w) (spC a p) (spC b p) #[.bool false, .string ⟨#[]⟩, .string ⟨#[]⟩, .string ⟨#[]⟩, .string ⟨#[]⟩] 62 62 62)
  have hge : w.heap.size ≤ w.heap.size + 1 + 1 := by omega
  unfold plusT SumPost
  obtain ⟨z1, x1, y1⟩ := a
  obtain ⟨z2, x2, y2⟩ := b
  cases z1 with
  | true =>
    rw [if_pos rfl]
    have HE := Lib.hid (HG.out.put hge (spC (z2, x2, y2) p))
    go_enter Try.func36, Try.ntmps36
    go_upto_region 1 with (fail)
    generalize ((w.alloc _).alloc _).alloc _ = w0 at *
    have c0 := (cell_of_row w0 w.heap.size 0 _ _ _ (HG.out.h _ (.tail _ (.head _)))).trans (show _ = some (Value.bool true) from rfl)
    go_wp2_with (first | refine load_v rfl 62 (.tmp 3) rfl (w.heap.size + 1) (spC (z2, x2, y2) p) rfl (HG.out.h _ (.head _)) Try.underlying62 rfl Try.infoSP ?_ | refine store_v rfl 62 (.tmp 4) (.tmp 11) rfl (w.heap.size + 1 + 1) _ (spC (z2, x2, y2) p) rfl rfl HG.out.out Try.infoSP rfl (by kernel_rfl) ?_)
    exact bodyPost_ret (results_cell_row Try.results36 _ _ (w.heap.size + 1 + 1) _ _ _ _ rfl HE.out.out Try.underlying62 rfl Try.infoSP) rfl ⟨⟨p, rfl⟩, HE.out.b⟩
  | false =>
    cases z2 with
    | false => cases h
    | true =>
      rw [if_neg Bool.false_ne_true, if_pos rfl]
      have HE := Lib.hid (HG.out.put hge (spC (false, x1, y1) p))
      go_enter Try.func36, Try.ntmps36
      go_upto_region 1 with (fail)
      generalize ((w.alloc _).alloc _).alloc _ = w0 at *
      have c0 := (cell_of_row w0 w.heap.size 0 _ _ _ (HG.out.h _ (.tail _ (.head _)))).trans (show _ = some (Value.bool false) from rfl)
      have c1 := (cell_of_row w0 (w.heap.size + 1) 0 _ _ _ (HG.out.h _ (.head _))).trans (show _ = some (Value.bool true) from rfl)
      go_wp2_with (first | refine load_v rfl 62 (.tmp 2) rfl w.heap.size (spC (false, x1, y1) p) rfl (HG.out.h _ (.tail _ (.head _))) Try.underlying62 rfl Try.infoSP ?_ | refine store_v rfl 62 (.tmp 4) (.tmp 15) rfl (w.heap.size + 1 + 1) _ (spC (false, x1, y1) p) rfl rfl HG.out.out Try.infoSP rfl (by kernel_rfl) ?_)
      exact bodyPost_ret (results_cell_row Try.results36 _ _ (w.heap.size + 1 + 1) _ _ _ _ rfl HE.out.out Try.underlying62 rfl Try.infoSP) rfl ⟨⟨p, rfl⟩, HE.out.b⟩
set_option maxRecDepth 8000 in
set_option maxHeartbeats 4000000 in
theorem spot_late (p x1 y1 x2 y2 : ByteArray) (w : World) : Calls Try.prog 36 #[.agg (spC (false, x1, y1) p), .agg (spC (false, x2, y2) p)] w (SumPost (plusT p (false, x1, y1) (false, x2, y2)) w) := by
  unfold plusT SumPost
  rw [if_neg Bool.false_ne_true, if_neg Bool.false_ne_true]
  have HSl := Lib.hid (spot_slope p x1 y1 x2 y2)
  simp only
  generalize slopeT p x1 y1 x2 y2 = sl at *
  by_cases h : x1 = x2 ∧ y1 = negR y2 p
  · rw [if_pos h]
    have hd : decide (((x1, p) : Pt) = (x2, p)) = true := by rw [h.1]; simp
    have he : decide (((y1, p) : Pt) = (negR y2 p, p)) = true := by rw [← h.2]; simp
    clear h HSl
    have HG := Lib.hid (begun3 (Held.none w) (spC (false, x1, y1) p) (spC (false, x2, y2) p) #[.bool false, .string ⟨#[]⟩, .string ⟨#[]⟩, .string ⟨#[]⟩, .string ⟨#[]⟩] 62 62 62)
    have hge : w.heap.size ≤ w.heap.size + 1 + 1 := by omega
    go_enter Try.func36, Try.ntmps36
    go_upto_region 1 with (fail)
    generalize ((w.alloc _).alloc _).alloc _ = w0 at *
    have HS := Lib.hid HG.out.h
    have c0 := (cell_of_row w0 w.heap.size 0 _ _ _ (HG.out.h _ (.tail _ (.head _)))).trans (show _ = some (Value.bool false) from rfl)
    have c1 := (cell_of_row w0 (w.heap.size + 1) 0 _ _ _ (HG.out.h _ (.head _))).trans (show _ = some (Value.bool false) from rfl)
    go_upto_region 5 with (fail)
    clear c0 c1
    replace HG := Lib.hid HG.out.drew
    replace HS := Lib.hid HG.out.h
    refine sq_go (S := fun w' => Held w' [(w.heap.size + 1, spC (false, x2, y2) p, 62), (w.heap.size, spC (false, x1, y1) p, 62)]) [(true, 0), (true, 1), (true, 2), (true, 3), (true, 4), (true, 5), (true, 6), (true, 7), (true, 8), (true, 9), (true, 10), (false, 11), (true, 12), (true, 13), (true, 14)] (by kernel_rfl) (fun d _ _ _ _ h => by cases d <;> exact h) HS.out ?_
    refine SQ.out ?_
    refine g_ps [(0, .pointer (some ⟨w.heap.size, 1, none⟩))] (by kernel_rfl) ?_
    refine g_ld (some 18) (ld_r (.tail _ (.head _)) (k := 1) rfl rfl) (by kernel_rfl) ?_
    refine g_ps [(2, .pointer (some ⟨(w.heap.size + 1), 1, none⟩))] (by kernel_rfl) ?_
    refine g_ld (some 20) (ld_r (.head _) (k := 1) rfl rfl) (by kernel_rfl) ?_
    refine g_take (some 21) (.bool true) (by kernel_rfl) (yields_eqR (by kernel_rfl) (.tmp 18) (.tmp 20) (by kernel_rfl) (x1, p) (x2, p) true hd (by kernel_rfl) (by kernel_rfl)) ?_
    refine g_ps [(5, .bool true), (6, .pointer (some ⟨w.heap.size, 3, none⟩))] (by kernel_rfl) ?_
    refine g_ld (some 24) (ld_r (.tail _ (.head _)) (k := 3) rfl rfl) (by kernel_rfl) ?_
    refine g_ps [(8, .pointer (some ⟨(w.heap.size + 1), 3, none⟩))] (by kernel_rfl) ?_
    refine g_ld (some 26) (ld_r (.head _) (k := 3) rfl rfl) (by kernel_rfl) ?_
    refine g_ps [(10, .iface 60 (.agg (aggT (y2, p))))] (by kernel_rfl) ?_
    refine g_ci (some 28) (meets_negative _) (rc_negative (y2) (p) _) (by kernel_rfl) ?_
    rintro e v1 ⟨rfl, bw⟩
    replace HG := Lib.hid (HG.out.on bw)
    have HS := Lib.hid (HG.out.h)
    clear bw
    refine ⟨_, rfl, HS.out, ?_⟩
    refine g_take (some 29) (.bool true) (by kernel_rfl) (yields_eqR (wanted_by (g := 5) (b := true) (d := 22) (by kernel_rfl) (by kernel_rfl) (by kernel_rfl) (by kernel_rfl)) (.tmp 24) (.tmp 28) (by kernel_rfl) (y1, p) (negR y2 p, p) true he (by kernel_rfl) (by kernel_rfl)) ?_
    refine g_ps [(13, .bool true), (14, .bool true)] (by kernel_rfl) ?_
    refine g_norm { tmps := List.toArray (List.append [.agg (spC (false, x1, y1) p), .agg (spC (false, x2, y2) p), .pointer (some ⟨w.heap.size, 0, none⟩), .pointer (some ⟨(w.heap.size + 1), 0, none⟩), .pointer (some ⟨(w.heap.size + 1 + 1), 0, none⟩), undef, undef, undef, .bool false, .pointer (some ⟨w.heap.size, 0, none⟩), .bool false, undef, .bool false, .pointer (some ⟨(w.heap.size + 1), 0, none⟩), .bool false, undef, .bool true, .pointer (some ⟨w.heap.size, 1, none⟩), .agg (aggT (x1, p)), .pointer (some ⟨(w.heap.size + 1), 1, none⟩), .agg (aggT (x2, p)), .bool true, .bool true, .pointer (some ⟨w.heap.size, 3, none⟩), .agg (aggT (y1, p)), .pointer (some ⟨(w.heap.size + 1), 3, none⟩), .agg (aggT (y2, p)), .iface 60 (.agg (aggT (y2, p))), .agg (aggT (negR (y2) p, p)), .bool true, .bool true, undef, undef, undef, undef, undef, undef, undef, undef, undef] ([undef, undef, undef, undef, undef, undef, undef, undef, undef, undef, undef, undef, undef, undef, undef, undef, undef, undef, undef, undef, undef, undef])), defers := [] } (by kernel_rfl) ?_
    refine g_done ?_
    refine (by assumption : ∀ (a : Act) (w_1 : World), Code.wp _ _ _ a w_1 → _) _ _ ?_
    go_upto_region 6 with (fail)
    replace HS := Lib.hid HG.out.h
    refine wp_region_line (S := fun w' => Held w' [(w.heap.size + 1, spC (false, x2, y2) p, 62), (w.heap.size, spC (false, x1, y1) p, 62)]) [(true, 0), (false, 1)] (by kernel_rfl) (by kernel_rfl) HS.out ?_
    refine sq_pure (some 31) (.agg (spC zeroT ⟨#[]⟩)) (by kernel_rfl) (by kernel_rfl) (held_build 62 #[(0, (.const (.bool true)))] (by kernel_rfl) _ (by kernel_rfl) _ built_sz) ?_
    have HE := Lib.hid (HG.out.put hge (spC zeroT ⟨#[]⟩))
    refine sq_st 62 (w.heap.size + 1 + 1) (spC zeroT ⟨#[]⟩) HG.out.out Try.infoSP rfl (by kernel_rfl) ((HG.out.h).setRow (HG.out.ne)) (by kernel_rfl) ?_
    refine sq_done ?_
    refine (by assumption : ∀ (a : Act) (w_1 : World), Code.wp _ Code.ret _ a w_1 → _) _ _ ?_
    refine wp_ret ?_
    try refine block_ret ?_
    try refine then_ret ?_
    exact bodyPost_ret (results_cell_row Try.results36 _ _ (w.heap.size + 1 + 1) _ _ _ _ (by kernel_rfl) HE.out.out Try.underlying62 rfl Try.infoSP) (by kernel_rfl) ⟨⟨_, rfl⟩, HE.out.b⟩
  · rw [if_neg h]
    have HG := Lib.hid (begun3 (Held.none w) (spC (false, x1, y1) p) (spC (false, x2, y2) p) #[.bool false, .string ⟨#[]⟩, .string ⟨#[]⟩, .string ⟨#[]⟩, .string ⟨#[]⟩] 62 62 62)
    have hge : w.heap.size ≤ w.heap.size + 1 + 1 := by omega
    go_enter Try.func36, Try.ntmps36
    go_upto_region 1 with (fail)
    generalize ((w.alloc _).alloc _).alloc _ = w0 at *
    have HS := Lib.hid HG.out.h
    have c0 := (cell_of_row w0 w.heap.size 0 _ _ _ (HG.out.h _ (.tail _ (.head _)))).trans (show _ = some (Value.bool false) from rfl)
    have c1 := (cell_of_row w0 (w.heap.size + 1) 0 _ _ _ (HG.out.h _ (.head _))).trans (show _ = some (Value.bool false) from rfl)
    go_upto_region 5 with (fail)
    clear c0 c1
    refine Code.wp_mono (Q := fun e a' w' => e = .normal ∧ ∃ (j21 j22 j23 j24 j25 j26 j27 j28 j29 : Value), a' = { tmps := List.toArray (List.append [.agg (spC (false, x1, y1) p), .agg (spC (false, x2, y2) p), .pointer (some ⟨w.heap.size, 0, none⟩), .pointer (some ⟨(w.heap.size + 1), 0, none⟩), .pointer (some ⟨(w.heap.size + 1 + 1), 0, none⟩), undef, undef, undef, .bool false, .pointer (some ⟨w.heap.size, 0, none⟩), .bool false, undef, .bool false, .pointer (some ⟨(w.heap.size + 1), 0, none⟩), .bool false, undef, .bool false, .pointer (some ⟨w.heap.size, 1, none⟩), .agg (aggT (x1, p)), .pointer (some ⟨(w.heap.size + 1), 1, none⟩), .agg (aggT (x2, p)), j21, j22, j23, j24, j25, j26, j27, j28, j29, .bool false, undef, undef, undef, undef, undef, undef, undef, undef, undef] ([undef, undef, undef, undef, undef, undef, undef, undef, undef, undef, undef, undef, undef, undef, undef, undef, undef, undef, undef, undef, undef, undef])), defers := [] } ∧ Begun w w' [(w.heap.size + 1, spC (false, x2, y2) p, 62), (w.heap.size, spC (false, x1, y1) p, 62)] (w.heap.size + 1 + 1) #[.bool false, .string ⟨#[]⟩, .string ⟨#[]⟩, .string ⟨#[]⟩, .string ⟨#[]⟩] 62) ?_ ?_
    rotate_left
    · by_cases h1 : x1 = x2
      · have hd : decide (((x1, p) : Pt) = (x2, p)) = true := by rw [h1]; simp
        have he : decide (((y1, p) : Pt) = (negR y2 p, p)) = false := decide_eq_false (fun e => h ⟨h1, by simpa using e⟩)
        clear h h1
        replace HG := Lib.hid HG.out.drew
        replace HS := Lib.hid HG.out.h
        refine sq_go (S := fun w' => Held w' [(w.heap.size + 1, spC (false, x2, y2) p, 62), (w.heap.size, spC (false, x1, y1) p, 62)]) [(true, 0), (true, 1), (true, 2), (true, 3), (true, 4), (true, 5), (true, 6), (true, 7), (true, 8), (true, 9), (true, 10), (false, 11), (true, 12), (true, 13), (true, 14)] (by kernel_rfl) (fun _ _ _ _ _ h => by cases h.1) HS.out ?_
        refine SQ.out ?_
        refine g_ps [(0, .pointer (some ⟨w.heap.size, 1, none⟩))] (by kernel_rfl) ?_
        refine g_ld (some 18) (ld_r (.tail _ (.head _)) (k := 1) rfl rfl) (by kernel_rfl) ?_
        refine g_ps [(2, .pointer (some ⟨(w.heap.size + 1), 1, none⟩))] (by kernel_rfl) ?_
        refine g_ld (some 20) (ld_r (.head _) (k := 1) rfl rfl) (by kernel_rfl) ?_
        refine g_take (some 21) (.bool true) (by kernel_rfl) (yields_eqR (by kernel_rfl) (.tmp 18) (.tmp 20) (by kernel_rfl) (x1, p) (x2, p) true hd (by kernel_rfl) (by kernel_rfl)) ?_
        refine g_ps [(5, .bool true), (6, .pointer (some ⟨w.heap.size, 3, none⟩))] (by kernel_rfl) ?_
        refine g_ld (some 24) (ld_r (.tail _ (.head _)) (k := 3) rfl rfl) (by kernel_rfl) ?_
        refine g_ps [(8, .pointer (some ⟨(w.heap.size + 1), 3, none⟩))] (by kernel_rfl) ?_
        refine g_ld (some 26) (ld_r (.head _) (k := 3) rfl rfl) (by kernel_rfl) ?_
        refine g_ps [(10, .iface 60 (.agg (aggT (y2, p))))] (by kernel_rfl) ?_
        refine g_ci (some 28) (meets_negative _) (rc_negative (y2) (p) _) (by kernel_rfl) ?_
        rintro e v1 ⟨rfl, bw⟩
        replace HG := Lib.hid (HG.out.on bw)
        have HS := Lib.hid (HG.out.h)
        clear bw
        refine ⟨_, rfl, HS.out, ?_⟩
        refine g_take (some 29) (.bool false) (by kernel_rfl) (yields_eqR (wanted_by (g := 5) (b := true) (d := 22) (by kernel_rfl) (by kernel_rfl) (by kernel_rfl) (by kernel_rfl)) (.tmp 24) (.tmp 28) (by kernel_rfl) (y1, p) (negR y2 p, p) false he (by kernel_rfl) (by kernel_rfl)) ?_
        refine g_ps [(13, .bool false), (14, .bool false)] (by kernel_rfl) ?_
        refine g_norm { tmps := List.toArray (List.append [.agg (spC (false, x1, y1) p), .agg (spC (false, x2, y2) p), .pointer (some ⟨w.heap.size, 0, none⟩), .pointer (some ⟨(w.heap.size + 1), 0, none⟩), .pointer (some ⟨(w.heap.size + 1 + 1), 0, none⟩), undef, undef, undef, .bool false, .pointer (some ⟨w.heap.size, 0, none⟩), .bool false, undef, .bool false, .pointer (some ⟨(w.heap.size + 1), 0, none⟩), .bool false, undef, .bool false, .pointer (some ⟨w.heap.size, 1, none⟩), .agg (aggT (x1, p)), .pointer (some ⟨(w.heap.size + 1), 1, none⟩), .agg (aggT (x2, p)), .bool true, .bool true, .pointer (some ⟨w.heap.size, 3, none⟩), .agg (aggT (y1, p)), .pointer (some ⟨(w.heap.size + 1), 3, none⟩), .agg (aggT (y2, p)), .iface 60 (.agg (aggT (y2, p))), .agg (aggT (negR (y2) p, p)), .bool false, .bool false, undef, undef, undef, undef, undef, undef, undef, undef, undef] ([undef, undef, undef, undef, undef, undef, undef, undef, undef, undef, undef, undef, undef, undef, undef, undef, undef, undef, undef, undef, undef, undef])), defers := [] } (by kernel_rfl) ?_
        refine g_done ?_
        exact ⟨rfl, .bool true, .bool true, .pointer (some ⟨w.heap.size, 3, none⟩), .agg (aggT (y1, p)), .pointer (some ⟨(w.heap.size + 1), 3, none⟩), .agg (aggT (y2, p)), .iface 60 (.agg (aggT (y2, p))), .agg (aggT (negR (y2) p, p)), .bool false, rfl, HG.out⟩
      · have hd : decide (((x1, p) : Pt) = (x2, p)) = false := decide_eq_false (fun e => h1 (by simpa using e))
        clear h h1
        replace HG := Lib.hid HG.out.drew
        replace HS := Lib.hid HG.out.h
        refine sq_go (S := fun w' => Held w' [(w.heap.size + 1, spC (false, x2, y2) p, 62), (w.heap.size, spC (false, x1, y1) p, 62)]) [(true, 0), (true, 1), (true, 2), (true, 3), (true, 4), (true, 5), (true, 6), (true, 7), (true, 8), (true, 9), (true, 10), (true, 11), (true, 12), (true, 13), (true, 14)] (by kernel_rfl) (fun _ _ _ _ _ h => by cases h.1) HS.out ?_
        refine SQ.out ?_
        refine g_ps [(0, .pointer (some ⟨w.heap.size, 1, none⟩))] (by kernel_rfl) ?_
        refine g_ld (some 18) (ld_r (.tail _ (.head _)) (k := 1) rfl rfl) (by kernel_rfl) ?_
        refine g_ps [(2, .pointer (some ⟨(w.heap.size + 1), 1, none⟩))] (by kernel_rfl) ?_
        refine g_ld (some 20) (ld_r (.head _) (k := 1) rfl rfl) (by kernel_rfl) ?_
        refine g_take (some 21) (.bool false) (by kernel_rfl) (yields_eqR (by kernel_rfl) (.tmp 18) (.tmp 20) (by kernel_rfl) (x1, p) (x2, p) false hd (by kernel_rfl) (by kernel_rfl)) ?_
        refine g_ps [(5, .bool false)] (by kernel_rfl) ?_
        refine g_no [6, 7, 8, 9, 10, 11, 12] (by kernel_rfl) ?_
        refine g_ps [(13, .bool false), (14, .bool false)] (by kernel_rfl) ?_
        refine g_norm { tmps := List.toArray (List.append [.agg (spC (false, x1, y1) p), .agg (spC (false, x2, y2) p), .pointer (some ⟨w.heap.size, 0, none⟩), .pointer (some ⟨(w.heap.size + 1), 0, none⟩), .pointer (some ⟨(w.heap.size + 1 + 1), 0, none⟩), undef, undef, undef, .bool false, .pointer (some ⟨w.heap.size, 0, none⟩), .bool false, undef, .bool false, .pointer (some ⟨(w.heap.size + 1), 0, none⟩), .bool false, undef, .bool false, .pointer (some ⟨w.heap.size, 1, none⟩), .agg (aggT (x1, p)), .pointer (some ⟨(w.heap.size + 1), 1, none⟩), .agg (aggT (x2, p)), .bool false, .bool false, undef, undef, undef, undef, undef, undef, undef, .bool false, undef, undef, undef, undef, undef, undef, undef, undef, undef] ([undef, undef, undef, undef, undef, undef, undef, undef, undef, undef, undef, undef, undef, undef, undef, undef, undef, undef, undef, undef, undef, undef])), defers := [] } (by kernel_rfl) ?_
        refine g_done ?_
        exact ⟨rfl, .bool false, .bool false, undef, undef, undef, undef, undef, undef, undef, rfl, HG.out⟩
    rintro e a w1 ⟨rfl, j21, j22, j23, j24, j25, j26, j27, j28, j29, rfl, hG⟩
    replace HG := Lib.hid hG
    clear hG h
    refine (by assumption : ∀ (a : Act) (w_1 : World), Code.wp _ _ _ a w_1 → _) _ _ ?_
    go_upto_region 7 with (fail)
    replace HS := Lib.hid HG.out.h
    refine wp_region_line (S := fun w' => Held w' [(w.heap.size + 1, spC (false, x2, y2) p, 62), (w.heap.size, spC (false, x1, y1) p, 62)]) [(true, 0), (true, 1), (false, 2), (false, 3), (false, 4)] (by kernel_rfl) (by kernel_rfl) HS.out ?_
    refine sq_ld (some 32) (ld_sp (.tail _ (.head _)) (by kernel_rfl)) (by kernel_rfl) ?_
    refine sq_ld (some 33) (ld_sp (.head _) (by kernel_rfl)) (by kernel_rfl) ?_
    refine sq_c (some 34) Try.func54 (HSl.out _) (by kernel_rfl) ?_
    rintro e v1 ⟨rfl, bw⟩
    replace HG := Lib.hid (HG.out.on bw)
    have HS := Lib.hid (HG.out.h)
    clear bw
    refine ⟨_, rfl, HS.out, ?_⟩
    have GEg2 := Lib.hid HG.out.b.size
    have APg2 := Lib.hid HG.out.h.apart
    replace HG := Lib.hid (HG.out.new (aggT noP) 60)
    have HS := Lib.hid (HG.out.h.tail)
    refine sq_alloc (some 5) 60 (aggT noP) (by kernel_rfl) (by kernel_rfl) (by kernel_rfl) (by kernel_rfl) (zero_rc _) HS.out ?_
    generalize v1.alloc _ = u2 at *
    generalize v1.heap.size = g2 at *
    have HN := Lib.hid (HG.out.h _ (.head _))
    replace HG := Lib.hid (HG.out.putAt GEg2.out APg2.out (aggT (sl, p)))
    have HS := Lib.hid (HG.out.h.tail)
    refine sq_st 60 g2 (aggT (sl, p)) HN.out Try.infoRC rfl (by kernel_rfl) HS.out (by kernel_rfl) ?_
    clear HN
    generalize World.setRow _ g2 _ = t3 at *
    refine sq_fin { tmps := List.toArray (List.append [.agg (spC (false, x1, y1) p), .agg (spC (false, x2, y2) p), .pointer (some ⟨w.heap.size, 0, none⟩), .pointer (some ⟨(w.heap.size + 1), 0, none⟩), .pointer (some ⟨(w.heap.size + 1 + 1), 0, none⟩), .pointer (some ⟨g2, 0, none⟩), undef, undef, .bool false, .pointer (some ⟨w.heap.size, 0, none⟩), .bool false, undef, .bool false, .pointer (some ⟨(w.heap.size + 1), 0, none⟩), .bool false, undef, .bool false, .pointer (some ⟨w.heap.size, 1, none⟩), .agg (aggT (x1, p)), .pointer (some ⟨(w.heap.size + 1), 1, none⟩), .agg (aggT (x2, p)), j21, j22, j23, j24, j25, j26, j27, j28, j29, .bool false, undef, .agg (spC (false, x1, y1) p), .agg (spC (false, x2, y2) p), .agg (aggT (sl, p)), undef, undef, undef, undef, undef] ([undef, undef, undef, undef, undef, undef, undef, undef, undef, undef, undef, undef, undef, undef, undef, undef, undef, undef, undef, undef, undef, undef])), defers := [] } (by kernel_rfl) ?_
    refine (by assumption : ∀ (a : Act) (w_1 : World), Code.wp _ _ _ a w_1 → _) _ _ ?_
    go_upto_region 8 with (fail)
    replace HS := Lib.hid HG.out.h
    refine Code.wp_mono (Q := fun e a' w' => e = .normal ∧ ∃ (g4 : Nat), a' = { tmps := List.toArray (List.append [.agg (spC (false, x1, y1) p), .agg (spC (false, x2, y2) p), .pointer (some ⟨w.heap.size, 0, none⟩), .pointer (some ⟨(w.heap.size + 1), 0, none⟩), .pointer (some ⟨(w.heap.size + 1 + 1), 0, none⟩), .pointer (some ⟨g2, 0, none⟩), .pointer (some ⟨g4, 0, none⟩), undef, .bool false, .pointer (some ⟨w.heap.size, 0, none⟩), .bool false, undef, .bool false, .pointer (some ⟨(w.heap.size + 1), 0, none⟩), .bool false, undef, .bool false, .pointer (some ⟨w.heap.size, 1, none⟩), .agg (aggT (x1, p)), .pointer (some ⟨(w.heap.size + 1), 1, none⟩), .agg (aggT (x2, p)), j21, j22, j23, j24, j25, j26, j27, j28, j29, .bool false, undef, .agg (spC (false, x1, y1) p), .agg (spC (false, x2, y2) p), .agg (aggT (sl, p)), .agg (aggT ((sl), (p))), .iface 60 (.agg (aggT ((sl), (p)))), .agg (aggT ((sl), (p))), .agg (aggT (mulR ((sl)) ((sl)) (p), (p))), .iface 60 (.agg (aggT (mulR ((sl)) ((sl)) (p), (p))))] ([.pointer (some ⟨w.heap.size, 1, none⟩), .agg (aggT (x1, p)), .agg (aggT (subR (mulR ((sl)) ((sl)) (p)) (x1) (p), (p))), .iface 60 (.agg (aggT (subR (mulR ((sl)) ((sl)) (p)) (x1) (p), (p)))), .pointer (some ⟨(w.heap.size + 1), 1, none⟩), .agg (aggT (x2, p)), .agg (aggT (subR (subR (mulR ((sl)) ((sl)) (p)) (x1) (p)) (x2) (p), (p))), undef, undef, undef, undef, undef, undef, undef, undef, undef, undef, undef, undef, undef, undef, undef])), defers := [] } ∧ Begun w w' [(g4, aggT (subR (subR (mulR ((sl)) ((sl)) (p)) (x1) (p)) (x2) (p), (p)), 60), (g2, aggT (sl, p), 60), (w.heap.size + 1, spC (false, x2, y2) p, 62), (w.heap.size, spC (false, x1, y1) p, 62)] (w.heap.size + 1 + 1) #[.bool false, .string ⟨#[]⟩, .string ⟨#[]⟩, .string ⟨#[]⟩, .string ⟨#[]⟩] 62) ?_ ?_
    rotate_left
    · refine m_begin (S := fun w' => Held w' [(g2, aggT (sl, p), 60), (w.heap.size + 1, spC (false, x2, y2) p, 62), (w.heap.size, spC (false, x1, y1) p, 62)]) (by kernel_rfl) 14 (by kernel_rfl) ?_
      replace HG := Lib.hid HG.out.drew
      change wpM _ _ _ _ _ _ _ _ (World.drew _)
      generalize World.drew t3 = v400 at *
      have HS := Lib.hid HG.out.h
      refine m_seq (f := 7) (infoS _) [(true, 0), (true, 1), (true, 2), (true, 5), (true, 6), (true, 9), (true, 10)] 1639 (tells_infoS _ _) (by kernel_rfl) (fun _ _ _ _ _ h => by cases h.1) (by kernel_rfl) (by kernel_rfl) (by kernel_rfl) HS.out ?_
      refine sq_ld (some 35) (ld_r (.head _) (k := 0) rfl rfl) (by kernel_rfl) ?_
      refine sq_ps [(1, .iface 60 (.agg (aggT ((sl), (p)))))] (by kernel_rfl) ?_
      refine sq_ld (some 37) (ld_r (.head _) (k := 0) rfl rfl) (by kernel_rfl) ?_
      refine sq_ps [(5, .pointer (some ⟨w.heap.size, 1, none⟩))] (by kernel_rfl) ?_
      refine sq_ld (some 41) (ld_r (.tail _ (.tail _ (.head _))) (k := 1) rfl rfl) (by kernel_rfl) ?_
      refine sq_ps [(9, .pointer (some ⟨(w.heap.size + 1), 1, none⟩))] (by kernel_rfl) ?_
      refine sq_ld (some 45) (ld_r (.tail _ (.head _)) (k := 1) rfl rfl) (by kernel_rfl) ?_
      refine sq_done ?_
      refine m_mask (M' := 1639) (by kernel_rfl) ?_
      refine m_ways (f := 6) (infoS _) [3, 12] (tells_infoS _ _) (by kernel_rfl) (by kernel_rfl) (by kernel_rfl) ?_
      intro i hi
      rcases (by simpa using hi : i = 3 ∨ i = 12) with rfl | rfl
      · refine sq_ci (some 38) (meets_times _ _) (rc_times ((sl)) ((p)) ((sl)) ((p)) _) (by kernel_rfl) ?_
        rintro e v401 ⟨rfl, bw⟩
        replace HG := Lib.hid (HG.out.on bw)
        have HS := Lib.hid (HG.out.h)
        clear bw
        refine ⟨_, rfl, HS.out, ?_⟩
        refine sq_done ?_
        refine m_mask (M' := 1647) (by kernel_rfl) ?_
        refine m_seq (f := 5) (infoS _) [(true, 4)] 1663 (tells_infoS _ _) (by kernel_rfl) (fun _ _ _ _ _ h => by cases h.1) (by kernel_rfl) (by kernel_rfl) (by kernel_rfl) HS.out ?_
        refine sq_ps [(4, .iface 60 (.agg (aggT (mulR ((sl)) ((sl)) (p), (p)))))] (by kernel_rfl) ?_
        refine sq_done ?_
        refine m_mask (M' := 1663) (by kernel_rfl) ?_
        refine m_ways (f := 4) (infoS _) [7, 12] (tells_infoS _ _) (by kernel_rfl) (by kernel_rfl) (by kernel_rfl) ?_
        intro i hi
        rcases (by simpa using hi : i = 7 ∨ i = 12) with rfl | rfl
        · refine sq_ci (some 42) (meets_less _ _) (rc_less (mulR ((sl)) ((sl)) (p)) ((p)) (x1) (p) _) (by kernel_rfl) ?_
          rintro e v402 ⟨rfl, bw⟩
          replace HG := Lib.hid (HG.out.on bw)
          have HS := Lib.hid (HG.out.h)
          clear bw
          refine ⟨_, rfl, HS.out, ?_⟩
          refine sq_done ?_
          refine m_mask (M' := 1791) (by kernel_rfl) ?_
          refine m_seq (f := 3) (infoS _) [(true, 8)] 2047 (tells_infoS _ _) (by kernel_rfl) (fun _ _ _ _ _ h => by cases h.1) (by kernel_rfl) (by kernel_rfl) (by kernel_rfl) HS.out ?_
          refine sq_ps [(8, .iface 60 (.agg (aggT (subR (mulR ((sl)) ((sl)) (p)) (x1) (p), (p)))))] (by kernel_rfl) ?_
          refine sq_done ?_
          refine m_mask (M' := 2047) (by kernel_rfl) ?_
          refine m_ways (f := 2) (infoS _) [11, 12] (tells_infoS _ _) (by kernel_rfl) (by kernel_rfl) (by kernel_rfl) ?_
          intro i hi
          rcases (by simpa using hi : i = 11 ∨ i = 12) with rfl | rfl
          · refine sq_ci (some 46) (meets_less _ _) (rc_less (subR (mulR ((sl)) ((sl)) (p)) (x1) (p)) ((p)) (x2) (p) _) (by kernel_rfl) ?_
            rintro e v403 ⟨rfl, bw⟩
            replace HG := Lib.hid (HG.out.on bw)
            have HS := Lib.hid (HG.out.h)
            clear bw
            refine ⟨_, rfl, HS.out, ?_⟩
            refine sq_done ?_
            refine m_mask (M' := 4095) (by kernel_rfl) ?_
            refine m_seq (f := 1) (infoS _) [(false, 12)] 8191 (tells_infoS _ _) (by kernel_rfl) (fun _ _ _ _ _ h => by cases h.1) (by kernel_rfl) (by kernel_rfl) (by kernel_rfl) HS.out ?_
            have GEg4 := Lib.hid HG.out.b.size
            have APg4 := Lib.hid HG.out.h.apart
            replace HG := Lib.hid (HG.out.new (aggT noP) 60)
            have HS := Lib.hid (HG.out.h.tail)
            refine sq_alloc (some 6) 60 (aggT noP) (by kernel_rfl) (by kernel_rfl) (by kernel_rfl) (by kernel_rfl) (zero_rc _) HS.out ?_
            generalize v403.alloc _ = u404 at *
            generalize v403.heap.size = g4 at *
            refine sq_done ?_
            refine m_mask (M' := 8191) (by kernel_rfl) ?_
            refine m_seq (f := 0) (infoS _) [(false, 13)] 16383 (tells_infoS _ _) (by kernel_rfl) (fun _ _ _ _ _ h => by cases h.1) (by kernel_rfl) (by kernel_rfl) (by kernel_rfl) HS.out ?_
            have HN := Lib.hid (HG.out.h _ (.head _))
            replace HG := Lib.hid (HG.out.putAt GEg4.out APg4.out (aggT (subR (subR (mulR ((sl)) ((sl)) (p)) (x1) (p)) (x2) (p), (p))))
            have HS := Lib.hid (HG.out.h.tail)
            refine sq_st 60 g4 (aggT (subR (subR (mulR ((sl)) ((sl)) (p)) (x1) (p)) (x2) (p), (p))) HN.out Try.infoRC rfl (by kernel_rfl) HS.out (by kernel_rfl) ?_
            clear HN
            generalize World.setRow _ g4 _ = t405 at *
            refine sq_done ?_
            refine m_mask (M' := 16383) (by kernel_rfl) ?_
            refine m_done (infoS _) (tells_infoS _ _) (by kernel_rfl) { tmps := List.toArray (List.append [.agg (spC (false, x1, y1) p), .agg (spC (false, x2, y2) p), .pointer (some ⟨w.heap.size, 0, none⟩), .pointer (some ⟨(w.heap.size + 1), 0, none⟩), .pointer (some ⟨(w.heap.size + 1 + 1), 0, none⟩), .pointer (some ⟨g2, 0, none⟩), .pointer (some ⟨g4, 0, none⟩), undef, .bool false, .pointer (some ⟨w.heap.size, 0, none⟩), .bool false, undef, .bool false, .pointer (some ⟨(w.heap.size + 1), 0, none⟩), .bool false, undef, .bool false, .pointer (some ⟨w.heap.size, 1, none⟩), .agg (aggT (x1, p)), .pointer (some ⟨(w.heap.size + 1), 1, none⟩), .agg (aggT (x2, p)), j21, j22, j23, j24, j25, j26, j27, j28, j29, .bool false, undef, .agg (spC (false, x1, y1) p), .agg (spC (false, x2, y2) p), .agg (aggT (sl, p)), .agg (aggT ((sl), (p))), .iface 60 (.agg (aggT ((sl), (p)))), .agg (aggT ((sl), (p))), .agg (aggT (mulR ((sl)) ((sl)) (p), (p))), .iface 60 (.agg (aggT (mulR ((sl)) ((sl)) (p), (p))))] ([.pointer (some ⟨w.heap.size, 1, none⟩), .agg (aggT (x1, p)), .agg (aggT (subR (mulR ((sl)) ((sl)) (p)) (x1) (p), (p))), .iface 60 (.agg (aggT (subR (mulR ((sl)) ((sl)) (p)) (x1) (p), (p)))), .pointer (some ⟨(w.heap.size + 1), 1, none⟩), .agg (aggT (x2, p)), .agg (aggT (subR (subR (mulR ((sl)) ((sl)) (p)) (x1) (p)) (x2) (p), (p))), undef, undef, undef, undef, undef, undef, undef, undef, undef, undef, undef, undef, undef, undef, undef])), defers := [] } (by kernel_rfl) ?_
            exact ⟨rfl, g4, rfl, HG.out⟩
          · have GEg4 := Lib.hid HG.out.b.size
            have APg4 := Lib.hid HG.out.h.apart
            replace HG := Lib.hid (HG.out.new (aggT noP) 60)
            have HS := Lib.hid (HG.out.h.tail)
            refine sq_alloc (some 6) 60 (aggT noP) (by kernel_rfl) (by kernel_rfl) (by kernel_rfl) (by kernel_rfl) (zero_rc _) HS.out ?_
            generalize v402.alloc _ = u406 at *
            generalize v402.heap.size = g4 at *
            refine sq_done ?_
            refine m_mask (M' := 6143) (by kernel_rfl) ?_
            refine m_seq (f := 1) (infoS _) [(false, 11)] 8191 (tells_infoS _ _) (by kernel_rfl) (fun _ _ _ _ _ h => by cases h.1) (by kernel_rfl) (by kernel_rfl) (by kernel_rfl) HS.out ?_
            refine sq_ci (some 46) (meets_less _ _) (rc_less (subR (mulR ((sl)) ((sl)) (p)) (x1) (p)) ((p)) (x2) (p) _) (by kernel_rfl) ?_
            rintro e v407 ⟨rfl, bw⟩
            replace HG := Lib.hid (HG.out.on bw)
            have HS := Lib.hid (HG.out.h.tail)
            clear bw
            refine ⟨_, rfl, HS.out, ?_⟩
            refine sq_done ?_
            refine m_mask (M' := 8191) (by kernel_rfl) ?_
            refine m_seq (f := 0) (infoS _) [(false, 13)] 16383 (tells_infoS _ _) (by kernel_rfl) (fun _ _ _ _ _ h => by cases h.1) (by kernel_rfl) (by kernel_rfl) (by kernel_rfl) HS.out ?_
            have HN := Lib.hid (HG.out.h _ (.head _))
            replace HG := Lib.hid (HG.out.putAt GEg4.out APg4.out (aggT (subR (subR (mulR ((sl)) ((sl)) (p)) (x1) (p)) (x2) (p), (p))))
            have HS := Lib.hid (HG.out.h.tail)
            refine sq_st 60 g4 (aggT (subR (subR (mulR ((sl)) ((sl)) (p)) (x1) (p)) (x2) (p), (p))) HN.out Try.infoRC rfl (by kernel_rfl) HS.out (by kernel_rfl) ?_
            clear HN
            generalize World.setRow _ g4 _ = t408 at *
            refine sq_done ?_
            refine m_mask (M' := 16383) (by kernel_rfl) ?_
            refine m_done (infoS _) (tells_infoS _ _) (by kernel_rfl) { tmps := List.toArray (List.append [.agg (spC (false, x1, y1) p), .agg (spC (false, x2, y2) p), .pointer (some ⟨w.heap.size, 0, none⟩), .pointer (some ⟨(w.heap.size + 1), 0, none⟩), .pointer (some ⟨(w.heap.size + 1 + 1), 0, none⟩), .pointer (some ⟨g2, 0, none⟩), .pointer (some ⟨g4, 0, none⟩), undef, .bool false, .pointer (some ⟨w.heap.size, 0, none⟩), .bool false, undef, .bool false, .pointer (some ⟨(w.heap.size + 1), 0, none⟩), .bool false, undef, .bool false, .pointer (some ⟨w.heap.size, 1, none⟩), .agg (aggT (x1, p)), .pointer (some ⟨(w.heap.size + 1), 1, none⟩), .agg (aggT (x2, p)), j21, j22, j23, j24, j25, j26, j27, j28, j29, .bool false, undef, .agg (spC (false, x1, y1) p), .agg (spC (false, x2, y2) p), .agg (aggT (sl, p)), .agg (aggT ((sl), (p))), .iface 60 (.agg (aggT ((sl), (p)))), .agg (aggT ((sl), (p))), .agg (aggT (mulR ((sl)) ((sl)) (p), (p))), .iface 60 (.agg (aggT (mulR ((sl)) ((sl)) (p), (p))))] ([.pointer (some ⟨w.heap.size, 1, none⟩), .agg (aggT (x1, p)), .agg (aggT (subR (mulR ((sl)) ((sl)) (p)) (x1) (p), (p))), .iface 60 (.agg (aggT (subR (mulR ((sl)) ((sl)) (p)) (x1) (p), (p)))), .pointer (some ⟨(w.heap.size + 1), 1, none⟩), .agg (aggT (x2, p)), .agg (aggT (subR (subR (mulR ((sl)) ((sl)) (p)) (x1) (p)) (x2) (p), (p))), undef, undef, undef, undef, undef, undef, undef, undef, undef, undef, undef, undef, undef, undef, undef])), defers := [] } (by kernel_rfl) ?_
            exact ⟨rfl, g4, rfl, HG.out⟩
        · have GEg4 := Lib.hid HG.out.b.size
          have APg4 := Lib.hid HG.out.h.apart
          replace HG := Lib.hid (HG.out.new (aggT noP) 60)
          have HS := Lib.hid (HG.out.h.tail)
          refine sq_alloc (some 6) 60 (aggT noP) (by kernel_rfl) (by kernel_rfl) (by kernel_rfl) (by kernel_rfl) (zero_rc _) HS.out ?_
          generalize v401.alloc _ = u409 at *
          generalize v401.heap.size = g4 at *
          refine sq_done ?_
          refine m_mask (M' := 5759) (by kernel_rfl) ?_
          refine m_seq (f := 3) (infoS _) [(false, 7)] 5887 (tells_infoS _ _) (by kernel_rfl) (fun _ _ _ _ _ h => by cases h.1) (by kernel_rfl) (by kernel_rfl) (by kernel_rfl) HS.out ?_
          refine sq_ci (some 42) (meets_less _ _) (rc_less (mulR ((sl)) ((sl)) (p)) ((p)) (x1) (p) _) (by kernel_rfl) ?_
          rintro e v410 ⟨rfl, bw⟩
          replace HG := Lib.hid (HG.out.on bw)
          have HS := Lib.hid (HG.out.h.tail)
          clear bw
          refine ⟨_, rfl, HS.out, ?_⟩
          refine sq_done ?_
          refine m_mask (M' := 5887) (by kernel_rfl) ?_
          refine m_seq (f := 2) (infoS _) [(true, 8)] 6143 (tells_infoS _ _) (by kernel_rfl) (fun _ _ _ _ _ h => by cases h.1) (by kernel_rfl) (by kernel_rfl) (by kernel_rfl) HS.out ?_
          refine sq_ps [(8, .iface 60 (.agg (aggT (subR (mulR ((sl)) ((sl)) (p)) (x1) (p), (p)))))] (by kernel_rfl) ?_
          refine sq_done ?_
          refine m_mask (M' := 6143) (by kernel_rfl) ?_
          refine m_seq (f := 1) (infoS _) [(false, 11)] 8191 (tells_infoS _ _) (by kernel_rfl) (fun _ _ _ _ _ h => by cases h.1) (by kernel_rfl) (by kernel_rfl) (by kernel_rfl) HS.out ?_
          refine sq_ci (some 46) (meets_less _ _) (rc_less (subR (mulR ((sl)) ((sl)) (p)) (x1) (p)) ((p)) (x2) (p) _) (by kernel_rfl) ?_
          rintro e v411 ⟨rfl, bw⟩
          replace HG := Lib.hid (HG.out.on bw)
          have HS := Lib.hid (HG.out.h.tail)
          clear bw
          refine ⟨_, rfl, HS.out, ?_⟩
          refine sq_done ?_
          refine m_mask (M' := 8191) (by kernel_rfl) ?_
          refine m_seq (f := 0) (infoS _) [(false, 13)] 16383 (tells_infoS _ _) (by kernel_rfl) (fun _ _ _ _ _ h => by cases h.1) (by kernel_rfl) (by kernel_rfl) (by kernel_rfl) HS.out ?_
          have HN := Lib.hid (HG.out.h _ (.head _))
          replace HG := Lib.hid (HG.out.putAt GEg4.out APg4.out (aggT (subR (subR (mulR ((sl)) ((sl)) (p)) (x1) (p)) (x2) (p), (p))))
          have HS := Lib.hid (HG.out.h.tail)
          refine sq_st 60 g4 (aggT (subR (subR (mulR ((sl)) ((sl)) (p)) (x1) (p)) (x2) (p), (p))) HN.out Try.infoRC rfl (by kernel_rfl) HS.out (by kernel_rfl) ?_
          clear HN
          generalize World.setRow _ g4 _ = t412 at *
          refine sq_done ?_
          refine m_mask (M' := 16383) (by kernel_rfl) ?_
          refine m_done (infoS _) (tells_infoS _ _) (by kernel_rfl) { tmps := List.toArray (List.append [.agg (spC (false, x1, y1) p), .agg (spC (false, x2, y2) p), .pointer (some ⟨w.heap.size, 0, none⟩), .pointer (some ⟨(w.heap.size + 1), 0, none⟩), .pointer (some ⟨(w.heap.size + 1 + 1), 0, none⟩), .pointer (some ⟨g2, 0, none⟩), .pointer (some ⟨g4, 0, none⟩), undef, .bool false, .pointer (some ⟨w.heap.size, 0, none⟩), .bool false, undef, .bool false, .pointer (some ⟨(w.heap.size + 1), 0, none⟩), .bool false, undef, .bool false, .pointer (some ⟨w.heap.size, 1, none⟩), .agg (aggT (x1, p)), .pointer (some ⟨(w.heap.size + 1), 1, none⟩), .agg (aggT (x2, p)), j21, j22, j23, j24, j25, j26, j27, j28, j29, .bool false, undef, .agg (spC (false, x1, y1) p), .agg (spC (false, x2, y2) p), .agg (aggT (sl, p)), .agg (aggT ((sl), (p))), .iface 60 (.agg (aggT ((sl), (p)))), .agg (aggT ((sl), (p))), .agg (aggT (mulR ((sl)) ((sl)) (p), (p))), .iface 60 (.agg (aggT (mulR ((sl)) ((sl)) (p), (p))))] ([.pointer (some ⟨w.heap.size, 1, none⟩), .agg (aggT (x1, p)), .agg (aggT (subR (mulR ((sl)) ((sl)) (p)) (x1) (p), (p))), .iface 60 (.agg (aggT (subR (mulR ((sl)) ((sl)) (p)) (x1) (p), (p)))), .pointer (some ⟨(w.heap.size + 1), 1, none⟩), .agg (aggT (x2, p)), .agg (aggT (subR (subR (mulR ((sl)) ((sl)) (p)) (x1) (p)) (x2) (p), (p))), undef, undef, undef, undef, undef, undef, undef, undef, undef, undef, undef, undef, undef, undef, undef])), defers := [] } (by kernel_rfl) ?_
          exact ⟨rfl, g4, rfl, HG.out⟩
      · have GEg4 := Lib.hid HG.out.b.size
        have APg4 := Lib.hid HG.out.h.apart
        replace HG := Lib.hid (HG.out.new (aggT noP) 60)
        have HS := Lib.hid (HG.out.h.tail)
        refine sq_alloc (some 6) 60 (aggT noP) (by kernel_rfl) (by kernel_rfl) (by kernel_rfl) (by kernel_rfl) (zero_rc _) HS.out ?_
        generalize v400.alloc _ = u413 at *
        generalize v400.heap.size = g4 at *
        refine sq_done ?_
        refine m_mask (M' := 5735) (by kernel_rfl) ?_
        refine m_seq (f := 5) (infoS _) [(false, 3)] 5743 (tells_infoS _ _) (by kernel_rfl) (fun _ _ _ _ _ h => by cases h.1) (by kernel_rfl) (by kernel_rfl) (by kernel_rfl) HS.out ?_
        refine sq_ci (some 38) (meets_times _ _) (rc_times ((sl)) ((p)) ((sl)) ((p)) _) (by kernel_rfl) ?_
        rintro e v414 ⟨rfl, bw⟩
        replace HG := Lib.hid (HG.out.on bw)
        have HS := Lib.hid (HG.out.h.tail)
        clear bw
        refine ⟨_, rfl, HS.out, ?_⟩
        refine sq_done ?_
        refine m_mask (M' := 5743) (by kernel_rfl) ?_
        refine m_seq (f := 4) (infoS _) [(true, 4)] 5759 (tells_infoS _ _) (by kernel_rfl) (fun _ _ _ _ _ h => by cases h.1) (by kernel_rfl) (by kernel_rfl) (by kernel_rfl) HS.out ?_
        refine sq_ps [(4, .iface 60 (.agg (aggT (mulR ((sl)) ((sl)) (p), (p)))))] (by kernel_rfl) ?_
        refine sq_done ?_
        refine m_mask (M' := 5759) (by kernel_rfl) ?_
        refine m_seq (f := 3) (infoS _) [(false, 7)] 5887 (tells_infoS _ _) (by kernel_rfl) (fun _ _ _ _ _ h => by cases h.1) (by kernel_rfl) (by kernel_rfl) (by kernel_rfl) HS.out ?_
        refine sq_ci (some 42) (meets_less _ _) (rc_less (mulR ((sl)) ((sl)) (p)) ((p)) (x1) (p) _) (by kernel_rfl) ?_
        rintro e v415 ⟨rfl, bw⟩
        replace HG := Lib.hid (HG.out.on bw)
        have HS := Lib.hid (HG.out.h.tail)
        clear bw
        refine ⟨_, rfl, HS.out, ?_⟩
        refine sq_done ?_
        refine m_mask (M' := 5887) (by kernel_rfl) ?_
        refine m_seq (f := 2) (infoS _) [(true, 8)] 6143 (tells_infoS _ _) (by kernel_rfl) (fun _ _ _ _ _ h => by cases h.1) (by kernel_rfl) (by kernel_rfl) (by kernel_rfl) HS.out ?_
        refine sq_ps [(8, .iface 60 (.agg (aggT (subR (mulR ((sl)) ((sl)) (p)) (x1) (p), (p)))))] (by kernel_rfl) ?_
        refine sq_done ?_
        refine m_mask (M' := 6143) (by kernel_rfl) ?_
        refine m_seq (f := 1) (infoS _) [(false, 11)] 8191 (tells_infoS _ _) (by kernel_rfl) (fun _ _ _ _ _ h => by cases h.1) (by kernel_rfl) (by kernel_rfl) (by kernel_rfl) HS.out ?_
        refine sq_ci (some 46) (meets_less _ _) (rc_less (subR (mulR ((sl)) ((sl)) (p)) (x1) (p)) ((p)) (x2) (p) _) (by kernel_rfl) ?_
        rintro e v416 ⟨rfl, bw⟩
        replace HG := Lib.hid (HG.out.on bw)
        have HS := Lib.hid (HG.out.h.tail)
        clear bw
        refine ⟨_, rfl, HS.out, ?_⟩
        refine sq_done ?_
        refine m_mask (M' := 8191) (by kernel_rfl) ?_
        refine m_seq (f := 0) (infoS _) [(false, 13)] 16383 (tells_infoS _ _) (by kernel_rfl) (fun _ _ _ _ _ h => by cases h.1) (by kernel_rfl) (by kernel_rfl) (by kernel_rfl) HS.out ?_
        have HN := Lib.hid (HG.out.h _ (.head _))
        replace HG := Lib.hid (HG.out.putAt GEg4.out APg4.out (aggT (subR (subR (mulR ((sl)) ((sl)) (p)) (x1) (p)) (x2) (p), (p))))
        have HS := Lib.hid (HG.out.h.tail)
        refine sq_st 60 g4 (aggT (subR (subR (mulR ((sl)) ((sl)) (p)) (x1) (p)) (x2) (p), (p))) HN.out Try.infoRC rfl (by kernel_rfl) HS.out (by kernel_rfl) ?_
        clear HN
        generalize World.setRow _ g4 _ = t417 at *
        refine sq_done ?_
        refine m_mask (M' := 16383) (by kernel_rfl) ?_
        refine m_done (infoS _) (tells_infoS _ _) (by kernel_rfl) { tmps := List.toArray (List.append [.agg (spC (false, x1, y1) p), .agg (spC (false, x2, y2) p), .pointer (some ⟨w.heap.size, 0, none⟩), .pointer (some ⟨(w.heap.size + 1), 0, none⟩), .pointer (some ⟨(w.heap.size + 1 + 1), 0, none⟩), .pointer (some ⟨g2, 0, none⟩), .pointer (some ⟨g4, 0, none⟩), undef, .bool false, .pointer (some ⟨w.heap.size, 0, none⟩), .bool false, undef, .bool false, .pointer (some ⟨(w.heap.size + 1), 0, none⟩), .bool false, undef, .bool false, .pointer (some ⟨w.heap.size, 1, none⟩), .agg (aggT (x1, p)), .pointer (some ⟨(w.heap.size + 1), 1, none⟩), .agg (aggT (x2, p)), j21, j22, j23, j24, j25, j26, j27, j28, j29, .bool false, undef, .agg (spC (false, x1, y1) p), .agg (spC (false, x2, y2) p), .agg (aggT (sl, p)), .agg (aggT ((sl), (p))), .iface 60 (.agg (aggT ((sl), (p)))), .agg (aggT ((sl), (p))), .agg (aggT (mulR ((sl)) ((sl)) (p), (p))), .iface 60 (.agg (aggT (mulR ((sl)) ((sl)) (p), (p))))] ([.pointer (some ⟨w.heap.size, 1, none⟩), .agg (aggT (x1, p)), .agg (aggT (subR (mulR ((sl)) ((sl)) (p)) (x1) (p), (p))), .iface 60 (.agg (aggT (subR (mulR ((sl)) ((sl)) (p)) (x1) (p), (p)))), .pointer (some ⟨(w.heap.size + 1), 1, none⟩), .agg (aggT (x2, p)), .agg (aggT (subR (subR (mulR ((sl)) ((sl)) (p)) (x1) (p)) (x2) (p), (p))), undef, undef, undef, undef, undef, undef, undef, undef, undef, undef, undef, undef, undef, undef, undef])), defers := [] } (by kernel_rfl) ?_
        exact ⟨rfl, g4, rfl, HG.out⟩
    rintro e a t4 ⟨rfl, g4, rfl, hG⟩
    replace HG := Lib.hid hG
    clear hG
    refine (by assumption : ∀ (a : Act) (w_1 : World), Code.wp _ _ _ a w_1 → _) _ _ ?_
    go_upto_region 9 with (fail)
    replace HS := Lib.hid HG.out.h
    refine Code.wp_mono (Q := fun e a' w' => e = .normal ∧ ∃ (g5 : Nat), a' = { tmps := List.toArray (List.append [.agg (spC (false, x1, y1) p), .agg (spC (false, x2, y2) p), .pointer (some ⟨w.heap.size, 0, none⟩), .pointer (some ⟨(w.heap.size + 1), 0, none⟩), .pointer (some ⟨(w.heap.size + 1 + 1), 0, none⟩), .pointer (some ⟨g2, 0, none⟩), .pointer (some ⟨g4, 0, none⟩), .pointer (some ⟨g5, 0, none⟩), .bool false, .pointer (some ⟨w.heap.size, 0, none⟩), .bool false, undef, .bool false, .pointer (some ⟨(w.heap.size + 1), 0, none⟩), .bool false, undef, .bool false, .pointer (some ⟨w.heap.size, 1, none⟩), .agg (aggT (x1, p)), .pointer (some ⟨(w.heap.size + 1), 1, none⟩), .agg (aggT (x2, p)), j21, j22, j23, j24, j25, j26, j27, j28, j29, .bool false, undef, .agg (spC (false, x1, y1) p), .agg (spC (false, x2, y2) p), .agg (aggT (sl, p)), .agg (aggT ((sl), (p))), .iface 60 (.agg (aggT ((sl), (p)))), .agg (aggT ((sl), (p))), .agg (aggT (mulR ((sl)) ((sl)) (p), (p))), .iface 60 (.agg (aggT (mulR ((sl)) ((sl)) (p), (p))))] ([.pointer (some ⟨w.heap.size, 1, none⟩), .agg (aggT (x1, p)), .agg (aggT (subR (mulR ((sl)) ((sl)) (p)) (x1) (p), (p))), .iface 60 (.agg (aggT (subR (mulR ((sl)) ((sl)) (p)) (x1) (p), (p)))), .pointer (some ⟨(w.heap.size + 1), 1, none⟩), .agg (aggT (x2, p)), .agg (aggT (subR (subR (mulR ((sl)) ((sl)) (p)) (x1) (p)) (x2) (p), (p))), .agg (aggT ((sl), (p))), .iface 60 (.agg (aggT ((sl), (p)))), .pointer (some ⟨w.heap.size, 1, none⟩), .agg (aggT (x1, p)), .iface 60 (.agg (aggT (x1, p))), .agg (aggT ((subR (subR (mulR ((sl)) ((sl)) (p)) (x1) (p)) (x2) (p)), ((p)))), .agg (aggT (subR (x1) ((subR (subR (mulR ((sl)) ((sl)) (p)) (x1) (p)) (x2) (p))) p, p)), .agg (aggT (mulR ((sl)) (subR (x1) ((subR (subR (mulR ((sl)) ((sl)) (p)) (x1) (p)) (x2) (p))) p) (p), (p))), .iface 60 (.agg (aggT (mulR ((sl)) (subR (x1) ((subR (subR (mulR ((sl)) ((sl)) (p)) (x1) (p)) (x2) (p))) p) (p), (p)))), .pointer (some ⟨w.heap.size, 3, none⟩), .agg (aggT (y1, p)), .agg (aggT (subR (mulR ((sl)) (subR (x1) ((subR (subR (mulR ((sl)) ((sl)) (p)) (x1) (p)) (x2) (p))) p) (p)) (y1) (p), (p))), undef, undef, undef])), defers := [] } ∧ Begun w w' [(g5, aggT (subR (mulR ((sl)) (subR (x1) ((subR (subR (mulR ((sl)) ((sl)) (p)) (x1) (p)) (x2) (p))) p) (p)) (y1) (p), (p)), 60), (g4, aggT (subR (subR (mulR ((sl)) ((sl)) (p)) (x1) (p)) (x2) (p), (p)), 60), (g2, aggT (sl, p), 60), (w.heap.size + 1, spC (false, x2, y2) p, 62), (w.heap.size, spC (false, x1, y1) p, 62)] (w.heap.size + 1 + 1) #[.bool false, .string ⟨#[]⟩, .string ⟨#[]⟩, .string ⟨#[]⟩, .string ⟨#[]⟩] 62) ?_ ?_
    rotate_left
    · refine m_begin (S := fun w' => Held w' [(g4, aggT (subR (subR (mulR ((sl)) ((sl)) (p)) (x1) (p)) (x2) (p), (p)), 60), (g2, aggT (sl, p), 60), (w.heap.size + 1, spC (false, x2, y2) p, 62), (w.heap.size, spC (false, x1, y1) p, 62)]) (by kernel_rfl) 14 (by kernel_rfl) ?_
      replace HG := Lib.hid HG.out.drew
      change wpM _ _ _ _ _ _ _ _ (World.drew _)
      generalize World.drew t4 = v500 at *
      have HS := Lib.hid HG.out.h
      refine m_seq (f := 6) (infoS _) [(true, 0), (true, 1), (true, 2), (true, 3), (true, 4), (true, 5), (true, 9), (true, 10)] 1599 (tells_infoS _ _) (by kernel_rfl) (fun _ _ _ _ _ h => by cases h.1) (by kernel_rfl) (by kernel_rfl) (by kernel_rfl) HS.out ?_
      refine sq_ld (some 47) (ld_r (.tail _ (.head _)) (k := 0) rfl rfl) (by kernel_rfl) ?_
      refine sq_ps [(1, .iface 60 (.agg (aggT ((sl), (p)))))] (by kernel_rfl) ?_
      refine sq_ps [(2, .pointer (some ⟨w.heap.size, 1, none⟩))] (by kernel_rfl) ?_
      refine sq_ld (some 50) (ld_r (.tail _ (.tail _ (.tail _ (.head _)))) (k := 1) rfl rfl) (by kernel_rfl) ?_
      refine sq_ps [(4, .iface 60 (.agg (aggT (x1, p))))] (by kernel_rfl) ?_
      refine sq_ld (some 52) (ld_r (.head _) (k := 0) rfl rfl) (by kernel_rfl) ?_
      refine sq_ps [(9, .pointer (some ⟨w.heap.size, 3, none⟩))] (by kernel_rfl) ?_
      refine sq_ld (some 57) (ld_r (.tail _ (.tail _ (.tail _ (.head _)))) (k := 3) rfl rfl) (by kernel_rfl) ?_
      refine sq_done ?_
      refine m_mask (M' := 1599) (by kernel_rfl) ?_
      refine m_ways (f := 5) (infoS _) [6, 12] (tells_infoS _ _) (by kernel_rfl) (by kernel_rfl) (by kernel_rfl) ?_
      intro i hi
      rcases (by simpa using hi : i = 6 ∨ i = 12) with rfl | rfl
      · refine sq_ci (some 53) (meets_less _ _) (rc_less (x1) (p) ((subR (subR (mulR ((sl)) ((sl)) (p)) (x1) (p)) (x2) (p))) (((p))) _) (by kernel_rfl) ?_
        rintro e v501 ⟨rfl, bw⟩
        replace HG := Lib.hid (HG.out.on bw)
        have HS := Lib.hid (HG.out.h)
        clear bw
        refine ⟨_, rfl, HS.out, ?_⟩
        refine sq_done ?_
        refine m_mask (M' := 1663) (by kernel_rfl) ?_
        refine m_ways (f := 4) (infoS _) [7, 12] (tells_infoS _ _) (by kernel_rfl) (by kernel_rfl) (by kernel_rfl) ?_
        intro i hi
        rcases (by simpa using hi : i = 7 ∨ i = 12) with rfl | rfl
        · refine sq_ci (some 54) (meets_times _ _) (rc_times ((sl)) ((p)) (subR (x1) ((subR (subR (mulR ((sl)) ((sl)) (p)) (x1) (p)) (x2) (p))) p) (p) _) (by kernel_rfl) ?_
          rintro e v502 ⟨rfl, bw⟩
          replace HG := Lib.hid (HG.out.on bw)
          have HS := Lib.hid (HG.out.h)
          clear bw
          refine ⟨_, rfl, HS.out, ?_⟩
          refine sq_done ?_
          refine m_mask (M' := 1791) (by kernel_rfl) ?_
          refine m_seq (f := 3) (infoS _) [(true, 8)] 2047 (tells_infoS _ _) (by kernel_rfl) (fun _ _ _ _ _ h => by cases h.1) (by kernel_rfl) (by kernel_rfl) (by kernel_rfl) HS.out ?_
          refine sq_ps [(8, .iface 60 (.agg (aggT (mulR ((sl)) (subR (x1) ((subR (subR (mulR ((sl)) ((sl)) (p)) (x1) (p)) (x2) (p))) p) (p), (p)))))] (by kernel_rfl) ?_
          refine sq_done ?_
          refine m_mask (M' := 2047) (by kernel_rfl) ?_
          refine m_ways (f := 2) (infoS _) [11, 12] (tells_infoS _ _) (by kernel_rfl) (by kernel_rfl) (by kernel_rfl) ?_
          intro i hi
          rcases (by simpa using hi : i = 11 ∨ i = 12) with rfl | rfl
          · refine sq_ci (some 58) (meets_less _ _) (rc_less (mulR ((sl)) (subR (x1) ((subR (subR (mulR ((sl)) ((sl)) (p)) (x1) (p)) (x2) (p))) p) (p)) ((p)) (y1) (p) _) (by kernel_rfl) ?_
            rintro e v503 ⟨rfl, bw⟩
            replace HG := Lib.hid (HG.out.on bw)
            have HS := Lib.hid (HG.out.h)
            clear bw
            refine ⟨_, rfl, HS.out, ?_⟩
            refine sq_done ?_
            refine m_mask (M' := 4095) (by kernel_rfl) ?_
            refine m_seq (f := 1) (infoS _) [(false, 12)] 8191 (tells_infoS _ _) (by kernel_rfl) (fun _ _ _ _ _ h => by cases h.1) (by kernel_rfl) (by kernel_rfl) (by kernel_rfl) HS.out ?_
            have GEg5 := Lib.hid HG.out.b.size
            have APg5 := Lib.hid HG.out.h.apart
            replace HG := Lib.hid (HG.out.new (aggT noP) 60)
            have HS := Lib.hid (HG.out.h.tail)
            refine sq_alloc (some 7) 60 (aggT noP) (by kernel_rfl) (by kernel_rfl) (by kernel_rfl) (by kernel_rfl) (zero_rc _) HS.out ?_
            generalize v503.alloc _ = u504 at *
            generalize v503.heap.size = g5 at *
            refine sq_done ?_
            refine m_mask (M' := 8191) (by kernel_rfl) ?_
            refine m_seq (f := 0) (infoS _) [(false, 13)] 16383 (tells_infoS _ _) (by kernel_rfl) (fun _ _ _ _ _ h => by cases h.1) (by kernel_rfl) (by kernel_rfl) (by kernel_rfl) HS.out ?_
            have HN := Lib.hid (HG.out.h _ (.head _))
            replace HG := Lib.hid (HG.out.putAt GEg5.out APg5.out (aggT (subR (mulR ((sl)) (subR (x1) ((subR (subR (mulR ((sl)) ((sl)) (p)) (x1) (p)) (x2) (p))) p) (p)) (y1) (p), (p))))
            have HS := Lib.hid (HG.out.h.tail)
            refine sq_st 60 g5 (aggT (subR (mulR ((sl)) (subR (x1) ((subR (subR (mulR ((sl)) ((sl)) (p)) (x1) (p)) (x2) (p))) p) (p)) (y1) (p), (p))) HN.out Try.infoRC rfl (by kernel_rfl) HS.out (by kernel_rfl) ?_
            clear HN
            generalize World.setRow _ g5 _ = t505 at *
            refine sq_done ?_
            refine m_mask (M' := 16383) (by kernel_rfl) ?_
            refine m_done (infoS _) (tells_infoS _ _) (by kernel_rfl) { tmps := List.toArray (List.append [.agg (spC (false, x1, y1) p), .agg (spC (false, x2, y2) p), .pointer (some ⟨w.heap.size, 0, none⟩), .pointer (some ⟨(w.heap.size + 1), 0, none⟩), .pointer (some ⟨(w.heap.size + 1 + 1), 0, none⟩), .pointer (some ⟨g2, 0, none⟩), .pointer (some ⟨g4, 0, none⟩), .pointer (some ⟨g5, 0, none⟩), .bool false, .pointer (some ⟨w.heap.size, 0, none⟩), .bool false, undef, .bool false, .pointer (some ⟨(w.heap.size + 1), 0, none⟩), .bool false, undef, .bool false, .pointer (some ⟨w.heap.size, 1, none⟩), .agg (aggT (x1, p)), .pointer (some ⟨(w.heap.size + 1), 1, none⟩), .agg (aggT (x2, p)), j21, j22, j23, j24, j25, j26, j27, j28, j29, .bool false, undef, .agg (spC (false, x1, y1) p), .agg (spC (false, x2, y2) p), .agg (aggT (sl, p)), .agg (aggT ((sl), (p))), .iface 60 (.agg (aggT ((sl), (p)))), .agg (aggT ((sl), (p))), .agg (aggT (mulR ((sl)) ((sl)) (p), (p))), .iface 60 (.agg (aggT (mulR ((sl)) ((sl)) (p), (p))))] ([.pointer (some ⟨w.heap.size, 1, none⟩), .agg (aggT (x1, p)), .agg (aggT (subR (mulR ((sl)) ((sl)) (p)) (x1) (p), (p))), .iface 60 (.agg (aggT (subR (mulR ((sl)) ((sl)) (p)) (x1) (p), (p)))), .pointer (some ⟨(w.heap.size + 1), 1, none⟩), .agg (aggT (x2, p)), .agg (aggT (subR (subR (mulR ((sl)) ((sl)) (p)) (x1) (p)) (x2) (p), (p))), .agg (aggT ((sl), (p))), .iface 60 (.agg (aggT ((sl), (p)))), .pointer (some ⟨w.heap.size, 1, none⟩), .agg (aggT (x1, p)), .iface 60 (.agg (aggT (x1, p))), .agg (aggT ((subR (subR (mulR ((sl)) ((sl)) (p)) (x1) (p)) (x2) (p)), ((p)))), .agg (aggT (subR (x1) ((subR (subR (mulR ((sl)) ((sl)) (p)) (x1) (p)) (x2) (p))) p, p)), .agg (aggT (mulR ((sl)) (subR (x1) ((subR (subR (mulR ((sl)) ((sl)) (p)) (x1) (p)) (x2) (p))) p) (p), (p))), .iface 60 (.agg (aggT (mulR ((sl)) (subR (x1) ((subR (subR (mulR ((sl)) ((sl)) (p)) (x1) (p)) (x2) (p))) p) (p), (p)))), .pointer (some ⟨w.heap.size, 3, none⟩), .agg (aggT (y1, p)), .agg (aggT (subR (mulR ((sl)) (subR (x1) ((subR (subR (mulR ((sl)) ((sl)) (p)) (x1) (p)) (x2) (p))) p) (p)) (y1) (p), (p))), undef, undef, undef])), defers := [] } (by kernel_rfl) ?_
            exact ⟨rfl, g5, rfl, HG.out⟩
          · have GEg5 := Lib.hid HG.out.b.size
            have APg5 := Lib.hid HG.out.h.apart
            replace HG := Lib.hid (HG.out.new (aggT noP) 60)
            have HS := Lib.hid (HG.out.h.tail)
            refine sq_alloc (some 7) 60 (aggT noP) (by kernel_rfl) (by kernel_rfl) (by kernel_rfl) (by kernel_rfl) (zero_rc _) HS.out ?_
            generalize v502.alloc _ = u506 at *
            generalize v502.heap.size = g5 at *
            refine sq_done ?_
            refine m_mask (M' := 6143) (by kernel_rfl) ?_
            refine m_seq (f := 1) (infoS _) [(false, 11)] 8191 (tells_infoS _ _) (by kernel_rfl) (fun _ _ _ _ _ h => by cases h.1) (by kernel_rfl) (by kernel_rfl) (by kernel_rfl) HS.out ?_
            refine sq_ci (some 58) (meets_less _ _) (rc_less (mulR ((sl)) (subR (x1) ((subR (subR (mulR ((sl)) ((sl)) (p)) (x1) (p)) (x2) (p))) p) (p)) ((p)) (y1) (p) _) (by kernel_rfl) ?_
            rintro e v507 ⟨rfl, bw⟩
            replace HG := Lib.hid (HG.out.on bw)
            have HS := Lib.hid (HG.out.h.tail)
            clear bw
            refine ⟨_, rfl, HS.out, ?_⟩
            refine sq_done ?_
            refine m_mask (M' := 8191) (by kernel_rfl) ?_
            refine m_seq (f := 0) (infoS _) [(false, 13)] 16383 (tells_infoS _ _) (by kernel_rfl) (fun _ _ _ _ _ h => by cases h.1) (by kernel_rfl) (by kernel_rfl) (by kernel_rfl) HS.out ?_
            have HN := Lib.hid (HG.out.h _ (.head _))
            replace HG := Lib.hid (HG.out.putAt GEg5.out APg5.out (aggT (subR (mulR ((sl)) (subR (x1) ((subR (subR (mulR ((sl)) ((sl)) (p)) (x1) (p)) (x2) (p))) p) (p)) (y1) (p), (p))))
            have HS := Lib.hid (HG.out.h.tail)
            refine sq_st 60 g5 (aggT (subR (mulR ((sl)) (subR (x1) ((subR (subR (mulR ((sl)) ((sl)) (p)) (x1) (p)) (x2) (p))) p) (p)) (y1) (p), (p))) HN.out Try.infoRC rfl (by kernel_rfl) HS.out (by kernel_rfl) ?_
            clear HN
            generalize World.setRow _ g5 _ = t508 at *
            refine sq_done ?_
            refine m_mask (M' := 16383) (by kernel_rfl) ?_
            refine m_done (infoS _) (tells_infoS _ _) (by kernel_rfl) { tmps := List.toArray (List.append [.agg (spC (false, x1, y1) p), .agg (spC (false, x2, y2) p), .pointer (some ⟨w.heap.size, 0, none⟩), .pointer (some ⟨(w.heap.size + 1), 0, none⟩), .pointer (some ⟨(w.heap.size + 1 + 1), 0, none⟩), .pointer (some ⟨g2, 0, none⟩), .pointer (some ⟨g4, 0, none⟩), .pointer (some ⟨g5, 0, none⟩), .bool false, .pointer (some ⟨w.heap.size, 0, none⟩), .bool false, undef, .bool false, .pointer (some ⟨(w.heap.size + 1), 0, none⟩), .bool false, undef, .bool false, .pointer (some ⟨w.heap.size, 1, none⟩), .agg (aggT (x1, p)), .pointer (some ⟨(w.heap.size + 1), 1, none⟩), .agg (aggT (x2, p)), j21, j22, j23, j24, j25, j26, j27, j28, j29, .bool false, undef, .agg (spC (false, x1, y1) p), .agg (spC (false, x2, y2) p), .agg (aggT (sl, p)), .agg (aggT ((sl), (p))), .iface 60 (.agg (aggT ((sl), (p)))), .agg (aggT ((sl), (p))), .agg (aggT (mulR ((sl)) ((sl)) (p), (p))), .iface 60 (.agg (aggT (mulR ((sl)) ((sl)) (p), (p))))] ([.pointer (some ⟨w.heap.size, 1, none⟩), .agg (aggT (x1, p)), .agg (aggT (subR (mulR ((sl)) ((sl)) (p)) (x1) (p), (p))), .iface 60 (.agg (aggT (subR (mulR ((sl)) ((sl)) (p)) (x1) (p), (p)))), .pointer (some ⟨(w.heap.size + 1), 1, none⟩), .agg (aggT (x2, p)), .agg (aggT (subR (subR (mulR ((sl)) ((sl)) (p)) (x1) (p)) (x2) (p), (p))), .agg (aggT ((sl), (p))), .iface 60 (.agg (aggT ((sl), (p)))), .pointer (some ⟨w.heap.size, 1, none⟩), .agg (aggT (x1, p)), .iface 60 (.agg (aggT (x1, p))), .agg (aggT ((subR (subR (mulR ((sl)) ((sl)) (p)) (x1) (p)) (x2) (p)), ((p)))), .agg (aggT (subR (x1) ((subR (subR (mulR ((sl)) ((sl)) (p)) (x1) (p)) (x2) (p))) p, p)), .agg (aggT (mulR ((sl)) (subR (x1) ((subR (subR (mulR ((sl)) ((sl)) (p)) (x1) (p)) (x2) (p))) p) (p), (p))), .iface 60 (.agg (aggT (mulR ((sl)) (subR (x1) ((subR (subR (mulR ((sl)) ((sl)) (p)) (x1) (p)) (x2) (p))) p) (p), (p)))), .pointer (some ⟨w.heap.size, 3, none⟩), .agg (aggT (y1, p)), .agg (aggT (subR (mulR ((sl)) (subR (x1) ((subR (subR (mulR ((sl)) ((sl)) (p)) (x1) (p)) (x2) (p))) p) (p)) (y1) (p), (p))), undef, undef, undef])), defers := [] } (by kernel_rfl) ?_
            exact ⟨rfl, g5, rfl, HG.out⟩
        · have GEg5 := Lib.hid HG.out.b.size
          have APg5 := Lib.hid HG.out.h.apart
          replace HG := Lib.hid (HG.out.new (aggT noP) 60)
          have HS := Lib.hid (HG.out.h.tail)
          refine sq_alloc (some 7) 60 (aggT noP) (by kernel_rfl) (by kernel_rfl) (by kernel_rfl) (by kernel_rfl) (zero_rc _) HS.out ?_
          generalize v501.alloc _ = u509 at *
          generalize v501.heap.size = g5 at *
          refine sq_done ?_
          refine m_mask (M' := 5759) (by kernel_rfl) ?_
          refine m_seq (f := 3) (infoS _) [(false, 7)] 5887 (tells_infoS _ _) (by kernel_rfl) (fun _ _ _ _ _ h => by cases h.1) (by kernel_rfl) (by kernel_rfl) (by kernel_rfl) HS.out ?_
          refine sq_ci (some 54) (meets_times _ _) (rc_times ((sl)) ((p)) (subR (x1) ((subR (subR (mulR ((sl)) ((sl)) (p)) (x1) (p)) (x2) (p))) p) (p) _) (by kernel_rfl) ?_
          rintro e v510 ⟨rfl, bw⟩
          replace HG := Lib.hid (HG.out.on bw)
          have HS := Lib.hid (HG.out.h.tail)
          clear bw
          refine ⟨_, rfl, HS.out, ?_⟩
          refine sq_done ?_
          refine m_mask (M' := 5887) (by kernel_rfl) ?_
          refine m_seq (f := 2) (infoS _) [(true, 8)] 6143 (tells_infoS _ _) (by kernel_rfl) (fun _ _ _ _ _ h => by cases h.1) (by kernel_rfl) (by kernel_rfl) (by kernel_rfl) HS.out ?_
          refine sq_ps [(8, .iface 60 (.agg (aggT (mulR ((sl)) (subR (x1) ((subR (subR (mulR ((sl)) ((sl)) (p)) (x1) (p)) (x2) (p))) p) (p), (p)))))] (by kernel_rfl) ?_
          refine sq_done ?_
          refine m_mask (M' := 6143) (by kernel_rfl) ?_
          refine m_seq (f := 1) (infoS _) [(false, 11)] 8191 (tells_infoS _ _) (by kernel_rfl) (fun _ _ _ _ _ h => by cases h.1) (by kernel_rfl) (by kernel_rfl) (by kernel_rfl) HS.out ?_
          refine sq_ci (some 58) (meets_less _ _) (rc_less (mulR ((sl)) (subR (x1) ((subR (subR (mulR ((sl)) ((sl)) (p)) (x1) (p)) (x2) (p))) p) (p)) ((p)) (y1) (p) _) (by kernel_rfl) ?_
          rintro e v511 ⟨rfl, bw⟩
          replace HG := Lib.hid (HG.out.on bw)
          have HS := Lib.hid (HG.out.h.tail)
          clear bw
          refine ⟨_, rfl, HS.out, ?_⟩
          refine sq_done ?_
          refine m_mask (M' := 8191) (by kernel_rfl) ?_
          refine m_seq (f := 0) (infoS _) [(false, 13)] 16383 (tells_infoS _ _) (by kernel_rfl) (fun _ _ _ _ _ h => by cases h.1) (by kernel_rfl) (by kernel_rfl) (by kernel_rfl) HS.out ?_
          have HN := Lib.hid (HG.out.h _ (.head _))
          replace HG := Lib.hid (HG.out.putAt GEg5.out APg5.out (aggT (subR (mulR ((sl)) (subR (x1) ((subR (subR (mulR ((sl)) ((sl)) (p)) (x1) (p)) (x2) (p))) p) (p)) (y1) (p), (p))))
          have HS := Lib.hid (HG.out.h.tail)
          refine sq_st 60 g5 (aggT (subR (mulR ((sl)) (subR (x1) ((subR (subR (mulR ((sl)) ((sl)) (p)) (x1) (p)) (x2) (p))) p) (p)) (y1) (p), (p))) HN.out Try.infoRC rfl (by kernel_rfl) HS.out (by kernel_rfl) ?_
          clear HN
          generalize World.setRow _ g5 _ = t512 at *
          refine sq_done ?_
          refine m_mask (M' := 16383) (by kernel_rfl) ?_
          refine m_done (infoS _) (tells_infoS _ _) (by kernel_rfl) { tmps := List.toArray (List.append [.agg (spC (false, x1, y1) p), .agg (spC (false, x2, y2) p), .pointer (some ⟨w.heap.size, 0, none⟩), .pointer (some ⟨(w.heap.size + 1), 0, none⟩), .pointer (some ⟨(w.heap.size + 1 + 1), 0, none⟩), .pointer (some ⟨g2, 0, none⟩), .pointer (some ⟨g4, 0, none⟩), .pointer (some ⟨g5, 0, none⟩), .bool false, .pointer (some ⟨w.heap.size, 0, none⟩), .bool false, undef, .bool false, .pointer (some ⟨(w.heap.size + 1), 0, none⟩), .bool false, undef, .bool false, .pointer (some ⟨w.heap.size, 1, none⟩), .agg (aggT (x1, p)), .pointer (some ⟨(w.heap.size + 1), 1, none⟩), .agg (aggT (x2, p)), j21, j22, j23, j24, j25, j26, j27, j28, j29, .bool false, undef, .agg (spC (false, x1, y1) p), .agg (spC (false, x2, y2) p), .agg (aggT (sl, p)), .agg (aggT ((sl), (p))), .iface 60 (.agg (aggT ((sl), (p)))), .agg (aggT ((sl), (p))), .agg (aggT (mulR ((sl)) ((sl)) (p), (p))), .iface 60 (.agg (aggT (mulR ((sl)) ((sl)) (p), (p))))] ([.pointer (some ⟨w.heap.size, 1, none⟩), .agg (aggT (x1, p)), .agg (aggT (subR (mulR ((sl)) ((sl)) (p)) (x1) (p), (p))), .iface 60 (.agg (aggT (subR (mulR ((sl)) ((sl)) (p)) (x1) (p), (p)))), .pointer (some ⟨(w.heap.size + 1), 1, none⟩), .agg (aggT (x2, p)), .agg (aggT (subR (subR (mulR ((sl)) ((sl)) (p)) (x1) (p)) (x2) (p), (p))), .agg (aggT ((sl), (p))), .iface 60 (.agg (aggT ((sl), (p)))), .pointer (some ⟨w.heap.size, 1, none⟩), .agg (aggT (x1, p)), .iface 60 (.agg (aggT (x1, p))), .agg (aggT ((subR (subR (mulR ((sl)) ((sl)) (p)) (x1) (p)) (x2) (p)), ((p)))), .agg (aggT (subR (x1) ((subR (subR (mulR ((sl)) ((sl)) (p)) (x1) (p)) (x2) (p))) p, p)), .agg (aggT (mulR ((sl)) (subR (x1) ((subR (subR (mulR ((sl)) ((sl)) (p)) (x1) (p)) (x2) (p))) p) (p), (p))), .iface 60 (.agg (aggT (mulR ((sl)) (subR (x1) ((subR (subR (mulR ((sl)) ((sl)) (p)) (x1) (p)) (x2) (p))) p) (p), (p)))), .pointer (some ⟨w.heap.size, 3, none⟩), .agg (aggT (y1, p)), .agg (aggT (subR (mulR ((sl)) (subR (x1) ((subR (subR (mulR ((sl)) ((sl)) (p)) (x1) (p)) (x2) (p))) p) (p)) (y1) (p), (p))), undef, undef, undef])), defers := [] } (by kernel_rfl) ?_
          exact ⟨rfl, g5, rfl, HG.out⟩
      · have GEg5 := Lib.hid HG.out.b.size
        have APg5 := Lib.hid HG.out.h.apart
        replace HG := Lib.hid (HG.out.new (aggT noP) 60)
        have HS := Lib.hid (HG.out.h.tail)
        refine sq_alloc (some 7) 60 (aggT noP) (by kernel_rfl) (by kernel_rfl) (by kernel_rfl) (by kernel_rfl) (zero_rc _) HS.out ?_
        generalize v500.alloc _ = u513 at *
        generalize v500.heap.size = g5 at *
        refine sq_done ?_
        refine m_mask (M' := 5695) (by kernel_rfl) ?_
        refine m_seq (f := 4) (infoS _) [(false, 6)] 5759 (tells_infoS _ _) (by kernel_rfl) (fun _ _ _ _ _ h => by cases h.1) (by kernel_rfl) (by kernel_rfl) (by kernel_rfl) HS.out ?_
        refine sq_ci (some 53) (meets_less _ _) (rc_less (x1) (p) ((subR (subR (mulR ((sl)) ((sl)) (p)) (x1) (p)) (x2) (p))) (((p))) _) (by kernel_rfl) ?_
        rintro e v514 ⟨rfl, bw⟩
        replace HG := Lib.hid (HG.out.on bw)
        have HS := Lib.hid (HG.out.h.tail)
        clear bw
        refine ⟨_, rfl, HS.out, ?_⟩
        refine sq_done ?_
        refine m_mask (M' := 5759) (by kernel_rfl) ?_
        refine m_seq (f := 3) (infoS _) [(false, 7)] 5887 (tells_infoS _ _) (by kernel_rfl) (fun _ _ _ _ _ h => by cases h.1) (by kernel_rfl) (by kernel_rfl) (by kernel_rfl) HS.out ?_
        refine sq_ci (some 54) (meets_times _ _) (rc_times ((sl)) ((p)) (subR (x1) ((subR (subR (mulR ((sl)) ((sl)) (p)) (x1) (p)) (x2) (p))) p) (p) _) (by kernel_rfl) ?_
        rintro e v515 ⟨rfl, bw⟩
        replace HG := Lib.hid (HG.out.on bw)
        have HS := Lib.hid (HG.out.h.tail)
        clear bw
        refine ⟨_, rfl, HS.out, ?_⟩
        refine sq_done ?_
        refine m_mask (M' := 5887) (by kernel_rfl) ?_
        refine m_seq (f := 2) (infoS _) [(true, 8)] 6143 (tells_infoS _ _) (by kernel_rfl) (fun _ _ _ _ _ h => by cases h.1) (by kernel_rfl) (by kernel_rfl) (by kernel_rfl) HS.out ?_
        refine sq_ps [(8, .iface 60 (.agg (aggT (mulR ((sl)) (subR (x1) ((subR (subR (mulR ((sl)) ((sl)) (p)) (x1) (p)) (x2) (p))) p) (p), (p)))))] (by kernel_rfl) ?_
        refine sq_done ?_
        refine m_mask (M' := 6143) (by kernel_rfl) ?_
        refine m_seq (f := 1) (infoS _) [(false, 11)] 8191 (tells_infoS _ _) (by kernel_rfl) (fun _ _ _ _ _ h => by cases h.1) (by kernel_rfl) (by kernel_rfl) (by kernel_rfl) HS.out ?_
        refine sq_ci (some 58) (meets_less _ _) (rc_less (mulR ((sl)) (subR (x1) ((subR (subR (mulR ((sl)) ((sl)) (p)) (x1) (p)) (x2) (p))) p) (p)) ((p)) (y1) (p) _) (by kernel_rfl) ?_
        rintro e v516 ⟨rfl, bw⟩
        replace HG := Lib.hid (HG.out.on bw)
        have HS := Lib.hid (HG.out.h.tail)
        clear bw
        refine ⟨_, rfl, HS.out, ?_⟩
        refine sq_done ?_
        refine m_mask (M' := 8191) (by kernel_rfl) ?_
        refine m_seq (f := 0) (infoS _) [(false, 13)] 16383 (tells_infoS _ _) (by kernel_rfl) (fun _ _ _ _ _ h => by cases h.1) (by kernel_rfl) (by kernel_rfl) (by kernel_rfl) HS.out ?_
        have HN := Lib.hid (HG.out.h _ (.head _))
        replace HG := Lib.hid (HG.out.putAt GEg5.out APg5.out (aggT (subR (mulR ((sl)) (subR (x1) ((subR (subR (mulR ((sl)) ((sl)) (p)) (x1) (p)) (x2) (p))) p) (p)) (y1) (p), (p))))
        have HS := Lib.hid (HG.out.h.tail)
        refine sq_st 60 g5 (aggT (subR (mulR ((sl)) (subR (x1) ((subR (subR (mulR ((sl)) ((sl)) (p)) (x1) (p)) (x2) (p))) p) (p)) (y1) (p), (p))) HN.out Try.infoRC rfl (by kernel_rfl) HS.out (by kernel_rfl) ?_
        clear HN
        generalize World.setRow _ g5 _ = t517 at *
        refine sq_done ?_
        refine m_mask (M' := 16383) (by kernel_rfl) ?_
        refine m_done (infoS _) (tells_infoS _ _) (by kernel_rfl) { tmps := List.toArray (List.append [.agg (spC (false, x1, y1) p), .agg (spC (false, x2, y2) p), .pointer (some ⟨w.heap.size, 0, none⟩), .pointer (some ⟨(w.heap.size + 1), 0, none⟩), .pointer (some ⟨(w.heap.size + 1 + 1), 0, none⟩), .pointer (some ⟨g2, 0, none⟩), .pointer (some ⟨g4, 0, none⟩), .pointer (some ⟨g5, 0, none⟩), .bool false, .pointer (some ⟨w.heap.size, 0, none⟩), .bool false, undef, .bool false, .pointer (some ⟨(w.heap.size + 1), 0, none⟩), .bool false, undef, .bool false, .pointer (some ⟨w.heap.size, 1, none⟩), .agg (aggT (x1, p)), .pointer (some ⟨(w.heap.size + 1), 1, none⟩), .agg (aggT (x2, p)), j21, j22, j23, j24, j25, j26, j27, j28, j29, .bool false, undef, .agg (spC (false, x1, y1) p), .agg (spC (false, x2, y2) p), .agg (aggT (sl, p)), .agg (aggT ((sl), (p))), .iface 60 (.agg (aggT ((sl), (p)))), .agg (aggT ((sl), (p))), .agg (aggT (mulR ((sl)) ((sl)) (p), (p))), .iface 60 (.agg (aggT (mulR ((sl)) ((sl)) (p), (p))))] ([.pointer (some ⟨w.heap.size, 1, none⟩), .agg (aggT (x1, p)), .agg (aggT (subR (mulR ((sl)) ((sl)) (p)) (x1) (p), (p))), .iface 60 (.agg (aggT (subR (mulR ((sl)) ((sl)) (p)) (x1) (p), (p)))), .pointer (some ⟨(w.heap.size + 1), 1, none⟩), .agg (aggT (x2, p)), .agg (aggT (subR (subR (mulR ((sl)) ((sl)) (p)) (x1) (p)) (x2) (p), (p))), .agg (aggT ((sl), (p))), .iface 60 (.agg (aggT ((sl), (p)))), .pointer (some ⟨w.heap.size, 1, none⟩), .agg (aggT (x1, p)), .iface 60 (.agg (aggT (x1, p))), .agg (aggT ((subR (subR (mulR ((sl)) ((sl)) (p)) (x1) (p)) (x2) (p)), ((p)))), .agg (aggT (subR (x1) ((subR (subR (mulR ((sl)) ((sl)) (p)) (x1) (p)) (x2) (p))) p, p)), .agg (aggT (mulR ((sl)) (subR (x1) ((subR (subR (mulR ((sl)) ((sl)) (p)) (x1) (p)) (x2) (p))) p) (p), (p))), .iface 60 (.agg (aggT (mulR ((sl)) (subR (x1) ((subR (subR (mulR ((sl)) ((sl)) (p)) (x1) (p)) (x2) (p))) p) (p), (p)))), .pointer (some ⟨w.heap.size, 3, none⟩), .agg (aggT (y1, p)), .agg (aggT (subR (mulR ((sl)) (subR (x1) ((subR (subR (mulR ((sl)) ((sl)) (p)) (x1) (p)) (x2) (p))) p) (p)) (y1) (p), (p))), undef, undef, undef])), defers := [] } (by kernel_rfl) ?_
        exact ⟨rfl, g5, rfl, HG.out⟩
    rintro e a t5 ⟨rfl, g5, rfl, hG⟩
    replace HG := Lib.hid hG
    clear hG
    refine (by assumption : ∀ (a : Act) (w_1 : World), Code.wp _ _ _ a w_1 → _) _ _ ?_
    go_upto_region 10 with (fail)
    replace HS := Lib.hid HG.out.h
    refine wp_region_line (S := fun w' => Held w' [(g5, aggT (subR (mulR ((sl)) (subR (x1) ((subR (subR (mulR ((sl)) ((sl)) (p)) (x1) (p)) (x2) (p))) p) (p)) (y1) (p), (p)), 60), (g4, aggT (subR (subR (mulR ((sl)) ((sl)) (p)) (x1) (p)) (x2) (p), (p)), 60), (g2, aggT (sl, p), 60), (w.heap.size + 1, spC (false, x2, y2) p, 62), (w.heap.size, spC (false, x1, y1) p, 62)]) [(true, 0), (true, 1), (true, 2), (false, 3)] (by kernel_rfl) (by kernel_rfl) HS.out ?_
    refine sq_ld (some 59) (ld_r (.tail _ (.head _)) (k := 0) rfl rfl) (by kernel_rfl) ?_
    refine sq_ld (some 60) (ld_r (.head _) (k := 0) rfl rfl) (by kernel_rfl) ?_
    refine sq_pure (some 61) (.agg (spC (false, (subR (subR (mulR ((sl)) ((sl)) (p)) (x1) (p)) (x2) (p)), (subR (mulR ((sl)) (subR (x1) ((subR (subR (mulR ((sl)) ((sl)) (p)) (x1) (p)) (x2) (p))) p) (p)) (y1) (p))) ((p)))) (by kernel_rfl) (by kernel_rfl) (held_build 62 #[(1, (.tmp 59)), (2, (.tmp 60))] (by kernel_rfl) _ (by kernel_rfl) _ (built_sp _ _ _)) ?_
    have HE := Lib.hid (HG.out.put hge (spC (false, (subR (subR (mulR ((sl)) ((sl)) (p)) (x1) (p)) (x2) (p)), (subR (mulR ((sl)) (subR (x1) ((subR (subR (mulR ((sl)) ((sl)) (p)) (x1) (p)) (x2) (p))) p) (p)) (y1) (p))) ((p))))
    refine sq_st 62 (w.heap.size + 1 + 1) (spC (false, (subR (subR (mulR ((sl)) ((sl)) (p)) (x1) (p)) (x2) (p)), (subR (mulR ((sl)) (subR (x1) ((subR (subR (mulR ((sl)) ((sl)) (p)) (x1) (p)) (x2) (p))) p) (p)) (y1) (p))) ((p))) HG.out.out Try.infoSP rfl (by kernel_rfl) ((HG.out.h).setRow (HG.out.ne)) (by kernel_rfl) ?_
    refine sq_done ?_
    refine (by assumption : ∀ (a : Act) (w_1 : World), Code.wp _ Code.ret _ a w_1 → _) _ _ ?_
    refine wp_ret ?_
    try refine block_ret ?_
    try refine then_ret ?_
    exact bodyPost_ret (results_cell_row Try.results36 _ _ (w.heap.size + 1 + 1) _ _ _ _ (by kernel_rfl) HE.out.out Try.underlying62 rfl Try.infoSP) (by kernel_rfl) ⟨⟨p, rfl⟩, HE.out.b⟩
theorem spot_plus (p : ByteArray) (a b : Tp) (w : World) : Calls Try.prog 36 #[.agg (spC a p), .agg (spC b p)] w (SumPost (plusT p a b) w) := by
  by_cases h : (a.1 || b.1) = true
  · exact spot_early p a b h w
  · obtain ⟨z1, x1, y1⟩ := a
    obtain ⟨z2, x2, y2⟩ := b
    cases z1 <;> cases z2 <;> first | exact spot_late p x1 y1 x2 y2 w | exact absurd rfl h
end Go.Proofs.Ytkmmlfocidfghaa
