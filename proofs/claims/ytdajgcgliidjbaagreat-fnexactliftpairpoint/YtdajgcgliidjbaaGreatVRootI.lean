import Derived.Test.YtdajgcgliidjbaaGreatVImpl
import Derived.Test.YtdajgcgliidjbaaGreatJRoots
import Derived.Test.YtdajgcgliidjbaaGreatJHalf
import Derived.Test.YtdajgcgliidjbaaGreatJPairF
import Derived.Test.YtdajgcgliidjbaaGreatVRootS
import Derived.LoopN
import Derived.Deep.DeepCutAuto
set_option maxRecDepth 8000
set_option maxHeartbeats 8000000
namespace Go.Proofs.YtdajgcgliidjbaaGreat
open Go.RowKit
theorem half_texts {x : Pt} {p : ByteArray} {r : Nat} (hx : pairB x p = true) (ho : gV p % 2 = 1) (hr : r < gV p) : addR x.1 (gS r) p = gS ((gV x.1 + r) % gV p) ∧ subR x.1 (gS r) p = gS ((gV x.1 + gV p - r) % gV p) ∧
  ∀ k, k < gV p → halfR (gS k) p = gS (halfN k (gV p)) := by
 obtain ⟨hm, h1, h2⟩ := pairB_parts hx
 obtain ⟨e1, l1⟩ := rest_num h1
 have a1 := add_gS hm l1 hr
 have a2 := sub_gS hm l1 hr
 rw [← e1] at a1 a2
 refine ⟨a1, a2, fun k hk => ?_⟩
 unfold halfR
 rw [if_pos, gV_gS]
 unfold halfB oneB
 rw [hm, rest_gS hm hk, decide_eq_true ho]; rfl
theorem root_texts {x : Pt} {p D : ByteArray} {r d : Nat} (hp : primeB p = true) (h4 : gV p % 4 = 3) (hx : pairB x p = true) (hr : r < gV p) (hrr : r * r % gV p = normP (gV p) (valP x)) (hd : d = halfN ((gV x.1 + r) % gV p) (gV p) ∨ d = halfN ((gV x.1 + gV p - r) % gV p) (gV p)) (hD : D = gS d) (hs : symG D p = 1) :
  ∃ s i : Nat, rootG D p = gS s ∧ addR (gS s) (gS s) p = gS ((s + s) % gV p) ∧ invR (gS ((s + s) % gV p)) p = gS i ∧ mulR x.2 (gS i) p = gS (gV x.2 * i % gV p) ∧ InP2 (gV p) (s, gV x.2 * i % gV p) ∧ mulP (gV p) (s, gV x.2 * i % gV p) (s, gV x.2 * i % gV p) = valP x := by
 obtain ⟨hm, h1, h2⟩ := pairB_parts hx
 obtain ⟨_, l1⟩ := rest_num h1
 obtain ⟨e2, l2⟩ := rest_num h2
 have pp := (primeB_p hp).2
 have h0 := mod_pos hm
 have hdl : d < gV p := by rcases hd with e | e <;> rw [e] <;> exact halfN_lt (Nat.mod_lt _ h0)
 have hsN : symN d (gV p) = 1 := by rw [hD, symG_num hp hdl] at hs; exact hs
 obtain ⟨s1, s2, _, _⟩ := rootN_spec pp hdl hsN
 obtain ⟨g1, i1, i2⟩ := twice_inv pp (sq_pos pp hsN s2)
 have ht : (rootN d (gV p) + rootN d (gV p)) % gV p < gV p := Nat.mod_lt _ h0
 have hrG : rootG D p = gS (rootN d (gV p)) := by unfold rootG; rw [if_pos hs, hD, gV_gS]
 have hiR : invR (gS ((rootN d (gV p) + rootN d (gV p)) % gV p)) p = gS (invN ((rootN d (gV p) + rootN d (gV p)) % gV p) (gV p)) := by
  unfold invR
  rw [if_pos, gV_gS]
  unfold invB oneB
  rw [hm, rest_gS hm ht, gV_gS, decide_eq_true g1]; rfl
 have hmR := mul_gS hm l2 i1
 rw [← e2] at hmR
 exact ⟨_, _, hrG, add_gS hm s1 s1, hiR, hmR, ⟨s1, Nat.mod_lt _ h0⟩, root_half h0 (by omega) l1 l2 hr hrr hd s2 i2⟩
theorem none_texts {x : Pt} {p : ByteArray} {r : Nat} (hp : primeB p = true) (h4 : gV p % 4 = 3) (hx : pairB x p = true) (hr : r < gV p) (hrr : r * r % gV p = normP (gV p) (valP x)) (k1 : symG (gS (halfN ((gV x.1 + r) % gV p) (gV p))) p ≠ 1) (k2 : symG (gS (halfN ((gV x.1 + gV p - r) % gV p) (gV p))) p ≠ 1) :
  ∃ s : Nat, rootG (negR x.1 p) p = gS s ∧ InP2 (gV p) (0, s) ∧ mulP (gV p) (0, s) (0, s) = valP x := by
 obtain ⟨hm, h1, h2⟩ := pairB_parts hx
 obtain ⟨e1, l1⟩ := rest_num h1
 obtain ⟨_, l2⟩ := rest_num h2
 have pp := (primeB_p hp).2
 have h0 := mod_pos hm
 rw [symG_num hp (halfN_lt (Nat.mod_lt _ h0))] at k1 k2
 obtain ⟨b0, sa⟩ := no_half pp h4 l1 l2 hr hrr k1 k2
 have hv : valP x = (gV x.1, 0) := by unfold valP; rw [b0]
 have hn : negR x.1 p = gS ((0 + gV p - gV x.1) % gV p) := by
  have := neg_gS hm l1
  rw [← e1] at this
  rw [this, Nat.zero_add]
 have hl : (0 + gV p - gV x.1) % gV p < gV p := Nat.mod_lt _ h0
 rw [hv, hn]
 unfold rootG
 rw [symG_num hp hl, gV_gS]
 rcases neg_root_of pp h4 l1 sa with ⟨e, ea⟩ | e
 ·refine ⟨0, ?_, ⟨h0, h0⟩, ?_⟩
  ·rw [e, if_neg (by decide), gS_zero]
  ·rw [ea]
   exact root_b h0 h0 (by rw [Nat.zero_mul, Nat.zero_mod, against_0])
 ·obtain ⟨s1, s2, _, _⟩ := rootN_spec pp hl e
  exact ⟨rootN ((0 + gV p - gV x.1) % gV p) (gV p), by rw [e, if_pos rfl], ⟨h0, s1⟩, root_b h0 l1 s2⟩
def idxI (k1 k2 : Int) : Int := if k1 = 1 then 0 else if k2 = 1 then 1 else -1
theorem cell_one {w : World} {g : Nat} {v : Value} {t : TypeId} (h : w.heap[g]? = some (.cells #[v] t (0, 0))) : w.cell? ⟨g, 0, none⟩ = some v := (cell_of_row w g 0 _ _ _ h).trans rfl
theorem cell_two {w : World} {g : Nat} {u v : Value} {t : TypeId} (h : w.heap[g]? = some (.cells #[u, v] t (0, 0))) : w.cell? ⟨g, 0, none⟩ = some u ∧ w.cell? ⟨g, 1, none⟩ = some v := ⟨(cell_of_row w g 0 _ _ _ h).trans rfl, (cell_of_row w g 1 _ _ _ h).trans rfl⟩
theorem Held.two {w : World} {a b c : Nat × Array Value × TypeId} (h : Held w [a, b, c]) : Held w [a, b] := fun q hq => by
 rcases List.mem_cons.1 hq with rfl | hq
 ·exact h _ (.head _)
 ·rcases List.mem_cons.1 hq with rfl | hq
  ·exact h _ (.tail _ (.head _))
  ·cases hq
theorem square_i (d p : ByteArray) {g : Nat} {w : World} (hg : w.heap[g]? = some (.cells #[.string p] 9 (0, 0))) : Calls Tryz.prog 122 #[.string d, .pointer (some ⟨g, 0, none⟩)] w fun e w' => e = .returned (.bool (decide (symG d p = 1))) ∧ Below w.heap.size w w' := by
 have c1 := cell_one hg
 have HS := Lib.hid (symbolOf_i d p)
 unfold SymPost at HS
 generalize symG d p = k at *
 clear hg
 go_enter Tryz.func122, Tryz.ntmps122
 go_wp2_with fail
 refine (HS.out _).mono ?_
 rintro e w1 ⟨rfl, b1⟩
 have HB := Lib.hid b1
 clear b1 c1 HS
 go_wp2
 go_ret
 exact ⟨rfl, HB.out⟩
theorem indexFunc_i (d1 d2 p : ByteArray) {gh gp : Nat} {w : World} (h : Held w [(gh, #[.string d1, .string d2], 9), (gp, #[.string p], 9)]) :
  Calls Tryz.prog 124 #[.slice (some ⟨gh, 0, none⟩) 2 2, .func (.func 122) #[] #[.pointer (some ⟨gp, 0, none⟩)]] w fun e w' => e = .returned (.int .i64 (idxI (symG d1 p) (symG d2 p))) ∧ Below w.heap.size w w' := by
 have HH := Lib.hid h
 have S1 := Lib.hid (square_i d1 p (h (gp, #[.string p], 9) (.tail _ (.head _))))
 have S2 : Hid (∀ w1 : World, Held w1 [(gh, #[.string d1, .string d2], 9), (gp, #[.string p], 9)] → Calls Tryz.prog 122 #[.string d2, .pointer (some ⟨gp, 0, none⟩)] w1 fun e w' => e = .returned (.bool (decide (symG d2 p = 1))) ∧ Below w1.heap.size w1 w') := fun w1 h1 => square_i d2 p (h1 (gp, #[.string p], 9) (.tail _ (.head _)))
 obtain ⟨c1, c2⟩ := cell_two (h (gh, #[.string d1, .string d2], 9) (.head _))
 unfold idxI
 clear h
 by_cases k1 : symG d1 p = 1
 ·rw [if_pos k1]
  rw [decide_eq_true k1] at S1
  clear k1 S2
  go_enter Tryz.func124, Tryz.ntmps124
  go_wp2
  refine wp_loop_rounds 3 ?_
  rw [rounds_succ]
  go_wp2_with fail
  refine S1.out.mono ?_
  rintro e w1 ⟨rfl, b1⟩
  go_wp2
  go_ret
  exact ⟨rfl, by assumption⟩
 rw [if_neg k1]
 rw [decide_eq_false k1] at S1
 clear k1
 have S3 := Lib.hid (S1.out.mono (R' := fun e w' => e = .returned (.bool false) ∧ Held w' [(gh, #[.string d1, .string d2], 9), (gp, #[.string p], 9)] ∧ w'.cell? ⟨gh, 1, none⟩ = some (.string d2) ∧ Below w.heap.size w w') (fun e w' ⟨he, hb⟩ => ⟨he, HH.out.on hb, (cell_two ((HH.out.on hb) (gh, #[.string d1, .string d2], 9) (.head _))).2, hb⟩))
 by_cases k2 : symG d2 p = 1
 ·rw [if_pos k2]
  rw [decide_eq_true k2] at S2
  clear k2 S1
  go_enter Tryz.func124, Tryz.ntmps124
  go_wp2
  refine wp_loop_rounds 3 ?_
  rw [rounds_succ]
  go_wp2_with fail
  refine S3.out.mono ?_
  rintro e w1 ⟨rfl, hh1, c3, b1⟩
  go_wp2
  rw [rounds_succ]
  have S4 := Lib.hid (S2.out _ (by assumption))
  go_wp2_with fail
  refine S4.out.mono ?_
  rintro e w2 ⟨rfl, b2⟩
  go_wp2
  go_ret
  exact ⟨rfl, bt (by assumption) (by assumption)⟩
 ·rw [if_neg k2]
  rw [decide_eq_false k2] at S2
  clear k2 S1
  go_enter Tryz.func124, Tryz.ntmps124
  go_wp2
  refine wp_loop_rounds 3 ?_
  rw [rounds_succ]
  go_wp2_with fail
  refine S3.out.mono ?_
  rintro e w1 ⟨rfl, hh1, c3, b1⟩
  go_wp2
  rw [rounds_succ]
  have S4 := Lib.hid (S2.out _ (by assumption))
  go_wp2_with fail
  refine S4.out.mono ?_
  rintro e w2 ⟨rfl, b2⟩
  go_wp2
  rw [rounds_succ]
  go_wp2
  go_ret
  exact ⟨rfl, bt (by assumption) (by assumption)⟩
theorem sq_slice2 {ops : Array Oper} {Q : Exit → Act → World → Prop} {S : World → Prop} {K : Act → World → Prop} {i : Nat} {r : List (Bool × Nat)} {a : Act} {w : World} (d : Option Tmp) (s u : ByteArray) (x y : Operand) (hd : (oAt ops i).dst = d) (hi : Nat.blt i ops.size = true) (hw : Region.wanted (oAt ops i) (yielded ops a.tmps) = true) (ho : (oAt ops i).op = .buildSlice 127 2 #[(0, x), (1, y)]) (hx : a.eval x = .string s) (hy : a.eval y = .string u) (hS : S (w.alloc (.cells #[.string s, .string u] 9)))
  (k : seqH Tryz.prog ops Q S K r (a.put d (.slice (some ⟨w.heap.size, 0, none⟩) 2 2)) (w.alloc (.cells #[.string s, .string u] 9))) : seqH Tryz.prog ops Q S K ((false, i) :: r) a w := by
 refine sq_op hi hw ?_
 have e : (execOp a.eval (oAt ops i)).run Tryz.prog w = .ok (.value (.slice (some ⟨w.heap.size, 0, none⟩) 2 2)) (w.alloc (.cells #[.string s, .string u] 9)) := by
  unfold execOp
  rw [ho]
  simp only [hx, hy, List.map_toArray, List.map_cons, List.map_nil]
  go_simp
 unfold Oper.wp
 rw [e, Oper.upon_value, hd]
 exact ⟨hS, k⟩
theorem build_w {ops : Array Oper} {rest : List Oper} {o : Oper} {a : Act} {w : World} {Q : Exit → Act → World → Prop} (hgd : o.guard = none) (t : TypeId) (parts : Array (Nat × Operand)) (ho : o.op = .build t parts) (ps : List (Nat × Value)) (hp : (parts.toList.map fun q => (q.1, a.eval q.2)) = ps) (C : Array Value) (hb : Tryz.prog.built t ps = some C) (k : wpList Tryz.prog ops Q rest (a.put o.dst (.agg C)) w) : wpList Tryz.prog ops Q (o :: rest) a w := by
 refine wpList_plain hgd fun K hK => ?_
 have e := held_build (P := Tryz.prog) t parts ho ps hp C hb w
 unfold Oper.wp
 rw [e, Oper.upon_value]
 exact hK _ _ k
def SomeRoot (x : Pn) (n : Nat) (w : World) (e : Ending) (w' : World) : Prop := ∃ y : Pn, e = .returned (.agg (aggT (txtP y))) ∧ InP2 n y ∧ mulP n y y = x ∧ Below w.heap.size w w'
theorem somePairRoot_i (x : Pt) (p : ByteArray) (r : Nat) (hp : primeB p = true) (h4 : gV p % 4 = 3) (hx : pairB x p = true) (hr : r < gV p) (hrr : r * r % gV p = normP (gV p) (valP x)) (w : World) : Calls Tryz.prog 77 #[.agg (aggT x), .string (gS r), .string p] w (SomeRoot (valP x) (gV p) w) := by
 have h0 := mod_pos (pairB_parts hx).1
 obtain ⟨e1, e2, e3⟩ := half_texts hx (show gV p % 2 = 1 by omega) hr
 have C1 := Lib.hid (addRest_i x.1 (gS r) p)
 have C3 := Lib.hid (subRest_i x.1 (gS r) p)
 rw [e1] at C1
 rw [e2] at C3
 have C2 := Lib.hid (halfRest_i (gS ((gV x.1 + r) % gV p)) p)
 have C4 := Lib.hid (halfRest_i (gS ((gV x.1 + gV p - r) % gV p)) p)
 rw [e3 _ (Nat.mod_lt _ h0)] at C2 C4
 have HR := Lib.hid (fun D d a b c => root_texts (x := x) (p := p) (D := D) (r := r) (d := d) hp h4 hx hr hrr a b c)
 have HNo := Lib.hid (fun a b => none_texts (x := x) (p := p) (r := r) hp h4 hx hr hrr a b)
 obtain ⟨d1, hd1⟩ : ∃ d, gS (halfN ((gV x.1 + r) % gV p) (gV p)) = d := ⟨_, rfl⟩
 obtain ⟨d2, hd2⟩ : ∃ d, gS (halfN ((gV x.1 + gV p - r) % gV p) (gV p)) = d := ⟨_, rfl⟩
 rw [hd1] at C2 HNo
 rw [hd2] at C4 HNo
 have HR1 := Lib.hid (HR.out d1 _ (.inl rfl) hd1.symm)
 have HR2 := Lib.hid (HR.out d2 _ (.inr rfl) hd2.symm)
 clear hd1 hd2 HR e1 e2 e3 h0 hp h4 hx hr hrr
 generalize gS ((gV x.1 + r) % gV p) = t1 at *
 generalize gS ((gV x.1 + gV p - r) % gV p) = t2 at *
 generalize gS r = rt at *
 generalize valP x = X at *
 have HG0 := Lib.hid (begun3 (Held.none w) (aggT x) #[.string p] #[.string ⟨#[]⟩, .string ⟨#[]⟩] 25 9 25).drew
 have HS0 := Lib.hid HG0.out.h
 have FA := Lib.hid (show ∀ w', Held w' [(w.heap.size + 1, #[.string p], 9), (w.heap.size, aggT x, 25)] → (Instr.loadAt 9 (.pointer (some ⟨w.heap.size, 0, none⟩))).run Tryz.prog w' = .ok (.string x.1) w' from fun w' hw => str_load (agg_cells (show _ = some (Obj.cells (aggT x) 25 (0, 0)) from hw (w.heap.size, (aggT x), 25) (.tail _ (.head _)))).1)
 have FP := Lib.hid (show ∀ w', Held w' [(w.heap.size + 1, #[.string p], 9), (w.heap.size, aggT x, 25)] → (Instr.loadAt 9 (.pointer (some ⟨w.heap.size + 1, 0, none⟩))).run Tryz.prog w' = .ok (.string p) w' from fun w' hw => str_load (cell_one (show _ = some (Obj.cells #[.string p] 9 (0, 0)) from hw (w.heap.size + 1, #[.string p], 9) (.head _))))
 go_enter Tryz.func77, Tryz.ntmps77
 go_wp2_with fail
 generalize ((w.alloc _).alloc _).alloc _ = w0 at *
 refine sq_gok (S := fun w' => Held w' [(w.heap.size + 1, #[.string p], 9), (w.heap.size, aggT x, 25)]) [(true, 0), (true, 1), (true, 2), (true, 3), (true, 5), (true, 7), (true, 8), (true, 9), (true, 10), (true, 12), (false, 4), (false, 6), (false, 11), (false, 13), (false, 14), (true, 15)] HS0.out ?_
 refine sq_psk [(0, .pointer (some ⟨w.heap.size, 0, none⟩))] ?_
 refine sq_ldk (some 17) FA.out ?_
 refine sq_psk [(2, .string rt)] ?_
 refine sq_ldk (some 19) FP.out ?_
 refine sq_ldk (some 21) FP.out ?_
 refine sq_psk [(7, .pointer (some ⟨w.heap.size, 0, none⟩))] ?_
 refine sq_ldk (some 24) FA.out ?_
 refine sq_psk [(9, .string rt)] ?_
 refine sq_ldk (some 26) FP.out ?_
 refine sq_ldk (some 28) FP.out ?_
 refine sq_ck (some 20) Tryz.func120 (C1.out _) ?_
 rintro e w1 ⟨rfl, bw1⟩
 have HG1 := Lib.hid (HG0.out.on bw1)
 have HS1 := Lib.hid HG1.out.h
 refine ⟨_, rfl, HS1.out, ?_⟩
 refine sq_ck (some 22) Tryz.func119 (C2.out _) ?_
 rintro e w2 ⟨rfl, bw2⟩
 have HG2 := Lib.hid (HG1.out.on bw2)
 have HS2 := Lib.hid HG2.out.h
 refine ⟨_, rfl, HS2.out, ?_⟩
 refine sq_ck (some 27) Tryz.func121 (C3.out _) ?_
 rintro e w3 ⟨rfl, bw3⟩
 have HG3 := Lib.hid (HG2.out.on bw3)
 have HS3 := Lib.hid HG3.out.h
 refine ⟨_, rfl, HS3.out, ?_⟩
 refine sq_ck (some 29) Tryz.func119 (C4.out _) ?_
 rintro e w4 ⟨rfl, bw4⟩
 have HG4 := Lib.hid (HG3.out.on bw4)
 have HS4 := Lib.hid HG4.out.h
 refine ⟨_, rfl, HS4.out, ?_⟩
 have HN := Lib.hid (HG4.out.new #[.string d1, .string d2] 9)
 refine sq_slice2 (some 30) d1 d2 (.tmp 22) (.tmp 29) (by kernel_rfl) (by kernel_rfl) (by kernel_rfl) (by kernel_rfl) (by kernel_rfl) (by kernel_rfl) HN.out.h.tail ?_
 refine sq_psk [(15, .slice (some ⟨w4.heap.size, 0, none⟩) 2 2)] ?_
 refine sq_fink { tmps := List.toArray (List.append [(.agg (aggT x)), (.string rt), (.string p), (.pointer (some ⟨w.heap.size, 0, none⟩)), undef, (.pointer (some ⟨(w.heap.size + 1), 0, none⟩)), (.pointer (some ⟨(w.heap.size + 1 + 1), 0, none⟩)), (.slice (some ⟨w4.heap.size, 0, none⟩) 2 2), undef, undef, undef, undef, undef, undef, undef, undef, (.pointer (some ⟨w.heap.size, 0, none⟩)), (.string x.1), (.string rt), (.string p), (.string t1), (.string p), (.string d1), (.pointer (some ⟨w.heap.size, 0, none⟩)), (.string x.1), (.string rt), (.string p), (.string t2), (.string p), (.string d2), (.slice (some ⟨w4.heap.size, 0, none⟩) 2 2), undef, undef, undef, undef, undef, undef, undef, undef, undef] [undef, undef, undef, undef, undef, undef, undef, undef, undef, undef, undef, undef, undef, undef, undef, undef, undef, undef, undef, undef, undef, undef, undef, undef, undef, undef, undef, undef, undef, undef, undef, undef, undef]), defers := [] } ?_
 refine ‹∀ a w, Code.wp _ _ _ a w → _› _ _ ?_
 have hge := HG4.out.b.size
 clear C1 C2 C3 C4 FA FP HS0 HG0 HG1 HS1 HG2 HS2 HG3 HS3 HG4 HS4
 generalize w4.alloc _ = wa at *
 generalize w4.heap.size = gh at *
 have HX := Lib.hid (indexFunc_i d1 d2 p (gh := gh) (gp := w.heap.size + 1) (w := wa) HN.out.h.two)
 have hmf : ∀ (fn : Fn) (first cap : Array Value) (w : World), (Instr.makeFunc fn first cap).run Tryz.prog w = .ok (.func fn first cap) w := fun _ _ _ _ => rfl
 go_wp2_with fail
 refine HX.out.mono ?_
 rintro e wb ⟨rfl, bb⟩
 have HG0 := Lib.hid (HN.out.on bb).drew
 have HS0 := Lib.hid HG0.out.h
 clear HX bb HN hmf
 have FA := Lib.hid (show ∀ w', Held w' [(gh, #[.string d1, .string d2], 9), (w.heap.size + 1, #[.string p], 9), (w.heap.size, aggT x, 25)] → (Instr.loadAt 9 (.pointer (some ⟨w.heap.size, 0, none⟩))).run Tryz.prog w' = .ok (.string x.1) w' from fun w' hw => str_load (agg_cells (show _ = some (Obj.cells (aggT x) 25 (0, 0)) from hw (w.heap.size, (aggT x), 25) (.tail _ (.tail _ (.head _))))).1)
 have FP := Lib.hid (show ∀ w', Held w' [(gh, #[.string d1, .string d2], 9), (w.heap.size + 1, #[.string p], 9), (w.heap.size, aggT x, 25)] → (Instr.loadAt 9 (.pointer (some ⟨w.heap.size + 1, 0, none⟩))).run Tryz.prog w' = .ok (.string p) w' from fun w' hw => str_load (cell_one (show _ = some (Obj.cells #[.string p] 9 (0, 0)) from hw (w.heap.size + 1, #[.string p], 9) (.tail _ (.head _)))))
 have FH1 := Lib.hid (show ∀ w', Held w' [(gh, #[.string d1, .string d2], 9), (w.heap.size + 1, #[.string p], 9), (w.heap.size, aggT x, 25)] → (Instr.loadAt 9 (.pointer (some ⟨gh, 0, none⟩))).run Tryz.prog w' = .ok (.string d1) w' from fun w' hw => str_load (cell_two (show _ = some (Obj.cells #[.string d1, .string d2] 9 (0, 0)) from hw (gh, #[.string d1, .string d2], 9) (.head _))).1)
 have FH2 := Lib.hid (show ∀ w', Held w' [(gh, #[.string d1, .string d2], 9), (w.heap.size + 1, #[.string p], 9), (w.heap.size, aggT x, 25)] → (Instr.loadAt 9 (.pointer (some ⟨gh, 1, none⟩))).run Tryz.prog w' = .ok (.string d2) w' from fun w' hw => str_load (cell_two (show _ = some (Obj.cells #[.string d1, .string d2] 9 (0, 0)) from hw (gh, #[.string d1, .string d2], 9) (.head _))).2)
 by_cases k1 : symG d1 p = 1
 ·have hix : idxI (symG d1 p) (symG d2 p) = 0 := by unfold idxI; rw [if_pos k1]
  rw [hix]
  obtain ⟨s, i, f1, f2, f3, f4, hin, hm⟩ := HR1.out k1
  have HI := Lib.hid (And.intro hin hm)
  have C5 := Lib.hid (rootOf_i d1 p)
  unfold RootPost at C5
  rw [f1] at C5
  have C6 := Lib.hid (addRest_i (gS s) (gS s) p)
  rw [f2] at C6
  have C7 := Lib.hid (inverseRest_i (gS ((s + s) % gV p)) p)
  unfold InvG at C7
  rw [f3] at C7
  have C8 := Lib.hid (mulRest_i x.2 (gS i) p)
  rw [f4] at C8
  clear hix k1 hin hm f1 f2 f3 f4 HNo HR1 HR2
  generalize rootB d1 p = rb at *
  generalize invB (gS ((s + s) % gV p)) p = ib at *
  generalize gS ((s + s) % gV p) = tt at *
  generalize gV x.2 * i % gV p = m at *
  obtain ⟨sb, hsb⟩ : ∃ t, gS s = t := ⟨_, rfl⟩
  obtain ⟨mb, hmb⟩ : ∃ t, gS m = t := ⟨_, rfl⟩
  have HSB := Lib.hid (And.intro hsb hmb)
  rw [hsb] at C5 C6
  rw [hmb] at C8
  clear hsb hmb
  generalize gS i = ii at *
  go_upto_region 7 with (fail)
  generalize wb = w0 at *
  refine sq_gok (S := fun w' => Held w' [(gh, #[.string d1, .string d2], 9), (w.heap.size + 1, #[.string p], 9), (w.heap.size, aggT x, 25)]) [(true, 0), (true, 1), (true, 2), (true, 3), (true, 4), (false, 5), (true, 6), (true, 7), (true, 8), (true, 9), (true, 10)] HS0.out ?_
  refine sq_psk [(0, .slice (some ⟨gh, 0, none⟩) 2 2), (1, .int .i64 0), (2, .pointer (some ⟨gh, 0, none⟩))] ?_
  refine sq_ldk (some 52) FH1.out ?_
  refine sq_ldk (some 53) FP.out ?_
  refine sq_ck (some 54) Tryz.func75 (C5.out _) ?_
  rintro e w1 ⟨rfl, bw1⟩
  have HG1 := Lib.hid (HG0.out.on bw1)
  have HS1 := Lib.hid HG1.out.h
  refine ⟨_, rfl, HS1.out, ?_⟩
  refine sq_psk [(6, .tuple #[.string sb, .bool rb]), (7, .string sb), (8, .bool rb), (9, .string sb), (10, .bool rb)] ?_
  refine sq_fink { tmps := List.toArray (List.append [(.agg (aggT x)), (.string rt), (.string p), (.pointer (some ⟨w.heap.size, 0, none⟩)), undef, (.pointer (some ⟨(w.heap.size + 1), 0, none⟩)), (.pointer (some ⟨(w.heap.size + 1 + 1), 0, none⟩)), (.slice (some ⟨gh, 0, none⟩) 2 2), (.func (.func 122) #[] #[.pointer (some ⟨(w.heap.size + 1), 0, none⟩)]), (.int .i64 0), undef, undef, (.string sb), (.bool rb), undef, undef, (.pointer (some ⟨w.heap.size, 0, none⟩)), (.string x.1), (.string rt), (.string p), (.string t1), (.string p), (.string d1), (.pointer (some ⟨w.heap.size, 0, none⟩)), (.string x.1), (.string rt), (.string p), (.string t2), (.string p), (.string d2), (.slice (some ⟨gh, 0, none⟩) 2 2), (.func (.func 122) #[] #[.pointer (some ⟨(w.heap.size + 1), 0, none⟩)]), (.slice (some ⟨gh, 0, none⟩) 2 2), (.func (.func 122) #[] #[.pointer (some ⟨(w.heap.size + 1), 0, none⟩)]), (.int .i64 0), (.int .i64 0), (.bool false), undef, undef, undef] [undef, undef, undef, undef, undef, undef, undef, undef, (.tuple #[.string sb, .bool rb]), (.slice (some ⟨gh, 0, none⟩) 2 2), (.int .i64 0), (.pointer (some ⟨gh, 0, none⟩)), (.string d1), (.string p), (.tuple #[.string sb, .bool rb]), (.string sb), (.bool rb), undef, undef, undef, undef, undef, undef, undef, undef, undef, undef, undef, undef, undef, undef, undef, undef]), defers := [] } ?_
  refine ‹∀ a w, Code.wp _ _ _ a w → _› _ _ ?_
  go_upto_region 8 with (fail)
  have HG2 := Lib.hid HG1.out.drew
  have HS2 := Lib.hid HG2.out.h
  clear HG0 HS0
  refine sq_gok (S := fun w' => Held w' [(gh, #[.string d1, .string d2], 9), (w.heap.size + 1, #[.string p], 9), (w.heap.size, aggT x, 25)]) [(true, 0), (true, 1), (true, 2), (true, 4), (false, 3), (false, 5), (true, 6), (true, 7), (true, 8), (true, 9), (true, 10)] HS2.out ?_
  change seqH _ _ _ _ _ _ _ w1.drew
  generalize w1.drew = w2 at *
  refine sq_psk [(0, .string sb), (1, .string sb)] ?_
  refine sq_ldk (some 60) FP.out ?_
  refine sq_ldk (some 62) FP.out ?_
  refine sq_ck (some 61) Tryz.func120 (C6.out _) ?_
  rintro e w3 ⟨rfl, bw3⟩
  have HG3 := Lib.hid (HG2.out.on bw3)
  have HS3 := Lib.hid HG3.out.h
  refine ⟨_, rfl, HS3.out, ?_⟩
  refine sq_ck (some 63) Tryz.func125 (C7.out _) ?_
  rintro e w4 ⟨rfl, bw4⟩
  have HG4 := Lib.hid (HG3.out.on bw4)
  have HS4 := Lib.hid HG4.out.h
  refine ⟨_, rfl, HS4.out, ?_⟩
  refine sq_psk [(6, .tuple #[.string ii, .bool ib]), (7, .string ii), (8, .bool ib), (9, .string ii), (10, .bool ib)] ?_
  refine sq_fink { tmps := List.toArray (List.append [(.agg (aggT x)), (.string rt), (.string p), (.pointer (some ⟨w.heap.size, 0, none⟩)), undef, (.pointer (some ⟨(w.heap.size + 1), 0, none⟩)), (.pointer (some ⟨(w.heap.size + 1 + 1), 0, none⟩)), (.slice (some ⟨gh, 0, none⟩) 2 2), (.func (.func 122) #[] #[.pointer (some ⟨(w.heap.size + 1), 0, none⟩)]), (.int .i64 0), undef, undef, (.string sb), (.bool rb), (.string ii), (.bool ib), (.pointer (some ⟨w.heap.size, 0, none⟩)), (.string x.1), (.string rt), (.string p), (.string t1), (.string p), (.string d1), (.pointer (some ⟨w.heap.size, 0, none⟩)), (.string x.1), (.string rt), (.string p), (.string t2), (.string p), (.string d2), (.slice (some ⟨gh, 0, none⟩) 2 2), (.func (.func 122) #[] #[.pointer (some ⟨(w.heap.size + 1), 0, none⟩)]), (.slice (some ⟨gh, 0, none⟩) 2 2), (.func (.func 122) #[] #[.pointer (some ⟨(w.heap.size + 1), 0, none⟩)]), (.int .i64 0), (.int .i64 0), (.bool false), undef, undef, undef] [undef, undef, undef, undef, undef, undef, undef, undef, (.tuple #[.string sb, .bool rb]), (.slice (some ⟨gh, 0, none⟩) 2 2), (.int .i64 0), (.pointer (some ⟨gh, 0, none⟩)), (.string d1), (.string p), (.tuple #[.string sb, .bool rb]), (.string sb), (.bool rb), (.tuple #[.string ii, .bool ib]), (.string sb), (.string sb), (.string p), (.string tt), (.string p), (.tuple #[.string ii, .bool ib]), (.string ii), (.bool ib), undef, undef, undef, undef, undef, undef, undef]), defers := [] } ?_
  refine ‹∀ a w, Code.wp _ _ _ a w → _› _ _ ?_
  obtain ⟨c1, c2⟩ := agg_cells (show _ = some (Obj.cells (aggT x) 25 (0, 0)) from HG4.out.h (w.heap.size, aggT x, 25) (.tail _ (.tail _ (.head _))))
  have c3 := cell_one (show _ = some (Obj.cells #[.string p] 9 (0, 0)) from HG4.out.h (w.heap.size + 1, #[.string p], 9) (.tail _ (.head _)))
  clear FA FP FH1 FH2
  go_wp2_with fail
  refine (C8.out _).mono ?_
  rintro e wc ⟨rfl, bc⟩
  have HGe := Lib.hid (HG4.out.on bc)
  have HE := Lib.hid (HGe.out.put (show w.heap.size ≤ w.heap.size + 1 + 1 by omega) (aggT (sb, mb)))
  clear bc c1 c2 c3
  go_wp2_with (first | refine store_p rfl (.tmp 6) (.tmp 72) rfl (w.heap.size + 1 + 1) _ (sb, mb) rfl rfl HGe.out.out rfl ?_)
  have hT : ((sb, mb) : Pt) = txtP (s, m) := by unfold txtP; rw [HSB.out.1, HSB.out.2]
  exact bodyPost_ret (results_cell_row Tryz.results77 _ _ (w.heap.size + 1 + 1) _ _ _ _ rfl HE.out.out Tryz.underlying25 rfl Tryz.infoP) rfl ⟨(s, m), congrArg (fun z => Ending.returned (.agg (aggT z))) hT, HI.out.1, HI.out.2, HE.out.b⟩
 by_cases k2 : symG d2 p = 1
 ·have hix : idxI (symG d1 p) (symG d2 p) = 1 := by unfold idxI; rw [if_neg k1, if_pos k2]
  rw [hix]
  obtain ⟨s, i, f1, f2, f3, f4, hin, hm⟩ := HR2.out k2
  have HI := Lib.hid (And.intro hin hm)
  have C5 := Lib.hid (rootOf_i d2 p)
  unfold RootPost at C5
  rw [f1] at C5
  have C6 := Lib.hid (addRest_i (gS s) (gS s) p)
  rw [f2] at C6
  have C7 := Lib.hid (inverseRest_i (gS ((s + s) % gV p)) p)
  unfold InvG at C7
  rw [f3] at C7
  have C8 := Lib.hid (mulRest_i x.2 (gS i) p)
  rw [f4] at C8
  clear hix k1 k2 hin hm f1 f2 f3 f4 HNo HR1 HR2
  generalize rootB d2 p = rb at *
  generalize invB (gS ((s + s) % gV p)) p = ib at *
  generalize gS ((s + s) % gV p) = tt at *
  generalize gV x.2 * i % gV p = m at *
  obtain ⟨sb, hsb⟩ : ∃ t, gS s = t := ⟨_, rfl⟩
  obtain ⟨mb, hmb⟩ : ∃ t, gS m = t := ⟨_, rfl⟩
  have HSB := Lib.hid (And.intro hsb hmb)
  rw [hsb] at C5 C6
  rw [hmb] at C8
  clear hsb hmb
  generalize gS i = ii at *
  go_upto_region 7 with (fail)
  generalize wb = w0 at *
  refine sq_gok (S := fun w' => Held w' [(gh, #[.string d1, .string d2], 9), (w.heap.size + 1, #[.string p], 9), (w.heap.size, aggT x, 25)]) [(true, 0), (true, 1), (true, 2), (true, 3), (true, 4), (false, 5), (true, 6), (true, 7), (true, 8), (true, 9), (true, 10)] HS0.out ?_
  refine sq_psk [(0, .slice (some ⟨gh, 0, none⟩) 2 2), (1, .int .i64 1), (2, .pointer (some ⟨gh, 1, none⟩))] ?_
  refine sq_ldk (some 52) FH2.out ?_
  refine sq_ldk (some 53) FP.out ?_
  refine sq_ck (some 54) Tryz.func75 (C5.out _) ?_
  rintro e w1 ⟨rfl, bw1⟩
  have HG1 := Lib.hid (HG0.out.on bw1)
  have HS1 := Lib.hid HG1.out.h
  refine ⟨_, rfl, HS1.out, ?_⟩
  refine sq_psk [(6, .tuple #[.string sb, .bool rb]), (7, .string sb), (8, .bool rb), (9, .string sb), (10, .bool rb)] ?_
  refine sq_fink { tmps := List.toArray (List.append [(.agg (aggT x)), (.string rt), (.string p), (.pointer (some ⟨w.heap.size, 0, none⟩)), undef, (.pointer (some ⟨(w.heap.size + 1), 0, none⟩)), (.pointer (some ⟨(w.heap.size + 1 + 1), 0, none⟩)), (.slice (some ⟨gh, 0, none⟩) 2 2), (.func (.func 122) #[] #[.pointer (some ⟨(w.heap.size + 1), 0, none⟩)]), (.int .i64 1), undef, undef, (.string sb), (.bool rb), undef, undef, (.pointer (some ⟨w.heap.size, 0, none⟩)), (.string x.1), (.string rt), (.string p), (.string t1), (.string p), (.string d1), (.pointer (some ⟨w.heap.size, 0, none⟩)), (.string x.1), (.string rt), (.string p), (.string t2), (.string p), (.string d2), (.slice (some ⟨gh, 0, none⟩) 2 2), (.func (.func 122) #[] #[.pointer (some ⟨(w.heap.size + 1), 0, none⟩)]), (.slice (some ⟨gh, 0, none⟩) 2 2), (.func (.func 122) #[] #[.pointer (some ⟨(w.heap.size + 1), 0, none⟩)]), (.int .i64 1), (.int .i64 1), (.bool false), undef, undef, undef] [undef, undef, undef, undef, undef, undef, undef, undef, (.tuple #[.string sb, .bool rb]), (.slice (some ⟨gh, 0, none⟩) 2 2), (.int .i64 1), (.pointer (some ⟨gh, 1, none⟩)), (.string d2), (.string p), (.tuple #[.string sb, .bool rb]), (.string sb), (.bool rb), undef, undef, undef, undef, undef, undef, undef, undef, undef, undef, undef, undef, undef, undef, undef, undef]), defers := [] } ?_
  refine ‹∀ a w, Code.wp _ _ _ a w → _› _ _ ?_
  go_upto_region 8 with (fail)
  have HG2 := Lib.hid HG1.out.drew
  have HS2 := Lib.hid HG2.out.h
  clear HG0 HS0
  refine sq_gok (S := fun w' => Held w' [(gh, #[.string d1, .string d2], 9), (w.heap.size + 1, #[.string p], 9), (w.heap.size, aggT x, 25)]) [(true, 0), (true, 1), (true, 2), (true, 4), (false, 3), (false, 5), (true, 6), (true, 7), (true, 8), (true, 9), (true, 10)] HS2.out ?_
  change seqH _ _ _ _ _ _ _ w1.drew
  generalize w1.drew = w2 at *
  refine sq_psk [(0, .string sb), (1, .string sb)] ?_
  refine sq_ldk (some 60) FP.out ?_
  refine sq_ldk (some 62) FP.out ?_
  refine sq_ck (some 61) Tryz.func120 (C6.out _) ?_
  rintro e w3 ⟨rfl, bw3⟩
  have HG3 := Lib.hid (HG2.out.on bw3)
  have HS3 := Lib.hid HG3.out.h
  refine ⟨_, rfl, HS3.out, ?_⟩
  refine sq_ck (some 63) Tryz.func125 (C7.out _) ?_
  rintro e w4 ⟨rfl, bw4⟩
  have HG4 := Lib.hid (HG3.out.on bw4)
  have HS4 := Lib.hid HG4.out.h
  refine ⟨_, rfl, HS4.out, ?_⟩
  refine sq_psk [(6, .tuple #[.string ii, .bool ib]), (7, .string ii), (8, .bool ib), (9, .string ii), (10, .bool ib)] ?_
  refine sq_fink { tmps := List.toArray (List.append [(.agg (aggT x)), (.string rt), (.string p), (.pointer (some ⟨w.heap.size, 0, none⟩)), undef, (.pointer (some ⟨(w.heap.size + 1), 0, none⟩)), (.pointer (some ⟨(w.heap.size + 1 + 1), 0, none⟩)), (.slice (some ⟨gh, 0, none⟩) 2 2), (.func (.func 122) #[] #[.pointer (some ⟨(w.heap.size + 1), 0, none⟩)]), (.int .i64 1), undef, undef, (.string sb), (.bool rb), (.string ii), (.bool ib), (.pointer (some ⟨w.heap.size, 0, none⟩)), (.string x.1), (.string rt), (.string p), (.string t1), (.string p), (.string d1), (.pointer (some ⟨w.heap.size, 0, none⟩)), (.string x.1), (.string rt), (.string p), (.string t2), (.string p), (.string d2), (.slice (some ⟨gh, 0, none⟩) 2 2), (.func (.func 122) #[] #[.pointer (some ⟨(w.heap.size + 1), 0, none⟩)]), (.slice (some ⟨gh, 0, none⟩) 2 2), (.func (.func 122) #[] #[.pointer (some ⟨(w.heap.size + 1), 0, none⟩)]), (.int .i64 1), (.int .i64 1), (.bool false), undef, undef, undef] [undef, undef, undef, undef, undef, undef, undef, undef, (.tuple #[.string sb, .bool rb]), (.slice (some ⟨gh, 0, none⟩) 2 2), (.int .i64 1), (.pointer (some ⟨gh, 1, none⟩)), (.string d2), (.string p), (.tuple #[.string sb, .bool rb]), (.string sb), (.bool rb), (.tuple #[.string ii, .bool ib]), (.string sb), (.string sb), (.string p), (.string tt), (.string p), (.tuple #[.string ii, .bool ib]), (.string ii), (.bool ib), undef, undef, undef, undef, undef, undef, undef]), defers := [] } ?_
  refine ‹∀ a w, Code.wp _ _ _ a w → _› _ _ ?_
  obtain ⟨c1, c2⟩ := agg_cells (show _ = some (Obj.cells (aggT x) 25 (0, 0)) from HG4.out.h (w.heap.size, aggT x, 25) (.tail _ (.tail _ (.head _))))
  have c3 := cell_one (show _ = some (Obj.cells #[.string p] 9 (0, 0)) from HG4.out.h (w.heap.size + 1, #[.string p], 9) (.tail _ (.head _)))
  clear FA FP FH1 FH2
  go_wp2_with fail
  refine (C8.out _).mono ?_
  rintro e wc ⟨rfl, bc⟩
  have HGe := Lib.hid (HG4.out.on bc)
  have HE := Lib.hid (HGe.out.put (show w.heap.size ≤ w.heap.size + 1 + 1 by omega) (aggT (sb, mb)))
  clear bc c1 c2 c3
  go_wp2_with (first | refine store_p rfl (.tmp 6) (.tmp 72) rfl (w.heap.size + 1 + 1) _ (sb, mb) rfl rfl HGe.out.out rfl ?_)
  have hT : ((sb, mb) : Pt) = txtP (s, m) := by unfold txtP; rw [HSB.out.1, HSB.out.2]
  exact bodyPost_ret (results_cell_row Tryz.results77 _ _ (w.heap.size + 1 + 1) _ _ _ _ rfl HE.out.out Tryz.underlying25 rfl Tryz.infoP) rfl ⟨(s, m), congrArg (fun z => Ending.returned (.agg (aggT z))) hT, HI.out.1, HI.out.2, HE.out.b⟩
 have hix : idxI (symG d1 p) (symG d2 p) = -1 := by unfold idxI; rw [if_neg k1, if_neg k2]
 rw [hix]
 obtain ⟨s, hs, hin, hm⟩ := HNo.out k1 k2
 have HI := Lib.hid (And.intro hin hm)
 have C5 := Lib.hid (negRest_i x.1 p)
 have C6 := Lib.hid (rootOf_i (negR x.1 p) p)
 unfold RootPost at C6
 rw [hs] at C6
 clear hix k1 k2 hin hm hs HNo HR1 HR2
 generalize rootB (negR x.1 p) p = rb at *
 generalize negR x.1 p = na at *
 obtain ⟨sb, hsb⟩ : ∃ t, gS s = t := ⟨_, rfl⟩
 have HSB := Lib.hid hsb
 rw [hsb] at C6
 clear hsb
 go_upto_region 5 with (fail)
 generalize wb = w0 at *
 refine sq_gok (S := fun w' => Held w' [(gh, #[.string d1, .string d2], 9), (w.heap.size + 1, #[.string p], 9), (w.heap.size, aggT x, 25)]) [(true, 0), (true, 1), (true, 2), (true, 4), (false, 3), (false, 5), (true, 6), (true, 7), (true, 8), (true, 9), (true, 10)] HS0.out ?_
 refine sq_psk [(0, .pointer (some ⟨w.heap.size, 0, none⟩))] ?_
 refine sq_ldk (some 39) FA.out ?_
 refine sq_ldk (some 40) FP.out ?_
 refine sq_ldk (some 42) FP.out ?_
 refine sq_ck (some 41) Tryz.func117 (C5.out _) ?_
 rintro e w1 ⟨rfl, bw1⟩
 have HG1 := Lib.hid (HG0.out.on bw1)
 have HS1 := Lib.hid HG1.out.h
 refine ⟨_, rfl, HS1.out, ?_⟩
 refine sq_ck (some 43) Tryz.func75 (C6.out _) ?_
 rintro e w2 ⟨rfl, bw2⟩
 have HG2 := Lib.hid (HG1.out.on bw2)
 have HS2 := Lib.hid HG2.out.h
 refine ⟨_, rfl, HS2.out, ?_⟩
 refine sq_psk [(6, .tuple #[.string sb, .bool rb]), (7, .string sb), (8, .bool rb), (9, .string sb), (10, .bool rb)] ?_
 refine sq_fink { tmps := List.toArray (List.append [(.agg (aggT x)), (.string rt), (.string p), (.pointer (some ⟨w.heap.size, 0, none⟩)), undef, (.pointer (some ⟨(w.heap.size + 1), 0, none⟩)), (.pointer (some ⟨(w.heap.size + 1 + 1), 0, none⟩)), (.slice (some ⟨gh, 0, none⟩) 2 2), (.func (.func 122) #[] #[.pointer (some ⟨(w.heap.size + 1), 0, none⟩)]), (.int .i64 (-1)), (.string sb), (.bool rb), undef, undef, undef, undef, (.pointer (some ⟨w.heap.size, 0, none⟩)), (.string x.1), (.string rt), (.string p), (.string t1), (.string p), (.string d1), (.pointer (some ⟨w.heap.size, 0, none⟩)), (.string x.1), (.string rt), (.string p), (.string t2), (.string p), (.string d2), (.slice (some ⟨gh, 0, none⟩) 2 2), (.func (.func 122) #[] #[.pointer (some ⟨(w.heap.size + 1), 0, none⟩)]), (.slice (some ⟨gh, 0, none⟩) 2 2), (.func (.func 122) #[] #[.pointer (some ⟨(w.heap.size + 1), 0, none⟩)]), (.int .i64 (-1)), (.int .i64 (-1)), (.bool true), (.tuple #[.string sb, .bool rb]), (.pointer (some ⟨w.heap.size, 0, none⟩)), (.string x.1)] [(.string p), (.string na), (.string p), (.tuple #[.string sb, .bool rb]), (.string sb), (.bool rb), undef, undef, undef, undef, undef, undef, undef, undef, undef, undef, undef, undef, undef, undef, undef, undef, undef, undef, undef, undef, undef, undef, undef, undef, undef, undef, undef]), defers := [] } ?_
 refine ‹∀ a w, Code.wp _ _ _ a w → _› _ _ ?_
 have HE := Lib.hid (HG2.out.put (show w.heap.size ≤ w.heap.size + 1 + 1 by omega) (aggT (⟨#[]⟩, sb)))
 go_wp2_with (first | refine build_w rfl 25 #[(1, .tmp 46)] rfl [(1, .string sb)] rfl (aggT (⟨#[]⟩, sb)) (built_pairB sb) ?_ | refine store_p rfl (.tmp 6) (.tmp 47) rfl (w.heap.size + 1 + 1) _ (⟨#[]⟩, sb) rfl rfl HG2.out.out rfl ?_)
 have hT : ((⟨#[]⟩, sb) : Pt) = txtP (0, s) := by unfold txtP; rw [gS_zero, HSB.out]
 exact bodyPost_ret (results_cell_row Tryz.results77 _ _ (w.heap.size + 1 + 1) _ _ _ _ rfl HE.out.out Tryz.underlying25 rfl Tryz.infoP) rfl ⟨(0, s), congrArg (fun z => Ending.returned (.agg (aggT z))) hT, HI.out.1, HI.out.2, HE.out.b⟩
theorem pairRoot_i (x : Pt) (p : ByteArray) (w : World) : Calls Tryz.prog 44 #[.agg (aggT x), .string p] w (PRootPost x p w) := by
 have HQ := Lib.hid (pairPrime_i p)
 have HP := Lib.hid (pairOk_i x p)
 have HG0 := Lib.hid (begun2 (Held.none w) (aggT x) #[.string ⟨#[]⟩, .string ⟨#[]⟩] 25 25)
 have HX0 := Lib.hid (show _ = some (Obj.cells (aggT x) 25 (0, 0)) from HG0.out.h _ (.head _))
 unfold PRootPost
 cases hq : pprimeB p with
 | false =>
  rw [hq] at HQ
  have hno : psqB x p = false := by unfold psqB; rw [hq]; rfl
  rw [show prootG x p = noP from by unfold prootG; rw [hno]; rfl, hno]
  clear hq hno HP
  go_enter Tryz.func44, Tryz.ntmps44
  go_wp2_with fail
  generalize (w.alloc _).alloc _ = w0 at *
  refine (HQ.out _).mono ?_
  rintro e w1 ⟨rfl, b1⟩
  have HG1 := Lib.hid (HG0.out.on b1)
  clear b1 HG0 HX0 HQ
  have HE := Lib.hid (HG1.out.put (show w.heap.size ≤ w.heap.size + 1 by omega) (aggT noP))
  go_wp2_with (first | refine store_p rfl (.tmp 4) (.tmp 18) rfl (w.heap.size + 1) _ noP rfl rfl HG1.out.out rfl ?_)
  exact bodyPost_ret (resP HE.out.out rfl Tryz.results44 _ rfl) rfl ⟨rfl, HE.out.b⟩
 | true =>
  rw [hq] at HQ
  cases hx : pairB x p with
  | false =>
   rw [hx] at HP
   have hno : psqB x p = false := by unfold psqB; rw [hx, Bool.false_and, Bool.and_false]
   rw [show prootG x p = noP from by unfold prootG; rw [hno]; rfl, hno]
   clear hq hx hno
   go_enter Tryz.func44, Tryz.ntmps44
   go_wp2_with fail
   generalize (w.alloc _).alloc _ = w0 at *
   refine (HQ.out _).mono ?_
   rintro e w1 ⟨rfl, b1⟩
   have HG1 := Lib.hid (HG0.out.on b1)
   obtain ⟨c1, c2⟩ := agg_cells (stays b1 HX0.out)
   clear b1 HG0 HX0 HQ
   go_wp2_with fail
   refine (HP.out _).mono ?_
   rintro e w2 ⟨rfl, b2⟩
   have HG2 := Lib.hid (HG1.out.on b2)
   clear b2 HG1 c1 c2 HP
   have HE := Lib.hid (HG2.out.put (show w.heap.size ≤ w.heap.size + 1 by omega) (aggT noP))
   go_wp2_with (first | refine store_p rfl (.tmp 4) (.tmp 18) rfl (w.heap.size + 1) _ noP rfl rfl HG2.out.out rfl ?_)
   exact bodyPost_ret (resP HE.out.out rfl Tryz.results44 _ rfl) rfl ⟨rfl, HE.out.b⟩
  | true =>
   rw [hx] at HP
   obtain ⟨hpr, pp, h4⟩ := pprime_parts hq
   obtain ⟨hsym, hrest⟩ := sym_norm hpr hx
   have hm := (pairB_parts hx).1
   have hnl := normP_lt (mod_pos hm) (valP x)
   have HO := Lib.hid (normOf_i x p)
   have HRT := Lib.hid (rootOf_i (normG x p) p)
   unfold RootPost at HRT
   have hrb : rootB (normG x p) p = psqB x p := by
    unfold rootB psqB sqN
    rw [hsym, hq, hx]
    rcases symN_three pp.prm pp.ge (normP (gV p) (valP x)) with e | e | e <;> rw [e] <;> rfl
   rw [hrb] at HRT
   cases hs : psqB x p with
   | false =>
    rw [hs] at HRT
    rw [show prootG x p = noP from by unfold prootG; rw [hs]; rfl]
    clear hq hx hpr pp h4 hsym hrest hm hnl hrb hs
    generalize rootG (normG x p) p = rt at *
    generalize normG x p = nt at *
    go_enter Tryz.func44, Tryz.ntmps44
    go_wp2_with fail
    generalize (w.alloc _).alloc _ = w0 at *
    refine (HQ.out _).mono ?_
    rintro e w1 ⟨rfl, b1⟩
    have HG1 := Lib.hid (HG0.out.on b1)
    have HX1 := Lib.hid (stays b1 HX0.out)
    obtain ⟨c1, c2⟩ := agg_cells HX1.out
    clear b1 HG0 HX0 HQ
    go_wp2_with fail
    refine (HP.out _).mono ?_
    rintro e w2 ⟨rfl, b2⟩
    have HG2 := Lib.hid (HG1.out.on b2)
    have HX2 := Lib.hid (stays b2 HX1.out)
    clear b2 HG1 HX1 HP c1 c2
    go_wp2_with (first | refine load_p rfl (.tmp 2) rfl w.heap.size x rfl HX2.out ?_)
    refine (HO.out _).mono ?_
    rintro e w3 ⟨rfl, b3⟩
    have HG3 := Lib.hid (HG2.out.on b3)
    have HX3 := Lib.hid (stays b3 HX2.out)
    clear b3 HG2 HX2 HO
    go_wp2_with fail
    refine (HRT.out _).mono ?_
    rintro e w4 ⟨rfl, b4⟩
    have HG4 := Lib.hid (HG3.out.on b4)
    have HX4 := Lib.hid (stays b4 HX3.out)
    clear b4 HG3 HX3 HRT
    have HE := Lib.hid (HG4.out.put (show w.heap.size ≤ w.heap.size + 1 by omega) (aggT noP))
    go_wp2_with (first | refine store_p rfl (.tmp 4) (.tmp 29) rfl (w.heap.size + 1) _ noP rfl rfl HG4.out.out rfl ?_)
    exact bodyPost_ret (resP HE.out.out rfl Tryz.results44 _ rfl) rfl ⟨rfl, HE.out.b⟩
   | true =>
    rw [hs] at HRT
    have hsn : 0 ≤ symN (normP (gV p) (valP x)) (gV p) := (valP_out hs).2.2
    obtain ⟨r, hrG, hrl, hrr⟩ : ∃ r, rootG (normG x p) p = gS r ∧ r < gV p ∧ r * r % gV p = normP (gV p) (valP x) := by
     unfold rootG
     rw [hsym]
     have hng : gV (normG x p) = normP (gV p) (valP x) := by unfold normG; rw [if_pos hx, gV_gS]
     rw [hng]
     rcases symN_three pp.prm pp.ge (normP (gV p) (valP x)) with e | e | e
     ·rw [e] at hsn; exact absurd hsn (by decide)
     ·have h0 := Nat.eq_zero_of_dvd_of_lt ((symN_zero pp.prm pp.ge).1 e) hnl
      exact ⟨0, by rw [e, if_neg (by decide), gS_zero], mod_pos hm, by rw [h0, Nat.zero_mul, Nat.zero_mod]⟩
     ·obtain ⟨s1, s2, _, _⟩ := rootN_spec pp hnl e
      exact ⟨_, by rw [e, if_pos rfl], s1, s2⟩
    rw [hrG] at HRT
    have HSR := Lib.hid (somePairRoot_i x p r hpr h4 hx hrl hrr)
    unfold SomeRoot at HSR
    have HPR : Hid (∀ y : Pn, InP2 (gV p) y → mulP (gV p) y y = valP x → prootG x p = (if gtP (gV p) y then negPG (txtP y) p else txtP y)) := fun y a b => proot_of hs a b
    have HGT : Hid (∀ y : Pn, InP2 (gV p) y → pgtB (txtP y) p = gtP (gV p) y) := fun y a => pgt_txt hm a
    have HPG := Lib.hid (fun y => pairGreater_i y p)
    have HNG := Lib.hid (fun y => negPair_i y p)
    clear hq hx hpr pp h4 hsym hrest hm hnl hrb hs hsn hrG hrl hrr
    generalize gS r = rt at *
    generalize normG x p = nt at *
    generalize valP x = X at *
    generalize gV p = n at *
    generalize prootG x p = R at *
    go_enter Tryz.func44, Tryz.ntmps44
    go_wp2_with fail
    generalize (w.alloc _).alloc _ = w0 at *
    refine (HQ.out _).mono ?_
    rintro e w1 ⟨rfl, b1⟩
    have HG1 := Lib.hid (HG0.out.on b1)
    have HX1 := Lib.hid (stays b1 HX0.out)
    obtain ⟨c1, c2⟩ := agg_cells HX1.out
    clear b1 HG0 HX0 HQ
    go_wp2_with fail
    refine (HP.out _).mono ?_
    rintro e w2 ⟨rfl, b2⟩
    have HG2 := Lib.hid (HG1.out.on b2)
    have HX2 := Lib.hid (stays b2 HX1.out)
    clear b2 HG1 HX1 HP c1 c2
    go_wp2_with (first | refine load_p rfl (.tmp 2) rfl w.heap.size x rfl HX2.out ?_)
    refine (HO.out _).mono ?_
    rintro e w3 ⟨rfl, b3⟩
    have HG3 := Lib.hid (HG2.out.on b3)
    have HX3 := Lib.hid (stays b3 HX2.out)
    clear b3 HG2 HX2 HO
    go_wp2_with fail
    refine (HRT.out _).mono ?_
    rintro e w4 ⟨rfl, b4⟩
    have HG4 := Lib.hid (HG3.out.on b4)
    have HX4 := Lib.hid (stays b4 HX3.out)
    clear b4 HG3 HX3 HRT
    go_wp2_with (first | refine load_p rfl (.tmp 2) rfl w.heap.size x rfl HX4.out ?_)
    refine (HSR.out _).mono ?_
    rintro e w5 ⟨Y, rfl, hin, hmm, b5⟩
    have HG5 := Lib.hid ((HG4.out.on b5).bare)
    have hge := HG5.out.b.size
    have HW5 := Lib.hid (HG5.out.new #[.string ⟨#[]⟩, .string ⟨#[]⟩] 25)
    have HN5 := Lib.hid (HW5.out.h _ (.head _))
    have HG6 := Lib.hid (HW5.out.putAt hge (fun q h => by cases h) (aggT (txtP Y)))
    have HX6 := Lib.hid (show _ = some (Obj.cells (aggT (txtP Y)) 25 (0, 0)) from HG6.out.h _ (.head _))
    have EQ := Lib.hid (HPR.out Y hin hmm)
    have EG := Lib.hid (HGT.out Y hin)
    clear b5 HG4 HX4 HSR HG5 HW5 hin hmm HPR HGT
    have HPY := Lib.hid (HPG.out (txtP Y))
    have HNY := Lib.hid (HNG.out (txtP Y))
    rw [EG.out] at HPY
    clear HPG HNG EG
    generalize gtP n Y = gg at *
    generalize txtP Y = T at *
    generalize negPG T p = N at *
    go_wp2_with (first | refine store_p rfl (.tmp 8) (.tmp 33) rfl w5.heap.size _ T rfl rfl HN5.out rfl ?_ | refine load_p rfl (.tmp 8) rfl w5.heap.size T rfl HX6.out ?_)
    generalize (w5.alloc _).setRow _ _ = w6 at *
    clear HN5
    generalize w5.heap.size = g5 at *
    cases gg with
    | true =>
     obtain rfl : R = N := EQ.out.trans (if_pos rfl)
     refine (HPY.out _).mono ?_
     rintro e w7 ⟨rfl, b7⟩
     have HG7 := Lib.hid (HG6.out.on b7)
     have HX7 := Lib.hid (show _ = some (Obj.cells (aggT T) 25 (0, 0)) from HG7.out.h _ (.head _))
     clear b7 HG6 HX6 HPY
     go_wp2_with (first | refine load_p rfl (.tmp 8) rfl g5 T rfl HX7.out ?_)
     refine (HNY.out _).mono ?_
     rintro e w8 ⟨rfl, b8⟩
     have HG8 := Lib.hid (HG7.out.on b8)
     have HE := Lib.hid (HG8.out.put (show w.heap.size ≤ w.heap.size + 1 by omega) (aggT R))
     clear b8 HG7 HX7 HNY
     go_wp2_with (first | refine store_p rfl (.tmp 4) (.tmp 39) rfl (w.heap.size + 1) _ R rfl rfl HG8.out.out rfl ?_)
     exact bodyPost_ret (resP HE.out.out rfl Tryz.results44 _ rfl) rfl ⟨rfl, HE.out.b⟩
    | false =>
     obtain rfl : R = T := EQ.out.trans (if_neg (by decide))
     refine (HPY.out _).mono ?_
     rintro e w7 ⟨rfl, b7⟩
     have HG7 := Lib.hid (HG6.out.on b7)
     have HX7 := Lib.hid (show _ = some (Obj.cells (aggT R) 25 (0, 0)) from HG7.out.h _ (.head _))
     have HE := Lib.hid (HG7.out.put (show w.heap.size ≤ w.heap.size + 1 by omega) (aggT R))
     clear b7 HG6 HX6 HPY
     go_wp2_with (first | refine load_p rfl (.tmp 8) rfl g5 R rfl HX7.out ?_ | refine store_p rfl (.tmp 4) (.tmp 40) rfl (w.heap.size + 1) _ R rfl rfl HG7.out.out rfl ?_)
     exact bodyPost_ret (resP HE.out.out rfl Tryz.results44 _ rfl) rfl ⟨rfl, HE.out.b⟩
end Go.Proofs.YtdajgcgliidjbaaGreat
