import Derived.Test.YtejmogdognenmaaGreatVRootI
import Derived.Test.YtejmogdognenmaaGreatVDraw
import Derived.Test.YtejmogdognenmaaGreatSeqP
import Derived.Deep.DeepCutAuto
namespace Go.Proofs.YtejmogdognenmaaGreat
open Go.RowKit
theorem gt_seven : pgtB (⟨#[]⟩, ⟨#[5]⟩) ⟨#[7]⟩ = true := by decide +kernel
theorem yields_neqS {ops : Array Oper} {S : World → Prop} {o : Oper} {a : Act} (hw : Region.wanted o (yielded ops a.tmps) = true) (x y : Operand) (ho : o.op = .binOp .neq 25 x y 25) (z : Pt)
    (hx : a.eval x = .agg #[.string z.1, .string z.2]) (hy : a.eval y = .agg #[.string z.1, .string z.2]) : YieldsIf Tryz.prog ops S o (.bool false) a := by
  refine .inl ⟨hw, fun w _ => ?_⟩
  unfold execOp
  simp only [ho, hx, hy]
  go_simp
theorem none_of {s : ByteArray} (h : s.toList = []) : s = ⟨#[]⟩ := by
  rw [ByteArray.toList_eq] at h
  exact ByteArray.ext (Array.toList_eq_nil_iff.1 h)
theorem yields_eqF {ops : Array Oper} {S : World → Prop} {o : Oper} {a : Act} (hw : Region.wanted o (yielded ops a.tmps) = true) (x y : Operand) (ho : o.op = .binOp .eql 25 x y 25) (z : Pt) (hz : z ≠ noP)
    (hx : a.eval x = .agg #[.string z.1, .string z.2]) (hy : a.eval y = .agg #[.string ⟨#[]⟩, .string ⟨#[]⟩]) : YieldsIf Tryz.prog ops S o (.bool false) a := by
  refine .inl ⟨hw, fun w _ => ?_⟩
  have hz' : ¬ (z.1 = ⟨#[]⟩ ∧ z.2 = ⟨#[]⟩) := fun h => hz (Prod.ext h.1 h.2)
  unfold execOp
  simp only [ho, hx, hy]
  by_cases h1 : z.1 = ⟨#[]⟩
  · have h2 : z.2 ≠ ⟨#[]⟩ := fun h => hz' ⟨h1, h⟩
    go_simp
    exact fun h => h2 (none_of h)
  · go_simp
    exact fun h => absurd (none_of h) h1
theorem yields_neB {ops : Array Oper} {S : World → Prop} {o : Oper} {a : Act} (hw : Region.wanted o (yielded ops a.tmps) = true) (x y : Operand) (ho : o.op = .binOp .neq 4 x y 4) (b : Bool) (hx : a.eval x = .bool b) (hy : a.eval y = .bool b) : YieldsIf Tryz.prog ops S o (.bool false) a := by
  refine .inl ⟨hw, fun w _ => ?_⟩
  unfold execOp
  simp only [ho, hx, hy]
  cases b <;> go_simp
/-- A square has a root. -/
theorem root_exists {x : Pt} {p : ByteArray} (h : psqB x p = true) : ∃ y : Pn, InP2 (gV p) y ∧ mulP (gV p) y y = valP x := by
  obtain ⟨hq, hx, hsn⟩ := valP_out h
  obtain ⟨hp, pp, h4⟩ := pprime_parts hq
  have hm := (pairB_parts hx).1
  have hnl := normP_lt (mod_pos hm) (valP x)
  obtain ⟨r, hr, hrr⟩ : ∃ r, r < gV p ∧ r * r % gV p = normP (gV p) (valP x) := by
    rcases symN_three pp.prm pp.ge (normP (gV p) (valP x)) with e | e | e
    · rw [e] at hsn; exact absurd hsn (by decide)
    · have h0 := Nat.eq_zero_of_dvd_of_lt ((symN_zero pp.prm pp.ge).1 e) hnl
      exact ⟨0, mod_pos hm, by rw [h0, Nat.zero_mul, Nat.zero_mod]⟩
    · obtain ⟨s1, s2, _, _⟩ := rootN_spec pp hnl e
      exact ⟨_, s1, s2⟩
  by_cases k1 : symG (gS (halfN ((gV x.1 + r) % gV p) (gV p))) p = 1
  · obtain ⟨s, i, _, _, _, _, hin, hmm⟩ := root_texts hp h4 hx hr hrr (.inl rfl) rfl k1
    exact ⟨_, hin, hmm⟩
  by_cases k2 : symG (gS (halfN ((gV x.1 + gV p - r) % gV p) (gV p))) p = 1
  · obtain ⟨s, i, _, _, _, _, hin, hmm⟩ := root_texts hp h4 hx hr hrr (.inr rfl) rfl k2
    exact ⟨_, hin, hmm⟩
  · obtain ⟨s, _, hin, hmm⟩ := none_texts hp h4 hx hr hrr k1 k2
    exact ⟨_, hin, hmm⟩
theorem proot_laws {x : Pt} {p : ByteArray} (h : psqB x p = true) : mulPG (prootG x p) (prootG x p) p = x ∧ pgtB (prootG x p) p = false ∧ (prootG x p ≠ noP → pgtB (negPG (prootG x p) p) p = true) ∧ mulPG (negPG (prootG x p) p) (negPG (prootG x p) p) p = x := by
  obtain ⟨hq, hx, _⟩ := valP_out h
  obtain ⟨_, pp, h4⟩ := pprime_parts hq
  have hm := (pairB_parts hx).1
  have h0 := mod_pos hm
  obtain ⟨y0, hin, hmm⟩ := root_exists h
  have hg := good_of pp h4 hin hmm
  rw [← rootP_of pp h4 hin hmm] at hg
  have hR : prootG x p = txtP (rootP (gV p) (valP x)) := by unfold prootG; rw [if_pos h]
  rw [hR]
  generalize rootP (gV p) (valP x) = y at *
  have ex := (pair_num hx).2
  have e1 : txtP (mulP (gV p) y y) = x := by rw [hg.m]; exact ex.symm
  refine ⟨by rw [mul_txt hm hg.i hg.i, e1], by rw [pgt_txt hm hg.i, hg.g], fun hne => ?_, ?_⟩
  · have hy0 : y ≠ (0, 0) := fun e => hne (by rw [e, noP_txt])
    rw [neg_txt hm hg.i, pgt_txt hm (negP_in h0 y), gtP_neg (by omega) hg.i hy0, hg.g]; rfl
  · rw [neg_txt hm hg.i, mul_txt hm (negP_in h0 y) (negP_in h0 y), neg_mulP h0 hg.i, e1]
set_option maxRecDepth 8000 in
set_option maxHeartbeats 8000000 in
theorem roots8_walk (a0 : Option Addr) (len0 cap0 : Nat) (z0 : List Int) (w : World) (w0 : IsRow .u8 w a0 len0 cap0 z0) :
    Calls Tryz.prog 3 #[.slice a0 len0 cap0] w (Yes w) := by
  have hlen : len0 ≤ maxLen := by rcases w0 with ⟨_, rfl, _⟩ | ⟨_, _, h1, h2, _⟩ <;> unfold maxLen at * <;> omega
  have HBig := Lib.hid (big_g a0 len0 cap0 w hlen)
  by_cases h1 : 1048576 < len0
  · have hd : decide ((1048576 : Int) < (len0 : Int)) = true := by simp; omega
    clear w0 hlen
    go_enter Tryz.func3, Tryz.ntmps3
    go_wp2_with fail
    refine HBig.out.mono ?_
    rintro e w' ⟨rfl, rfl⟩
    go_wp2
    go_ret
    exact ⟨rfl, Below.refl _ _⟩
  have hd : decide ((1048576 : Int) < (len0 : Int)) = false := by simp; omega
  have hdr := w0.draw (by omega)
  have HD := Lib.hid (drawPairRoot_c a0 len0 cap0 w hdr)
  clear w0 hlen h1 hdr
  go_enter Tryz.func3, Tryz.ntmps3
  go_wp2_with fail
  refine HBig.out.mono ?_
  rintro e w' ⟨rfl, rfl⟩
  go_wp2_with fail
  refine HD.out.mono ?_
  rintro e w1 ⟨x, p, rfl, b1⟩
  have HG1 := Lib.hid (Stand.mk (Held.none w1) b1)
  have HN1 := Lib.hid (heap_alloc_new w1 (.cells #[.string ⟨#[]⟩, .string ⟨#[]⟩] 25))
  have HQ1 := Lib.hid ((HG1.out.new #[.string ⟨#[]⟩, .string ⟨#[]⟩] 25).putAt HG1.out.b.size HG1.out.h.apart (aggT x))
  clear b1 HBig HD
  have HI := Lib.hid (pairRoot_i x p)
  have HJ := Lib.hid (pairRoot_any x p)
  unfold PRootPost at HI HJ
  have HLa := Lib.hid (fun h => proot_laws (x := x) (p := p) h)
  have HNo := Lib.hid (show psqB x p = false → prootG x p = noP from fun h => by unfold prootG; rw [h]; rfl)
  have CSq := Lib.hid (pairSquare_i x p)
  have CPi := Lib.hid (pairPrime_i p)
  have CPs := Lib.hid (pairPrime_any p)
  have C7 := Lib.hid (pairGreater_i (⟨#[]⟩, ⟨#[5]⟩) ⟨#[7]⟩)
  rw [gt_seven] at C7
  generalize pprimeB p = pr at *
  have CNg := Lib.hid (negPair_i (prootG x p) p)
  have CM := Lib.hid (mulPair_i (prootG x p) (prootG x p) p)
  have CG := Lib.hid (pairGreater_i (prootG x p) p)
  have CM2 := Lib.hid (mulPair_i (negPG (prootG x p) p) (negPG (prootG x p) p) p)
  have CG2 := Lib.hid (pairGreater_i (negPG (prootG x p) p) p)
  obtain ⟨R, hR⟩ : ∃ y, prootG x p = y := ⟨_, rfl⟩
  rw [hR] at HI HJ HLa HNo CNg CM CG CM2 CG2
  clear hR
  obtain ⟨N, hN⟩ : ∃ y, negPG R p = y := ⟨_, rfl⟩
  rw [hN] at HLa CNg CM2 CG2
  clear hN
  cases hok : psqB x p with
  | true =>
    rw [hok] at HI HJ CSq HLa HNo
    clear hok
    obtain ⟨m1, m2, m3, m4⟩ := HLa.out rfl
    rw [m1] at CM
    rw [m2] at CG
    rw [m4] at CM2
    have HG2 := Lib.hid m3
    clear m1 m2 m3 m4 HLa HNo
    go_wp2_with (first | refine store_p rfl (.tmp 3) (.tmp 15) rfl w1.heap.size _ x rfl rfl HN1.out rfl ?_ | refine load_p rfl (.tmp 3) rfl w1.heap.size x rfl (HQ1.out.h _ (.head _)) ?_)
    generalize (w1.alloc (.cells #[.string ⟨#[]⟩, .string ⟨#[]⟩] 25)).setRow w1.heap.size (aggT x) = w2 at *
    generalize w1.heap.size = gx at *
    refine (HI.out _).mono ?_
    rintro e w3 ⟨rfl, b3⟩
    have HG3 := Lib.hid (HQ1.out.on b3)
    clear b3 HG1 HN1 HQ1 HI
    have HN3 := Lib.hid (heap_alloc_new w3 (.cells #[.string ⟨#[]⟩, .string ⟨#[]⟩] 25))
    have HQ3 := Lib.hid ((HG3.out.new #[.string ⟨#[]⟩, .string ⟨#[]⟩] 25).putAt HG3.out.b.size HG3.out.h.apart (aggT R))
    have HX3 := Lib.hid (HQ3.out.h _ (.tail _ (.head _)))
    go_wp2_with (first | refine store_p rfl (.tmp 5) (.tmp 21) rfl w3.heap.size _ R rfl rfl HN3.out rfl ?_ | refine load_p rfl (.tmp 3) rfl gx x rfl HX3.out ?_)
    generalize (w3.alloc (.cells #[.string ⟨#[]⟩, .string ⟨#[]⟩] 25)).setRow w3.heap.size (aggT R) = w4 at *
    generalize w3.heap.size = gy at *
    refine (HJ.out _).mono ?_
    rintro e w5 ⟨rfl, b5⟩
    have HG5 := Lib.hid (HQ3.out.on b5)
    clear b5 HG3 HN3 HQ3 HX3 HJ
    have HN5 := Lib.hid (heap_alloc_new w5 (.cells #[.string ⟨#[]⟩, .string ⟨#[]⟩] 25))
    have HQ5 := Lib.hid ((HG5.out.new #[.string ⟨#[]⟩, .string ⟨#[]⟩] 25).putAt HG5.out.b.size HG5.out.h.apart (aggT R))
    go_upto_region 6 with (first | refine store_p rfl (.tmp 7) (.tmp 27) rfl w5.heap.size _ R rfl rfl HN5.out rfl ?_)
    generalize (w5.alloc (.cells #[.string ⟨#[]⟩, .string ⟨#[]⟩] 25)).setRow w5.heap.size (aggT R) = w6 at *
    generalize w5.heap.size = gw at *
    have HG0 := Lib.hid HQ5.out
    have HS0 := Lib.hid HG0.out.h
    clear HG5 HN5 HQ5
    have Fx := Lib.hid (show ∀ w', Held w' [(gw, aggT R, 25), (gy, aggT R, 25), (gx, aggT x, 25)] → (Instr.loadAt 25 (.pointer (some ⟨gx, 0, none⟩))).run Tryz.prog w' = .ok (.agg (aggT x)) w' from fun w' hw => pair_load (hw _ (.tail _ (.tail _ (.head _)))))
    have Fy := Lib.hid (show ∀ w', Held w' [(gw, aggT R, 25), (gy, aggT R, 25), (gx, aggT x, 25)] → (Instr.loadAt 25 (.pointer (some ⟨gy, 0, none⟩))).run Tryz.prog w' = .ok (.agg (aggT R)) w' from fun w' hw => pair_load (hw _ (.tail _ (.head _))))
    have Fw := Lib.hid (show ∀ w', Held w' [(gw, aggT R, 25), (gy, aggT R, 25), (gx, aggT x, 25)] → (Instr.loadAt 25 (.pointer (some ⟨gw, 0, none⟩))).run Tryz.prog w' = .ok (.agg (aggT R)) w' from fun w' hw => pair_load (hw _ (.head _)))
    refine wp_region_line (S := fun w' => Held w' [(gw, aggT R, 25), (gy, aggT R, 25), (gx, aggT x, 25)]) [(true, 0), (true, 1), (true, 2), (true, 3), (true, 4), (true, 5), (true, 6), (true, 7), (true, 8), (true, 9), (true, 10), (false, 11), (true, 12), (true, 13), (true, 14), (true, 15), (true, 16), (false, 17), (true, 18), (false, 19), (true, 20), (true, 21)] (by kernel_rfl) (by kernel_rfl) HS0.out ?_
    refine SQ.out ?_
    refine g_pure (some 29) (.bool true) (by kernel_rfl) (by kernel_rfl) (fun _ => (by kernel_rfl)) ?_
    refine g_pure (some 30) (.bool true) (by kernel_rfl) (by kernel_rfl) (fun _ => (by kernel_rfl)) ?_
    refine g_take (some 31) (.bool false) (by kernel_rfl) (yields_neB (by kernel_rfl) (.tmp 29) (.tmp 30) (by kernel_rfl) true (by kernel_rfl) (by kernel_rfl)) ?_
    refine g_pure (some 32) (.bool false) (by kernel_rfl) (by kernel_rfl) (fun _ => (by kernel_rfl)) ?_
    refine g_held (some 33) (.agg (aggT R)) (by kernel_rfl) (wanted_by (g := 3) (b := false) (d := 32) (by kernel_rfl) (by kernel_rfl) (by kernel_rfl) (by kernel_rfl)) (held_load 25 (.tmp 5) (by kernel_rfl) _ _ (by kernel_rfl) Fy.out) ?_
    refine g_held (some 34) (.agg (aggT R)) (by kernel_rfl) (wanted_by (g := 3) (b := false) (d := 32) (by kernel_rfl) (by kernel_rfl) (by kernel_rfl) (by kernel_rfl)) (held_load 25 (.tmp 7) (by kernel_rfl) _ _ (by kernel_rfl) Fw.out) ?_
    refine g_take (some 35) (.bool false) (by kernel_rfl) (yields_neqS (wanted_by (g := 3) (b := false) (d := 32) (by kernel_rfl) (by kernel_rfl) (by kernel_rfl) (by kernel_rfl)) (.tmp 33) (.tmp 34) (by kernel_rfl) R (by kernel_rfl) (by kernel_rfl)) ?_
    refine g_pure (some 36) (.bool false) (by kernel_rfl) (by kernel_rfl) (fun _ => (by kernel_rfl)) ?_
    refine g_pure (some 37) (.bool false) (by kernel_rfl) (by kernel_rfl) (fun _ => (by kernel_rfl)) ?_
    refine g_held (some 38) (.agg (aggT x)) (by kernel_rfl) (wanted_by (g := 8) (b := false) (d := 37) (by kernel_rfl) (by kernel_rfl) (by kernel_rfl) (by kernel_rfl)) (held_load 25 (.tmp 3) (by kernel_rfl) _ _ (by kernel_rfl) Fx.out) ?_
    refine g_pure (some 39) (.string p) (by kernel_rfl) (wanted_by (g := 8) (b := false) (d := 37) (by kernel_rfl) (by kernel_rfl) (by kernel_rfl) (by kernel_rfl)) (fun _ => (by kernel_rfl)) ?_
    refine g_fn (some 40) [.agg (aggT x), .string p] Tryz.func9 (by kernel_rfl) (by kernel_rfl) (by kernel_rfl) (by kernel_rfl) (wanted_by (g := 8) (b := false) (d := 37) (by kernel_rfl) (by kernel_rfl) (by kernel_rfl) (by kernel_rfl)) (by kernel_rfl) ?_
    refine ((CSq.out _)).mono ?_
    rintro e w1 ⟨rfl, bw1⟩
    have HG1 := Lib.hid (HG0.out.on bw1)
    have HS1 := Lib.hid HG1.out.h
    refine ⟨_, rfl, HS1.out, ?_⟩
    refine g_pure (some 41) (.bool true) (by kernel_rfl) (wanted_by (g := 8) (b := false) (d := 37) (by kernel_rfl) (by kernel_rfl) (by kernel_rfl) (by kernel_rfl)) (fun _ => (by kernel_rfl)) ?_
    refine g_take (some 42) (.bool false) (by kernel_rfl) (yields_neB (wanted_by (g := 8) (b := false) (d := 37) (by kernel_rfl) (by kernel_rfl) (by kernel_rfl) (by kernel_rfl)) (.tmp 40) (.tmp 41) (by kernel_rfl) true (by kernel_rfl) (by kernel_rfl)) ?_
    refine g_pure (some 43) (.bool false) (by kernel_rfl) (by kernel_rfl) (fun _ => (by kernel_rfl)) ?_
    refine g_pure (some 44) (.bool false) (by kernel_rfl) (by kernel_rfl) (fun _ => (by kernel_rfl)) ?_
    refine g_pure (some 45) (.string p) (by kernel_rfl) (wanted_by (g := 15) (b := false) (d := 44) (by kernel_rfl) (by kernel_rfl) (by kernel_rfl) (by kernel_rfl)) (fun _ => (by kernel_rfl)) ?_
    refine g_fn (some 46) [.string p] Tryz.func10 (by kernel_rfl) (by kernel_rfl) (by kernel_rfl) (by kernel_rfl) (wanted_by (g := 15) (b := false) (d := 44) (by kernel_rfl) (by kernel_rfl) (by kernel_rfl) (by kernel_rfl)) (by kernel_rfl) ?_
    refine ((CPi.out _)).mono ?_
    rintro e w2 ⟨rfl, bw2⟩
    have HG2 := Lib.hid (HG1.out.on bw2)
    have HS2 := Lib.hid HG2.out.h
    refine ⟨_, rfl, HS2.out, ?_⟩
    refine g_pure (some 47) (.string p) (by kernel_rfl) (wanted_by (g := 15) (b := false) (d := 44) (by kernel_rfl) (by kernel_rfl) (by kernel_rfl) (by kernel_rfl)) (fun _ => (by kernel_rfl)) ?_
    refine g_fn (some 48) [.string p] Tryz.func11 (by kernel_rfl) (by kernel_rfl) (by kernel_rfl) (by kernel_rfl) (wanted_by (g := 15) (b := false) (d := 44) (by kernel_rfl) (by kernel_rfl) (by kernel_rfl) (by kernel_rfl)) (by kernel_rfl) ?_
    refine ((CPs.out _)).mono ?_
    rintro e w3 ⟨rfl, bw3⟩
    have HG3 := Lib.hid (HG2.out.on bw3)
    have HS3 := Lib.hid HG3.out.h
    refine ⟨_, rfl, HS3.out, ?_⟩
    refine g_take (some 49) (.bool false) (by kernel_rfl) (yields_neB (wanted_by (g := 15) (b := false) (d := 44) (by kernel_rfl) (by kernel_rfl) (by kernel_rfl) (by kernel_rfl)) (.tmp 46) (.tmp 48) (by kernel_rfl) pr (by kernel_rfl) (by kernel_rfl)) ?_
    refine g_pure (some 50) (.bool false) (by kernel_rfl) (by kernel_rfl) (fun _ => (by kernel_rfl)) ?_
    refine g_norm { tmps := List.toArray (List.append [(.slice a0 len0 cap0), undef, (.bool false), (.pointer (some ⟨gx, 0, none⟩)), (.string p), (.pointer (some ⟨gy, 0, none⟩)), (.bool true), (.pointer (some ⟨gw, 0, none⟩)), (.bool true), undef, (.slice a0 len0 cap0), (.bool false), (.tuple #[.agg (aggT x), .string p]), (.slice a0 len0 cap0), (.tuple #[.agg (aggT x), .string p]), (.agg (aggT x)), (.string p), (.tuple #[.agg (aggT R), .bool true]), (.agg (aggT x)), (.string p), (.tuple #[.agg (aggT R), .bool true]), (.agg (aggT R)), (.bool true), (.tuple #[.agg (aggT R), .bool true]), (.agg (aggT x)), (.string p), (.tuple #[.agg (aggT R), .bool true]), (.agg (aggT R)), (.bool true), (.bool true), (.bool true), (.bool false), (.bool false), (.agg (aggT R)), (.agg (aggT R)), (.bool false), (.bool false), (.bool false), (.agg (aggT x)), (.string p)] (List.append [(.bool true), (.bool true), (.bool false), (.bool false), (.bool false), (.string p), (.bool pr), (.string p), (.bool pr), (.bool false), (.bool false), undef, undef, undef, undef, undef, undef, undef, undef, undef, undef, undef, undef, undef, undef, undef, undef, undef, undef, undef, undef, undef, undef, undef, undef, undef, undef, undef, undef, undef] [undef, undef, undef, undef, undef, undef, undef, undef, undef, undef, undef, undef, undef])), defers := [] } (by kernel_rfl) ?_
    refine g_done ?_
    refine (by assumption : ∀ (a : Act) (w_1 : World), Code.wp _ _ _ a w_1 → _) _ _ ?_
    clear Fx Fy Fw
    have HX := Lib.hid (show _ = some (Obj.cells (aggT R) 25 (0, 0)) from HG3.out.h (gy, aggT R, 25) (.tail _ (.head _)))
    go_wp2_with (first | refine load_p rfl (.tmp 5) rfl gy R rfl HX.out ?_)
    refine (CNg.out _).mono ?_
    rintro e w4 ⟨rfl, bb⟩
    have HG4 := Lib.hid (HG3.out.on bb)
    clear bb HX CNg
    have HN4 := Lib.hid (heap_alloc_new w4 (.cells #[.string ⟨#[]⟩, .string ⟨#[]⟩] 25))
    have HQ4 := Lib.hid ((HG4.out.new #[.string ⟨#[]⟩, .string ⟨#[]⟩] 25).putAt HG4.out.b.size HG4.out.h.apart (aggT N))
    go_upto_region 11 with (first | refine store_p rfl (.tmp 9) (.tmp 62) rfl w4.heap.size _ N rfl rfl HN4.out rfl ?_)
    generalize (w4.alloc (.cells #[.string ⟨#[]⟩, .string ⟨#[]⟩] 25)).setRow w4.heap.size (aggT N) = wa at *
    generalize w4.heap.size = gn at *
    have HK := Lib.hid HQ4.out.drew
    clear HQ4 HN4 HG0 HG1 HG2 HG3 HG4 HS0 HS1 HS2 HS3
    have HG0 := HK
    have HS0 := Lib.hid HG0.out.h
    clear HK
    have Fx := Lib.hid (show ∀ w', Held w' [(gn, aggT N, 25), (gw, aggT R, 25), (gy, aggT R, 25), (gx, aggT x, 25)] → (Instr.loadAt 25 (.pointer (some ⟨gx, 0, none⟩))).run Tryz.prog w' = .ok (.agg (aggT x)) w' from fun w' hw => pair_load (hw _ (.tail _ (.tail _ (.tail _ (.head _))))))
    have Fy := Lib.hid (show ∀ w', Held w' [(gn, aggT N, 25), (gw, aggT R, 25), (gy, aggT R, 25), (gx, aggT x, 25)] → (Instr.loadAt 25 (.pointer (some ⟨gy, 0, none⟩))).run Tryz.prog w' = .ok (.agg (aggT R)) w' from fun w' hw => pair_load (hw _ (.tail _ (.tail _ (.head _)))))
    have Fn := Lib.hid (show ∀ w', Held w' [(gn, aggT N, 25), (gw, aggT R, 25), (gy, aggT R, 25), (gx, aggT x, 25)] → (Instr.loadAt 25 (.pointer (some ⟨gn, 0, none⟩))).run Tryz.prog w' = .ok (.agg (aggT N)) w' from fun w' hw => pair_load (hw _ (.head _)))
    by_cases hR : R = noP
    · subst hR
      clear HG2 CG2
      refine wp_region_seq (S := fun w' => Held w' [(gn, aggT N, 25), (gw, aggT noP, 25), (gy, aggT noP, 25), (gx, aggT x, 25)]) [⟨0, some 63, [5]⟩, ⟨0, some 64, [5]⟩, ⟨0, some 65, [4]⟩, ⟨7, some 66, [63, 64, 65]⟩, ⟨0, some 67, [3]⟩, ⟨24, some 68, [66, 67]⟩, ⟨40, some 69, [68]⟩, ⟨64, some 70, [5, 69]⟩, ⟨64, some 71, [4, 69]⟩, ⟨448, some 72, [70, 71, 69]⟩, ⟨576, some 73, [72, 69]⟩, ⟨1088, some 74, [69, 73]⟩, ⟨2560, some 75, [74]⟩, ⟨4096, some 76, [5, 75]⟩, ⟨4096, some 77, [75]⟩, ⟨28672, some 78, [76, 77, 75]⟩, ⟨36864, some 79, [78, 75]⟩, ⟨65536, some 80, [9, 79]⟩, ⟨65536, some 81, [4, 79]⟩, ⟨458752, some 82, [80, 81, 79]⟩, ⟨593920, some 83, [79, 82, 75]⟩, ⟨1052672, some 84, [75, 83]⟩, ⟨2621440, some 85, [84]⟩, ⟨4194304, some 86, [9, 85]⟩, ⟨4194304, some 87, [9, 85]⟩, ⟨4194304, some 88, [4, 85]⟩, ⟨62914560, some 89, [86, 87, 88, 85]⟩, ⟨4194304, some 90, [3, 85]⟩, ⟨205520896, some 91, [89, 90, 85]⟩, ⟨272629760, some 92, [85, 91]⟩, ⟨1073741823, some 2, [92]⟩] [(true, 0), (true, 1), (true, 2), (true, 4), (false, 3), (true, 5), (true, 6), (true, 7), (true, 8), (false, 9), (true, 10), (true, 11), (true, 12), (true, 13), (true, 14), (true, 15), (true, 16), (true, 17), (true, 18), (true, 19), (true, 20), (true, 21), (true, 22), (true, 23), (true, 24), (true, 25), (true, 27), (false, 26), (true, 28), (true, 29), (true, 30)] (by kernel_rfl) (by kernel_rfl) (by kernel_rfl) (by kernel_rfl) (by kernel_rfl) (by kernel_rfl) (fun d _ _ _ _ h => by cases d <;> exact h) HS0.out ?_
      change seqH _ _ _ _ _ _ _ wa.drew
      generalize wa.drew = w0 at *
      refine SQ.out ?_
      refine g_held (some 63) (.agg (aggT noP)) (by kernel_rfl) (by kernel_rfl) (held_load 25 (.tmp 5) (by kernel_rfl) _ _ (by kernel_rfl) Fy.out) ?_
      refine g_held (some 64) (.agg (aggT noP)) (by kernel_rfl) (by kernel_rfl) (held_load 25 (.tmp 5) (by kernel_rfl) _ _ (by kernel_rfl) Fy.out) ?_
      refine g_pure (some 65) (.string p) (by kernel_rfl) (by kernel_rfl) (fun _ => (by kernel_rfl)) ?_
      refine g_held (some 67) (.agg (aggT x)) (by kernel_rfl) (by kernel_rfl) (held_load 25 (.tmp 3) (by kernel_rfl) _ _ (by kernel_rfl) Fx.out) ?_
      refine g_fn (some 66) [.agg (aggT noP), .agg (aggT noP), .string p] Tryz.func14 (by kernel_rfl) (by kernel_rfl) (by kernel_rfl) (by kernel_rfl) (by kernel_rfl) (by kernel_rfl) ?_
      refine ((CM.out _)).mono ?_
      rintro e w1 ⟨rfl, bw1⟩
      have HG1 := Lib.hid (HG0.out.on bw1)
      have HS1 := Lib.hid HG1.out.h
      refine ⟨_, rfl, HS1.out, ?_⟩
      refine g_take (some 68) (.bool true) (by kernel_rfl) (yields_eqP (by kernel_rfl) (.tmp 66) (.tmp 67) (by kernel_rfl) x (by kernel_rfl) (by kernel_rfl)) ?_
      refine g_pure (some 69) (.bool true) (by kernel_rfl) (by kernel_rfl) (fun _ => (by kernel_rfl)) ?_
      refine g_held (some 70) (.agg (aggT noP)) (by kernel_rfl) (wanted_by (g := 6) (b := true) (d := 69) (by kernel_rfl) (by kernel_rfl) (by kernel_rfl) (by kernel_rfl)) (held_load 25 (.tmp 5) (by kernel_rfl) _ _ (by kernel_rfl) Fy.out) ?_
      refine g_pure (some 71) (.string p) (by kernel_rfl) (wanted_by (g := 6) (b := true) (d := 69) (by kernel_rfl) (by kernel_rfl) (by kernel_rfl) (by kernel_rfl)) (fun _ => (by kernel_rfl)) ?_
      refine g_fn (some 72) [.agg (aggT noP), .string p] Tryz.func12 (by kernel_rfl) (by kernel_rfl) (by kernel_rfl) (by kernel_rfl) (wanted_by (g := 6) (b := true) (d := 69) (by kernel_rfl) (by kernel_rfl) (by kernel_rfl) (by kernel_rfl)) (by kernel_rfl) ?_
      refine ((CG.out _)).mono ?_
      rintro e w2 ⟨rfl, bw2⟩
      have HG2 := Lib.hid (HG1.out.on bw2)
      have HS2 := Lib.hid HG2.out.h
      refine ⟨_, rfl, HS2.out, ?_⟩
      refine g_pure (some 73) (.bool true) (by kernel_rfl) (wanted_by (g := 6) (b := true) (d := 69) (by kernel_rfl) (by kernel_rfl) (by kernel_rfl) (by kernel_rfl)) (fun _ => (by kernel_rfl)) ?_
      refine g_pure (some 74) (.bool true) (by kernel_rfl) (by kernel_rfl) (fun _ => (by kernel_rfl)) ?_
      refine g_pure (some 75) (.bool true) (by kernel_rfl) (by kernel_rfl) (fun _ => (by kernel_rfl)) ?_
      refine g_held (some 76) (.agg (aggT noP)) (by kernel_rfl) (wanted_by (g := 12) (b := true) (d := 75) (by kernel_rfl) (by kernel_rfl) (by kernel_rfl) (by kernel_rfl)) (held_load 25 (.tmp 5) (by kernel_rfl) _ _ (by kernel_rfl) Fy.out) ?_
      refine g_pure (some 77) (.agg (aggT noP)) (by kernel_rfl) (wanted_by (g := 12) (b := true) (d := 75) (by kernel_rfl) (by kernel_rfl) (by kernel_rfl) (by kernel_rfl)) (held_build 25 #[] (by kernel_rfl) _ (by kernel_rfl) _ built_pair0) ?_
      refine g_take (some 78) (.bool true) (by kernel_rfl) (yields_eqP (wanted_by (g := 12) (b := true) (d := 75) (by kernel_rfl) (by kernel_rfl) (by kernel_rfl) (by kernel_rfl)) (.tmp 76) (.tmp 77) (by kernel_rfl) noP (by kernel_rfl) (by kernel_rfl)) ?_
      refine g_pure (some 79) (.bool true) (by kernel_rfl) (wanted_by (g := 12) (b := true) (d := 75) (by kernel_rfl) (by kernel_rfl) (by kernel_rfl) (by kernel_rfl)) (fun _ => (by kernel_rfl)) ?_
      refine g_skip (some 80) (by kernel_rfl) (wanted_no (g := 16) (b := false) (d := 79) (by kernel_rfl) (by kernel_rfl) (by kernel_rfl) (by kernel_rfl)) ?_
      refine g_skip (some 81) (by kernel_rfl) (wanted_no (g := 16) (b := false) (d := 79) (by kernel_rfl) (by kernel_rfl) (by kernel_rfl) (by kernel_rfl)) ?_
      refine g_skip (some 82) (by kernel_rfl) (wanted_no (g := 16) (b := false) (d := 79) (by kernel_rfl) (by kernel_rfl) (by kernel_rfl) (by kernel_rfl)) ?_
      refine g_pure (some 83) (.bool true) (by kernel_rfl) (wanted_by (g := 12) (b := true) (d := 75) (by kernel_rfl) (by kernel_rfl) (by kernel_rfl) (by kernel_rfl)) (fun _ => (by kernel_rfl)) ?_
      refine g_pure (some 84) (.bool true) (by kernel_rfl) (by kernel_rfl) (fun _ => (by kernel_rfl)) ?_
      refine g_pure (some 85) (.bool true) (by kernel_rfl) (by kernel_rfl) (fun _ => (by kernel_rfl)) ?_
      refine g_held (some 86) (.agg (aggT N)) (by kernel_rfl) (wanted_by (g := 22) (b := true) (d := 85) (by kernel_rfl) (by kernel_rfl) (by kernel_rfl) (by kernel_rfl)) (held_load 25 (.tmp 9) (by kernel_rfl) _ _ (by kernel_rfl) Fn.out) ?_
      refine g_held (some 87) (.agg (aggT N)) (by kernel_rfl) (wanted_by (g := 22) (b := true) (d := 85) (by kernel_rfl) (by kernel_rfl) (by kernel_rfl) (by kernel_rfl)) (held_load 25 (.tmp 9) (by kernel_rfl) _ _ (by kernel_rfl) Fn.out) ?_
      refine g_pure (some 88) (.string p) (by kernel_rfl) (wanted_by (g := 22) (b := true) (d := 85) (by kernel_rfl) (by kernel_rfl) (by kernel_rfl) (by kernel_rfl)) (fun _ => (by kernel_rfl)) ?_
      refine g_held (some 90) (.agg (aggT x)) (by kernel_rfl) (wanted_by (g := 22) (b := true) (d := 85) (by kernel_rfl) (by kernel_rfl) (by kernel_rfl) (by kernel_rfl)) (held_load 25 (.tmp 3) (by kernel_rfl) _ _ (by kernel_rfl) Fx.out) ?_
      refine g_fn (some 89) [.agg (aggT N), .agg (aggT N), .string p] Tryz.func14 (by kernel_rfl) (by kernel_rfl) (by kernel_rfl) (by kernel_rfl) (wanted_by (g := 22) (b := true) (d := 85) (by kernel_rfl) (by kernel_rfl) (by kernel_rfl) (by kernel_rfl)) (by kernel_rfl) ?_
      refine ((CM2.out _)).mono ?_
      rintro e w3 ⟨rfl, bw3⟩
      have HG3 := Lib.hid (HG2.out.on bw3)
      have HS3 := Lib.hid HG3.out.h
      refine ⟨_, rfl, HS3.out, ?_⟩
      refine g_take (some 91) (.bool true) (by kernel_rfl) (yields_eqP (wanted_by (g := 22) (b := true) (d := 85) (by kernel_rfl) (by kernel_rfl) (by kernel_rfl) (by kernel_rfl)) (.tmp 89) (.tmp 90) (by kernel_rfl) x (by kernel_rfl) (by kernel_rfl)) ?_
      refine g_pure (some 92) (.bool true) (by kernel_rfl) (by kernel_rfl) (fun _ => (by kernel_rfl)) ?_
      refine g_pure (some 2) (.bool true) (by kernel_rfl) (by kernel_rfl) (fun _ => (by kernel_rfl)) ?_
      refine g_done ?_
      refine (by assumption : ∀ (a : Act) (w_1 : World), Code.wp _ Code.ret _ a w_1 → _) _ _ ?_
      refine wp_ret ?_
      exact ret_bool rfl (by kernel_rfl) (by kernel_rfl) ⟨rfl, HG3.out.b⟩
    · have hg2 := HG2.out hR
      rw [hg2] at CG2
      clear hg2
      refine wp_region_seq (S := fun w' => Held w' [(gn, aggT N, 25), (gw, aggT R, 25), (gy, aggT R, 25), (gx, aggT x, 25)]) [⟨0, some 63, [5]⟩, ⟨0, some 64, [5]⟩, ⟨0, some 65, [4]⟩, ⟨7, some 66, [63, 64, 65]⟩, ⟨0, some 67, [3]⟩, ⟨24, some 68, [66, 67]⟩, ⟨40, some 69, [68]⟩, ⟨64, some 70, [5, 69]⟩, ⟨64, some 71, [4, 69]⟩, ⟨448, some 72, [70, 71, 69]⟩, ⟨576, some 73, [72, 69]⟩, ⟨1088, some 74, [69, 73]⟩, ⟨2560, some 75, [74]⟩, ⟨4096, some 76, [5, 75]⟩, ⟨4096, some 77, [75]⟩, ⟨28672, some 78, [76, 77, 75]⟩, ⟨36864, some 79, [78, 75]⟩, ⟨65536, some 80, [9, 79]⟩, ⟨65536, some 81, [4, 79]⟩, ⟨458752, some 82, [80, 81, 79]⟩, ⟨593920, some 83, [79, 82, 75]⟩, ⟨1052672, some 84, [75, 83]⟩, ⟨2621440, some 85, [84]⟩, ⟨4194304, some 86, [9, 85]⟩, ⟨4194304, some 87, [9, 85]⟩, ⟨4194304, some 88, [4, 85]⟩, ⟨62914560, some 89, [86, 87, 88, 85]⟩, ⟨4194304, some 90, [3, 85]⟩, ⟨205520896, some 91, [89, 90, 85]⟩, ⟨272629760, some 92, [85, 91]⟩, ⟨1073741823, some 2, [92]⟩] [(true, 0), (true, 1), (true, 2), (true, 4), (false, 3), (true, 5), (true, 6), (true, 7), (true, 8), (false, 9), (true, 10), (true, 11), (true, 12), (true, 13), (true, 14), (true, 15), (true, 16), (true, 17), (true, 18), (false, 19), (true, 20), (true, 21), (true, 22), (true, 23), (true, 24), (true, 25), (true, 27), (false, 26), (true, 28), (true, 29), (true, 30)] (by kernel_rfl) (by kernel_rfl) (by kernel_rfl) (by kernel_rfl) (by kernel_rfl) (by kernel_rfl) (fun d _ _ _ _ h => by cases d <;> exact h) HS0.out ?_
      change seqH _ _ _ _ _ _ _ wa.drew
      generalize wa.drew = w0 at *
      refine SQ.out ?_
      refine g_held (some 63) (.agg (aggT R)) (by kernel_rfl) (by kernel_rfl) (held_load 25 (.tmp 5) (by kernel_rfl) _ _ (by kernel_rfl) Fy.out) ?_
      refine g_held (some 64) (.agg (aggT R)) (by kernel_rfl) (by kernel_rfl) (held_load 25 (.tmp 5) (by kernel_rfl) _ _ (by kernel_rfl) Fy.out) ?_
      refine g_pure (some 65) (.string p) (by kernel_rfl) (by kernel_rfl) (fun _ => (by kernel_rfl)) ?_
      refine g_held (some 67) (.agg (aggT x)) (by kernel_rfl) (by kernel_rfl) (held_load 25 (.tmp 3) (by kernel_rfl) _ _ (by kernel_rfl) Fx.out) ?_
      refine g_fn (some 66) [.agg (aggT R), .agg (aggT R), .string p] Tryz.func14 (by kernel_rfl) (by kernel_rfl) (by kernel_rfl) (by kernel_rfl) (by kernel_rfl) (by kernel_rfl) ?_
      refine ((CM.out _)).mono ?_
      rintro e w1 ⟨rfl, bw1⟩
      have HG1 := Lib.hid (HG0.out.on bw1)
      have HS1 := Lib.hid HG1.out.h
      refine ⟨_, rfl, HS1.out, ?_⟩
      refine g_take (some 68) (.bool true) (by kernel_rfl) (yields_eqP (by kernel_rfl) (.tmp 66) (.tmp 67) (by kernel_rfl) x (by kernel_rfl) (by kernel_rfl)) ?_
      refine g_pure (some 69) (.bool true) (by kernel_rfl) (by kernel_rfl) (fun _ => (by kernel_rfl)) ?_
      refine g_held (some 70) (.agg (aggT R)) (by kernel_rfl) (wanted_by (g := 6) (b := true) (d := 69) (by kernel_rfl) (by kernel_rfl) (by kernel_rfl) (by kernel_rfl)) (held_load 25 (.tmp 5) (by kernel_rfl) _ _ (by kernel_rfl) Fy.out) ?_
      refine g_pure (some 71) (.string p) (by kernel_rfl) (wanted_by (g := 6) (b := true) (d := 69) (by kernel_rfl) (by kernel_rfl) (by kernel_rfl) (by kernel_rfl)) (fun _ => (by kernel_rfl)) ?_
      refine g_fn (some 72) [.agg (aggT R), .string p] Tryz.func12 (by kernel_rfl) (by kernel_rfl) (by kernel_rfl) (by kernel_rfl) (wanted_by (g := 6) (b := true) (d := 69) (by kernel_rfl) (by kernel_rfl) (by kernel_rfl) (by kernel_rfl)) (by kernel_rfl) ?_
      refine ((CG.out _)).mono ?_
      rintro e w2 ⟨rfl, bw2⟩
      have HG2 := Lib.hid (HG1.out.on bw2)
      have HS2 := Lib.hid HG2.out.h
      refine ⟨_, rfl, HS2.out, ?_⟩
      refine g_pure (some 73) (.bool true) (by kernel_rfl) (wanted_by (g := 6) (b := true) (d := 69) (by kernel_rfl) (by kernel_rfl) (by kernel_rfl) (by kernel_rfl)) (fun _ => (by kernel_rfl)) ?_
      refine g_pure (some 74) (.bool true) (by kernel_rfl) (by kernel_rfl) (fun _ => (by kernel_rfl)) ?_
      refine g_pure (some 75) (.bool true) (by kernel_rfl) (by kernel_rfl) (fun _ => (by kernel_rfl)) ?_
      refine g_held (some 76) (.agg (aggT R)) (by kernel_rfl) (wanted_by (g := 12) (b := true) (d := 75) (by kernel_rfl) (by kernel_rfl) (by kernel_rfl) (by kernel_rfl)) (held_load 25 (.tmp 5) (by kernel_rfl) _ _ (by kernel_rfl) Fy.out) ?_
      refine g_pure (some 77) (.agg (aggT noP)) (by kernel_rfl) (wanted_by (g := 12) (b := true) (d := 75) (by kernel_rfl) (by kernel_rfl) (by kernel_rfl) (by kernel_rfl)) (held_build 25 #[] (by kernel_rfl) _ (by kernel_rfl) _ built_pair0) ?_
      refine g_take (some 78) (.bool false) (by kernel_rfl) (yields_eqF (wanted_by (g := 12) (b := true) (d := 75) (by kernel_rfl) (by kernel_rfl) (by kernel_rfl) (by kernel_rfl)) (.tmp 76) (.tmp 77) (by kernel_rfl) R hR (by kernel_rfl) (by kernel_rfl)) ?_
      refine g_pure (some 79) (.bool false) (by kernel_rfl) (wanted_by (g := 12) (b := true) (d := 75) (by kernel_rfl) (by kernel_rfl) (by kernel_rfl) (by kernel_rfl)) (fun _ => (by kernel_rfl)) ?_
      refine g_held (some 80) (.agg (aggT N)) (by kernel_rfl) (wanted_by (g := 16) (b := false) (d := 79) (by kernel_rfl) (by kernel_rfl) (by kernel_rfl) (by kernel_rfl)) (held_load 25 (.tmp 9) (by kernel_rfl) _ _ (by kernel_rfl) Fn.out) ?_
      refine g_pure (some 81) (.string p) (by kernel_rfl) (wanted_by (g := 16) (b := false) (d := 79) (by kernel_rfl) (by kernel_rfl) (by kernel_rfl) (by kernel_rfl)) (fun _ => (by kernel_rfl)) ?_
      refine g_fn (some 82) [.agg (aggT N), .string p] Tryz.func12 (by kernel_rfl) (by kernel_rfl) (by kernel_rfl) (by kernel_rfl) (wanted_by (g := 16) (b := false) (d := 79) (by kernel_rfl) (by kernel_rfl) (by kernel_rfl) (by kernel_rfl)) (by kernel_rfl) ?_
      refine ((CG2.out _)).mono ?_
      rintro e w3 ⟨rfl, bw3⟩
      have HG3 := Lib.hid (HG2.out.on bw3)
      have HS3 := Lib.hid HG3.out.h
      refine ⟨_, rfl, HS3.out, ?_⟩
      refine g_pure (some 83) (.bool true) (by kernel_rfl) (wanted_by (g := 12) (b := true) (d := 75) (by kernel_rfl) (by kernel_rfl) (by kernel_rfl) (by kernel_rfl)) (fun _ => (by kernel_rfl)) ?_
      refine g_pure (some 84) (.bool true) (by kernel_rfl) (by kernel_rfl) (fun _ => (by kernel_rfl)) ?_
      refine g_pure (some 85) (.bool true) (by kernel_rfl) (by kernel_rfl) (fun _ => (by kernel_rfl)) ?_
      refine g_held (some 86) (.agg (aggT N)) (by kernel_rfl) (wanted_by (g := 22) (b := true) (d := 85) (by kernel_rfl) (by kernel_rfl) (by kernel_rfl) (by kernel_rfl)) (held_load 25 (.tmp 9) (by kernel_rfl) _ _ (by kernel_rfl) Fn.out) ?_
      refine g_held (some 87) (.agg (aggT N)) (by kernel_rfl) (wanted_by (g := 22) (b := true) (d := 85) (by kernel_rfl) (by kernel_rfl) (by kernel_rfl) (by kernel_rfl)) (held_load 25 (.tmp 9) (by kernel_rfl) _ _ (by kernel_rfl) Fn.out) ?_
      refine g_pure (some 88) (.string p) (by kernel_rfl) (wanted_by (g := 22) (b := true) (d := 85) (by kernel_rfl) (by kernel_rfl) (by kernel_rfl) (by kernel_rfl)) (fun _ => (by kernel_rfl)) ?_
      refine g_held (some 90) (.agg (aggT x)) (by kernel_rfl) (wanted_by (g := 22) (b := true) (d := 85) (by kernel_rfl) (by kernel_rfl) (by kernel_rfl) (by kernel_rfl)) (held_load 25 (.tmp 3) (by kernel_rfl) _ _ (by kernel_rfl) Fx.out) ?_
      refine g_fn (some 89) [.agg (aggT N), .agg (aggT N), .string p] Tryz.func14 (by kernel_rfl) (by kernel_rfl) (by kernel_rfl) (by kernel_rfl) (wanted_by (g := 22) (b := true) (d := 85) (by kernel_rfl) (by kernel_rfl) (by kernel_rfl) (by kernel_rfl)) (by kernel_rfl) ?_
      refine ((CM2.out _)).mono ?_
      rintro e w4 ⟨rfl, bw4⟩
      have HG4 := Lib.hid (HG3.out.on bw4)
      have HS4 := Lib.hid HG4.out.h
      refine ⟨_, rfl, HS4.out, ?_⟩
      refine g_take (some 91) (.bool true) (by kernel_rfl) (yields_eqP (wanted_by (g := 22) (b := true) (d := 85) (by kernel_rfl) (by kernel_rfl) (by kernel_rfl) (by kernel_rfl)) (.tmp 89) (.tmp 90) (by kernel_rfl) x (by kernel_rfl) (by kernel_rfl)) ?_
      refine g_pure (some 92) (.bool true) (by kernel_rfl) (by kernel_rfl) (fun _ => (by kernel_rfl)) ?_
      refine g_pure (some 2) (.bool true) (by kernel_rfl) (by kernel_rfl) (fun _ => (by kernel_rfl)) ?_
      refine g_done ?_
      refine (by assumption : ∀ (a : Act) (w_1 : World), Code.wp _ Code.ret _ a w_1 → _) _ _ ?_
      refine wp_ret ?_
      exact ret_bool rfl (by kernel_rfl) (by kernel_rfl) ⟨rfl, HG4.out.b⟩
  | false =>
    rw [hok] at HI HJ CSq HLa HNo
    clear hok
    obtain rfl := HNo.out rfl
    clear HLa HNo CNg CM CG CM2 CG2
    go_wp2_with (first | refine store_p rfl (.tmp 3) (.tmp 15) rfl w1.heap.size _ x rfl rfl HN1.out rfl ?_ | refine load_p rfl (.tmp 3) rfl w1.heap.size x rfl (HQ1.out.h _ (.head _)) ?_)
    generalize (w1.alloc (.cells #[.string ⟨#[]⟩, .string ⟨#[]⟩] 25)).setRow w1.heap.size (aggT x) = w2 at *
    generalize w1.heap.size = gx at *
    refine (HI.out _).mono ?_
    rintro e w3 ⟨rfl, b3⟩
    have HG3 := Lib.hid (HQ1.out.on b3)
    clear b3 HG1 HN1 HQ1 HI
    have HN3 := Lib.hid (heap_alloc_new w3 (.cells #[.string ⟨#[]⟩, .string ⟨#[]⟩] 25))
    have HQ3 := Lib.hid ((HG3.out.new #[.string ⟨#[]⟩, .string ⟨#[]⟩] 25).putAt HG3.out.b.size HG3.out.h.apart (aggT noP))
    have HX3 := Lib.hid (HQ3.out.h _ (.tail _ (.head _)))
    go_wp2_with (first | refine store_p rfl (.tmp 5) (.tmp 21) rfl w3.heap.size _ noP rfl rfl HN3.out rfl ?_ | refine load_p rfl (.tmp 3) rfl gx x rfl HX3.out ?_)
    generalize (w3.alloc (.cells #[.string ⟨#[]⟩, .string ⟨#[]⟩] 25)).setRow w3.heap.size (aggT noP) = w4 at *
    generalize w3.heap.size = gy at *
    refine (HJ.out _).mono ?_
    rintro e w5 ⟨rfl, b5⟩
    have HG5 := Lib.hid (HQ3.out.on b5)
    clear b5 HG3 HN3 HQ3 HX3 HJ
    have HN5 := Lib.hid (heap_alloc_new w5 (.cells #[.string ⟨#[]⟩, .string ⟨#[]⟩] 25))
    have HQ5 := Lib.hid ((HG5.out.new #[.string ⟨#[]⟩, .string ⟨#[]⟩] 25).putAt HG5.out.b.size HG5.out.h.apart (aggT noP))
    go_upto_region 6 with (first | refine store_p rfl (.tmp 7) (.tmp 27) rfl w5.heap.size _ noP rfl rfl HN5.out rfl ?_)
    generalize (w5.alloc (.cells #[.string ⟨#[]⟩, .string ⟨#[]⟩] 25)).setRow w5.heap.size (aggT noP) = w6 at *
    generalize w5.heap.size = gw at *
    have HG0 := Lib.hid HQ5.out
    have HS0 := Lib.hid HG0.out.h
    clear HG5 HN5 HQ5
    have Fx := Lib.hid (show ∀ w', Held w' [(gw, aggT noP, 25), (gy, aggT noP, 25), (gx, aggT x, 25)] → (Instr.loadAt 25 (.pointer (some ⟨gx, 0, none⟩))).run Tryz.prog w' = .ok (.agg (aggT x)) w' from fun w' hw => pair_load (hw _ (.tail _ (.tail _ (.head _)))))
    have Fy := Lib.hid (show ∀ w', Held w' [(gw, aggT noP, 25), (gy, aggT noP, 25), (gx, aggT x, 25)] → (Instr.loadAt 25 (.pointer (some ⟨gy, 0, none⟩))).run Tryz.prog w' = .ok (.agg (aggT noP)) w' from fun w' hw => pair_load (hw _ (.tail _ (.head _))))
    have Fw := Lib.hid (show ∀ w', Held w' [(gw, aggT noP, 25), (gy, aggT noP, 25), (gx, aggT x, 25)] → (Instr.loadAt 25 (.pointer (some ⟨gw, 0, none⟩))).run Tryz.prog w' = .ok (.agg (aggT noP)) w' from fun w' hw => pair_load (hw _ (.head _)))
    refine wp_region_line (S := fun w' => Held w' [(gw, aggT noP, 25), (gy, aggT noP, 25), (gx, aggT x, 25)]) [(true, 0), (true, 1), (true, 2), (true, 3), (true, 4), (true, 5), (true, 6), (true, 7), (true, 8), (true, 9), (true, 10), (false, 11), (true, 12), (true, 13), (true, 14), (true, 15), (true, 16), (false, 17), (true, 18), (false, 19), (true, 20), (true, 21)] (by kernel_rfl) (by kernel_rfl) HS0.out ?_
    refine SQ.out ?_
    refine g_pure (some 29) (.bool false) (by kernel_rfl) (by kernel_rfl) (fun _ => (by kernel_rfl)) ?_
    refine g_pure (some 30) (.bool false) (by kernel_rfl) (by kernel_rfl) (fun _ => (by kernel_rfl)) ?_
    refine g_take (some 31) (.bool false) (by kernel_rfl) (yields_neB (by kernel_rfl) (.tmp 29) (.tmp 30) (by kernel_rfl) false (by kernel_rfl) (by kernel_rfl)) ?_
    refine g_pure (some 32) (.bool false) (by kernel_rfl) (by kernel_rfl) (fun _ => (by kernel_rfl)) ?_
    refine g_held (some 33) (.agg (aggT noP)) (by kernel_rfl) (wanted_by (g := 3) (b := false) (d := 32) (by kernel_rfl) (by kernel_rfl) (by kernel_rfl) (by kernel_rfl)) (held_load 25 (.tmp 5) (by kernel_rfl) _ _ (by kernel_rfl) Fy.out) ?_
    refine g_held (some 34) (.agg (aggT noP)) (by kernel_rfl) (wanted_by (g := 3) (b := false) (d := 32) (by kernel_rfl) (by kernel_rfl) (by kernel_rfl) (by kernel_rfl)) (held_load 25 (.tmp 7) (by kernel_rfl) _ _ (by kernel_rfl) Fw.out) ?_
    refine g_take (some 35) (.bool false) (by kernel_rfl) (yields_neqS (wanted_by (g := 3) (b := false) (d := 32) (by kernel_rfl) (by kernel_rfl) (by kernel_rfl) (by kernel_rfl)) (.tmp 33) (.tmp 34) (by kernel_rfl) noP (by kernel_rfl) (by kernel_rfl)) ?_
    refine g_pure (some 36) (.bool false) (by kernel_rfl) (by kernel_rfl) (fun _ => (by kernel_rfl)) ?_
    refine g_pure (some 37) (.bool false) (by kernel_rfl) (by kernel_rfl) (fun _ => (by kernel_rfl)) ?_
    refine g_held (some 38) (.agg (aggT x)) (by kernel_rfl) (wanted_by (g := 8) (b := false) (d := 37) (by kernel_rfl) (by kernel_rfl) (by kernel_rfl) (by kernel_rfl)) (held_load 25 (.tmp 3) (by kernel_rfl) _ _ (by kernel_rfl) Fx.out) ?_
    refine g_pure (some 39) (.string p) (by kernel_rfl) (wanted_by (g := 8) (b := false) (d := 37) (by kernel_rfl) (by kernel_rfl) (by kernel_rfl) (by kernel_rfl)) (fun _ => (by kernel_rfl)) ?_
    refine g_fn (some 40) [.agg (aggT x), .string p] Tryz.func9 (by kernel_rfl) (by kernel_rfl) (by kernel_rfl) (by kernel_rfl) (wanted_by (g := 8) (b := false) (d := 37) (by kernel_rfl) (by kernel_rfl) (by kernel_rfl) (by kernel_rfl)) (by kernel_rfl) ?_
    refine ((CSq.out _)).mono ?_
    rintro e w1 ⟨rfl, bw1⟩
    have HG1 := Lib.hid (HG0.out.on bw1)
    have HS1 := Lib.hid HG1.out.h
    refine ⟨_, rfl, HS1.out, ?_⟩
    refine g_pure (some 41) (.bool false) (by kernel_rfl) (wanted_by (g := 8) (b := false) (d := 37) (by kernel_rfl) (by kernel_rfl) (by kernel_rfl) (by kernel_rfl)) (fun _ => (by kernel_rfl)) ?_
    refine g_take (some 42) (.bool false) (by kernel_rfl) (yields_neB (wanted_by (g := 8) (b := false) (d := 37) (by kernel_rfl) (by kernel_rfl) (by kernel_rfl) (by kernel_rfl)) (.tmp 40) (.tmp 41) (by kernel_rfl) false (by kernel_rfl) (by kernel_rfl)) ?_
    refine g_pure (some 43) (.bool false) (by kernel_rfl) (by kernel_rfl) (fun _ => (by kernel_rfl)) ?_
    refine g_pure (some 44) (.bool false) (by kernel_rfl) (by kernel_rfl) (fun _ => (by kernel_rfl)) ?_
    refine g_pure (some 45) (.string p) (by kernel_rfl) (wanted_by (g := 15) (b := false) (d := 44) (by kernel_rfl) (by kernel_rfl) (by kernel_rfl) (by kernel_rfl)) (fun _ => (by kernel_rfl)) ?_
    refine g_fn (some 46) [.string p] Tryz.func10 (by kernel_rfl) (by kernel_rfl) (by kernel_rfl) (by kernel_rfl) (wanted_by (g := 15) (b := false) (d := 44) (by kernel_rfl) (by kernel_rfl) (by kernel_rfl) (by kernel_rfl)) (by kernel_rfl) ?_
    refine ((CPi.out _)).mono ?_
    rintro e w2 ⟨rfl, bw2⟩
    have HG2 := Lib.hid (HG1.out.on bw2)
    have HS2 := Lib.hid HG2.out.h
    refine ⟨_, rfl, HS2.out, ?_⟩
    refine g_pure (some 47) (.string p) (by kernel_rfl) (wanted_by (g := 15) (b := false) (d := 44) (by kernel_rfl) (by kernel_rfl) (by kernel_rfl) (by kernel_rfl)) (fun _ => (by kernel_rfl)) ?_
    refine g_fn (some 48) [.string p] Tryz.func11 (by kernel_rfl) (by kernel_rfl) (by kernel_rfl) (by kernel_rfl) (wanted_by (g := 15) (b := false) (d := 44) (by kernel_rfl) (by kernel_rfl) (by kernel_rfl) (by kernel_rfl)) (by kernel_rfl) ?_
    refine ((CPs.out _)).mono ?_
    rintro e w3 ⟨rfl, bw3⟩
    have HG3 := Lib.hid (HG2.out.on bw3)
    have HS3 := Lib.hid HG3.out.h
    refine ⟨_, rfl, HS3.out, ?_⟩
    refine g_take (some 49) (.bool false) (by kernel_rfl) (yields_neB (wanted_by (g := 15) (b := false) (d := 44) (by kernel_rfl) (by kernel_rfl) (by kernel_rfl) (by kernel_rfl)) (.tmp 46) (.tmp 48) (by kernel_rfl) pr (by kernel_rfl) (by kernel_rfl)) ?_
    refine g_pure (some 50) (.bool false) (by kernel_rfl) (by kernel_rfl) (fun _ => (by kernel_rfl)) ?_
    refine g_norm { tmps := List.toArray (List.append [(.slice a0 len0 cap0), undef, (.bool false), (.pointer (some ⟨gx, 0, none⟩)), (.string p), (.pointer (some ⟨gy, 0, none⟩)), (.bool false), (.pointer (some ⟨gw, 0, none⟩)), (.bool false), undef, (.slice a0 len0 cap0), (.bool false), (.tuple #[.agg (aggT x), .string p]), (.slice a0 len0 cap0), (.tuple #[.agg (aggT x), .string p]), (.agg (aggT x)), (.string p), (.tuple #[.agg (aggT noP), .bool false]), (.agg (aggT x)), (.string p), (.tuple #[.agg (aggT noP), .bool false]), (.agg (aggT noP)), (.bool false), (.tuple #[.agg (aggT noP), .bool false]), (.agg (aggT x)), (.string p), (.tuple #[.agg (aggT noP), .bool false]), (.agg (aggT noP)), (.bool false), (.bool false), (.bool false), (.bool false), (.bool false), (.agg (aggT noP)), (.agg (aggT noP)), (.bool false), (.bool false), (.bool false), (.agg (aggT x)), (.string p)] (List.append [(.bool false), (.bool false), (.bool false), (.bool false), (.bool false), (.string p), (.bool pr), (.string p), (.bool pr), (.bool false), (.bool false), undef, undef, undef, undef, undef, undef, undef, undef, undef, undef, undef, undef, undef, undef, undef, undef, undef, undef, undef, undef, undef, undef, undef, undef, undef, undef, undef, undef, undef] [undef, undef, undef, undef, undef, undef, undef, undef, undef, undef, undef, undef, undef])), defers := [] } (by kernel_rfl) ?_
    refine g_done ?_
    refine (by assumption : ∀ (a : Act) (w_1 : World), Code.wp _ _ _ a w_1 → _) _ _ ?_
    go_upto_region 9 with (fail)
    refine wp_region_line (S := fun w' => Held w' [(gw, aggT noP, 25), (gy, aggT noP, 25), (gx, aggT x, 25)]) [(true, 0), (true, 1), (true, 2), (true, 3), (true, 4), (false, 5), (true, 6), (true, 7)] (by kernel_rfl) (by kernel_rfl) HS3.out ?_
    refine SQ.out ?_
    refine g_held (some 53) (.agg (aggT noP)) (by kernel_rfl) (by kernel_rfl) (held_load 25 (.tmp 5) (by kernel_rfl) _ _ (by kernel_rfl) Fy.out) ?_
    refine g_pure (some 54) (.agg (aggT noP)) (by kernel_rfl) (by kernel_rfl) (held_build 25 #[] (by kernel_rfl) _ (by kernel_rfl) _ built_pair0) ?_
    refine g_take (some 55) (.bool true) (by kernel_rfl) (yields_eqP (by kernel_rfl) (.tmp 53) (.tmp 54) (by kernel_rfl) noP (by kernel_rfl) (by kernel_rfl)) ?_
    refine g_pure (some 56) (.bool true) (by kernel_rfl) (by kernel_rfl) (fun _ => (by kernel_rfl)) ?_
    refine g_pure (some 57) (.agg (aggT (⟨#[]⟩, ⟨#[5]⟩))) (by kernel_rfl) (wanted_by (g := 3) (b := true) (d := 56) (by kernel_rfl) (by kernel_rfl) (by kernel_rfl) (by kernel_rfl)) (held_build 25 #[(1, .const (.string ⟨#[5]⟩))] (by kernel_rfl) _ (by kernel_rfl) _ (built_pairB ⟨#[5]⟩)) ?_
    refine g_fn (some 58) [.agg (aggT (⟨#[]⟩, ⟨#[5]⟩)), .string ⟨#[7]⟩] Tryz.func12 (by kernel_rfl) (by kernel_rfl) (by kernel_rfl) (by kernel_rfl) (wanted_by (g := 3) (b := true) (d := 56) (by kernel_rfl) (by kernel_rfl) (by kernel_rfl) (by kernel_rfl)) (by kernel_rfl) ?_
    refine ((C7.out _)).mono ?_
    rintro e w4 ⟨rfl, bw4⟩
    have HG4 := Lib.hid (HG3.out.on bw4)
    have HS4 := Lib.hid HG4.out.h
    refine ⟨_, rfl, HS4.out, ?_⟩
    refine g_pure (some 59) (.bool true) (by kernel_rfl) (by kernel_rfl) (fun _ => (by kernel_rfl)) ?_
    refine g_pure (some 2) (.bool true) (by kernel_rfl) (by kernel_rfl) (fun _ => (by kernel_rfl)) ?_
    refine g_done ?_
    refine (by assumption : ∀ (a : Act) (w_1 : World), Code.wp _ Code.ret _ a w_1 → _) _ _ ?_
    refine wp_ret ?_
    exact ret_bool rfl (by kernel_rfl) (by kernel_rfl) ⟨rfl, HG4.out.b⟩
end Go.Proofs.YtejmogdognenmaaGreat
