/-
  The walk of laws.FnPairInverses.
-/
import Derived.Test.YtflfeepgkcamnaaGreatUDrawC
import Derived.Deep.DeepCutAuto
namespace Go.Proofs.YtflfeepgkcamnaaGreat
open Go.RowKit

theorem pow_sevenI : powPG (⟨#[]⟩, ⟨#[1]⟩) ⟨#[2]⟩ ⟨#[7]⟩ = (⟨#[6]⟩, ⟨#[]⟩) := by decide +kernel
theorem yields_lt {ops : Array Oper} {S : World → Prop} {o : Oper} {a : Act} (hw : Region.wanted o (yielded ops a.tmps) = true) (x : Operand) (ho : o.op = .binOp .lss 3 x (.const (.int .i64 100)) 3) (p : ByteArray) (hx : a.eval x = .int .i64 (p.size : Int)) {b : Bool} (h : decide ((p.size : Int) < 100) = b) : YieldsIf Tryz.prog ops S o (.bool b) a := by
  refine .inl ⟨hw, fun w _ => ?_⟩
  subst h
  unfold execOp
  simp only [ho, hx]
  go_simp
theorem yields_neqS {ops : Array Oper} {S : World → Prop} {o : Oper} {a : Act} (hw : Region.wanted o (yielded ops a.tmps) = true) (x y : Operand) (ho : o.op = .binOp .neq 25 x y 25) (z : Pt)
    (hx : a.eval x = .agg #[.string z.1, .string z.2]) (hy : a.eval y = .agg #[.string z.1, .string z.2]) : YieldsIf Tryz.prog ops S o (.bool false) a := by
  refine .inl ⟨hw, fun w _ => ?_⟩
  unfold execOp
  simp only [ho, hx, hy]
  go_simp
theorem wanted_no {ops : Array Oper} {i g : Nat} {b : Bool} {d : Tmp} {a : Act} (hg : (oAt ops i).guard = some (g, b)) (hs : Nat.blt g ops.size = true) (hd : (oAt ops g).dst = some d) (he : a.eval (.tmp d) = .bool (!b)) : Region.wanted (oAt ops i) (yielded ops a.tmps) = false := by
  have ho := oAt_some (Nat.blt_eq.mp hs)
  have e : a.tmps[d]? = some (.bool (!b)) := by
    have he' : a.tmps.getD d undef = .bool (!b) := he
    rw [Array.getD_eq_getD_getElem?] at he'
    cases hq : a.tmps[d]? with
    | none => rw [hq] at he'; cases he'
    | some v => rw [hq] at he'; exact congrArg some he'
  unfold Region.wanted yielded
  rw [hg]
  simp only [ho, Option.bind_some, hd, e]
  cases b <;> rfl
theorem g_skip {P : Program} {ops : Array Oper} {Q : Exit → Act → World → Prop} {S : World → Prop} {K : Act → World → Prop} {i : Nat} {r : List (Bool × Nat)} {a : Act} {w : World} (d : Option Tmp) (hd : (oAt ops i).dst = d) (hw : Region.wanted (oAt ops i) (yielded ops a.tmps) = false) (k : SQ P ops Q S K r (a.put d undef) w) : SQ P ops Q S K ((true, i) :: r) a w := ⟨sq_skip d hd hw k.out⟩
set_option maxRecDepth 8000 in
set_option maxHeartbeats 8000000 in
theorem inverses7_walk (a0 : Option Addr) (len0 cap0 : Nat) (z0 : List Int) (w : World) (w0 : IsRow .u8 w a0 len0 cap0 z0) :
    Calls Tryz.prog 3 #[.slice a0 len0 cap0] w (Yes w) := by
  have hlen : len0 ≤ maxLen := by rcases w0 with ⟨_, rfl, _⟩ | ⟨_, _, h1, h2, _⟩ <;> unfold maxLen at * <;> omega
  have HBig := Lib.hid (big_g a0 len0 cap0 w hlen)
  by_cases h1 : 1048576 < len0
  · have hd : decide ((1048576 : Int) < (len0 : Int)) = true := by simp; omega
    clear w0 hlen
    go_enter Tryz.func3, Tryz.ntmps3
    go_wp2_with fail
    refine HBig.out.mono ?_
    rintro e w' ⟨rfl, rfl⟩
    go_wp2
    go_ret
    exact ⟨rfl, Below.refl _ _⟩
  have hd : decide ((1048576 : Int) < (len0 : Int)) = false := by simp; omega
  have hdr := w0.draw (by omega)
  have HD := Lib.hid (drawInversePair_c a0 len0 cap0 w hdr)
  have HD2 := Lib.hid (fun (w' : World) (b : Below w.heap.size w w') => drawPowPair_c a0 len0 cap0 w' (hdr.on b))
  have HOne := Lib.hid one_fn
  have C7 := Lib.hid (powPair_i (⟨#[]⟩, ⟨#[1]⟩) ⟨#[2]⟩ ⟨#[7]⟩)
  rw [pow_sevenI] at C7
  clear w0 hlen h1 hdr
  go_enter Tryz.func3, Tryz.ntmps3
  go_wp2_with fail
  refine HBig.out.mono ?_
  rintro e w' ⟨rfl, rfl⟩
  go_wp2_with fail
  refine HD.out.mono ?_
  rintro e w1 ⟨x, p, rfl, _, _, b1⟩
  have HG1 := Lib.hid (Stand.mk (Held.none w1) b1)
  have HN1 := Lib.hid (heap_alloc_new w1 (.cells #[.string ⟨#[]⟩, .string ⟨#[]⟩] 25))
  have HQ1 := Lib.hid ((HG1.out.new #[.string ⟨#[]⟩, .string ⟨#[]⟩] 25).putAt HG1.out.b.size HG1.out.h.apart (aggT x))
  clear b1 HBig HD
  have HI := Lib.hid (inversePair_i x p)
  have HJ := Lib.hid (inversePair_any x p)
  unfold InvPPost at HI HJ
  have HInv := Lib.hid (fun h => pair_inv (x := x) (p := p) h)
  obtain ⟨y, hy⟩ : ∃ y, invPG x p = y := ⟨_, rfl⟩
  rw [hy] at HI HJ HInv
  clear hy
  cases hok : invPB x p with
  | true =>
    have CXy := Lib.hid (mulPair_i x y p)
    rw [HInv.out hok] at CXy
    clear HInv
    rw [hok] at HI HJ
    have HOKI := Lib.hid hok
    clear hok
    go_wp2_with (first | refine store_p rfl (.tmp 3) (.tmp 18) rfl w1.heap.size _ x rfl rfl HN1.out rfl ?_ | refine load_p rfl (.tmp 3) rfl w1.heap.size x rfl (HQ1.out.h _ (.head _)) ?_)
    generalize (w1.alloc (.cells #[.string ⟨#[]⟩, .string ⟨#[]⟩] 25)).setRow w1.heap.size (aggT x) = w2 at *
    generalize w1.heap.size = gx at *
    refine (HI.out _).mono ?_
    rintro e w3 ⟨rfl, b3⟩
    have HG3 := Lib.hid (HQ1.out.on b3)
    clear b3 HG1 HN1 HQ1 HI
    have HN3 := Lib.hid (heap_alloc_new w3 (.cells #[.string ⟨#[]⟩, .string ⟨#[]⟩] 25))
    have HQ3 := Lib.hid ((HG3.out.new #[.string ⟨#[]⟩, .string ⟨#[]⟩] 25).putAt HG3.out.b.size HG3.out.h.apart (aggT y))
    have HX3 := Lib.hid (HQ3.out.h _ (.tail _ (.head _)))
    go_wp2_with (first | refine store_p rfl (.tmp 5) (.tmp 24) rfl w3.heap.size _ y rfl rfl HN3.out rfl ?_ | refine load_p rfl (.tmp 3) rfl gx x rfl HX3.out ?_)
    generalize (w3.alloc (.cells #[.string ⟨#[]⟩, .string ⟨#[]⟩] 25)).setRow w3.heap.size (aggT y) = w4 at *
    generalize w3.heap.size = gy at *
    refine (HJ.out _).mono ?_
    rintro e w5 ⟨rfl, b5⟩
    have HG5 := Lib.hid (HQ3.out.on b5)
    clear b5 HG3 HN3 HQ3 HX3 HJ
    have HN5 := Lib.hid (heap_alloc_new w5 (.cells #[.string ⟨#[]⟩, .string ⟨#[]⟩] 25))
    have HQ5 := Lib.hid ((HG5.out.new #[.string ⟨#[]⟩, .string ⟨#[]⟩] 25).putAt HG5.out.b.size HG5.out.h.apart (aggT y))
    go_upto_region 6 with (first | refine store_p rfl (.tmp 7) (.tmp 30) rfl w5.heap.size _ y rfl rfl HN5.out rfl ?_)
    generalize (w5.alloc (.cells #[.string ⟨#[]⟩, .string ⟨#[]⟩] 25)).setRow w5.heap.size (aggT y) = w6 at *
    generalize w5.heap.size = gw at *
    have HG0 := Lib.hid HQ5.out
    have HS0 := Lib.hid HG0.out.h
    clear HG5 HN5 HQ5
    have Fy := Lib.hid (show ∀ w', Held w' [(gw, aggT y, 25), (gy, aggT y, 25), (gx, aggT x, 25)] → (Instr.loadAt 25 (.pointer (some ⟨gy, 0, none⟩))).run Tryz.prog w' = .ok (.agg (aggT y)) w' from fun w' hw => pair_load (hw _ (.tail _ (.head _))))
    have Fw := Lib.hid (show ∀ w', Held w' [(gw, aggT y, 25), (gy, aggT y, 25), (gx, aggT x, 25)] → (Instr.loadAt 25 (.pointer (some ⟨gw, 0, none⟩))).run Tryz.prog w' = .ok (.agg (aggT y)) w' from fun w' hw => pair_load (hw _ (.head _)))
    refine wp_region_line (S := fun w' => Held w' [(gw, aggT y, 25), (gy, aggT y, 25), (gx, aggT x, 25)]) [(true, 0), (true, 1), (true, 2), (true, 3), (true, 4), (true, 5), (true, 6), (true, 7)] (by kernel_rfl) (by kernel_rfl) HS0.out ?_
    refine SQ.out ?_
    refine g_pure (some 32) (.bool true) (by kernel_rfl) (by kernel_rfl) (fun _ => (by kernel_rfl)) ?_
    refine g_pure (some 33) (.bool true) (by kernel_rfl) (by kernel_rfl) (fun _ => (by kernel_rfl)) ?_
    refine g_pure (some 34) (.bool false) (by kernel_rfl) (by kernel_rfl) (fun _ => (by kernel_rfl)) ?_
    refine g_pure (some 35) (.bool false) (by kernel_rfl) (by kernel_rfl) (fun _ => (by kernel_rfl)) ?_
    refine g_held (some 36) (.agg (aggT y)) (by kernel_rfl) (wanted_by (g := 3) (b := false) (d := 35) (by kernel_rfl) (by kernel_rfl) (by kernel_rfl) (by kernel_rfl)) (held_load 25 (.tmp 5) (by kernel_rfl) _ _ (by kernel_rfl) Fy.out) ?_
    refine g_held (some 37) (.agg (aggT y)) (by kernel_rfl) (wanted_by (g := 3) (b := false) (d := 35) (by kernel_rfl) (by kernel_rfl) (by kernel_rfl) (by kernel_rfl)) (held_load 25 (.tmp 7) (by kernel_rfl) _ _ (by kernel_rfl) Fw.out) ?_
    refine g_take (some 38) (.bool false) (by kernel_rfl) (yields_neqS (wanted_by (g := 3) (b := false) (d := 35) (by kernel_rfl) (by kernel_rfl) (by kernel_rfl) (by kernel_rfl)) (.tmp 36) (.tmp 37) (by kernel_rfl) y (by kernel_rfl) (by kernel_rfl)) ?_
    refine g_pure (some 39) (.bool false) (by kernel_rfl) (by kernel_rfl) (fun _ => (by kernel_rfl)) ?_
    refine g_norm { tmps := List.toArray (List.append [(.slice a0 len0 cap0), undef, (.bool false), (.pointer (some ⟨gx, 0, none⟩)), (.string p), (.pointer (some ⟨gy, 0, none⟩)), (.bool true), (.pointer (some ⟨gw, 0, none⟩)), (.bool true), undef, undef, undef, undef, (.slice a0 len0 cap0), (.bool false), (.tuple #[.agg (aggT x), .string p]), (.slice a0 len0 cap0), (.tuple #[.agg (aggT x), .string p]), (.agg (aggT x)), (.string p), (.tuple #[.agg (aggT y), .bool true]), (.agg (aggT x)), (.string p), (.tuple #[.agg (aggT y), .bool true]), (.agg (aggT y)), (.bool true), (.tuple #[.agg (aggT y), .bool true]), (.agg (aggT x)), (.string p), (.tuple #[.agg (aggT y), .bool true]), (.agg (aggT y)), (.bool true), (.bool true), (.bool true), (.bool false), (.bool false), (.agg (aggT y)), (.agg (aggT y)), (.bool false), (.bool false)] (List.append [undef, undef, undef, undef, undef, undef, undef, undef, undef, undef, undef, undef, undef, undef, undef, undef, undef, undef, undef, undef, undef, undef, undef, undef, undef, undef, undef, undef, undef, undef, undef, undef, undef, undef, undef, undef, undef, undef, undef, undef] [undef, undef, undef, undef, undef, undef, undef, undef, undef, undef, undef, undef, undef, undef, undef, undef, undef, undef, undef])), defers := [] } (by kernel_rfl) ?_
    refine g_done ?_
    refine (by assumption : ∀ (a : Act) (w_1 : World), Code.wp _ _ _ a w_1 → _) _ _ ?_
    clear Fy Fw HS0
    go_upto_region 8 with (fail)
    go_wp2_with fail
    refine (HD2.out w6 (HG0.out.b)).mono ?_
    rintro e w7 ⟨z, m, q, rfl, b7⟩
    have HG7 := Lib.hid (HG0.out.on b7)
    clear b7 HG0 HD2
    have CP := Lib.hid (powPair_i z m q)
    have CS := Lib.hid (powPair_any z m q)
    have HN7 := Lib.hid (heap_alloc_new w7 (.cells #[.string ⟨#[]⟩, .string ⟨#[]⟩] 25))
    have HQ7 := Lib.hid ((HG7.out.new #[.string ⟨#[]⟩, .string ⟨#[]⟩] 25).putAt HG7.out.b.size HG7.out.h.apart (aggT z))
    go_wp2_with (first | refine store_p rfl (.tmp 9) (.tmp 43) rfl w7.heap.size _ z rfl rfl HN7.out rfl ?_ | refine load_p rfl (.tmp 9) rfl w7.heap.size z rfl (HQ7.out.h _ (.head _)) ?_)
    generalize (w7.alloc (.cells #[.string ⟨#[]⟩, .string ⟨#[]⟩] 25)).setRow w7.heap.size (aggT z) = w8 at *
    generalize w7.heap.size = gz at *
    have HPm := Lib.hid (fun (h1 : pairB z q = true) (h2 : okG m = true) (h3 : m.size ≤ 100) => pair_pow_more h1 h2 h3)
    have CMp := Lib.hid (mulPair_i (powPG z m q) z q)
    obtain ⟨pw, hpw⟩ : ∃ v, powPG z m q = v := ⟨_, rfl⟩
    rw [hpw] at CP CS HPm CMp
    clear hpw
    refine (CP.out _).mono ?_
    rintro e w9 ⟨rfl, b9⟩
    have HG9 := Lib.hid (HQ7.out.on b9)
    clear b9 HG7 HN7 HQ7 CP
    have HN9 := Lib.hid (heap_alloc_new w9 (.cells #[.string ⟨#[]⟩, .string ⟨#[]⟩] 25))
    have HQ9 := Lib.hid ((HG9.out.new #[.string ⟨#[]⟩, .string ⟨#[]⟩] 25).putAt HG9.out.b.size HG9.out.h.apart (aggT pw))
    go_upto_region 10 with (first | refine store_p rfl (.tmp 12) (.tmp 49) rfl w9.heap.size _ pw rfl rfl HN9.out rfl ?_)
    generalize (w9.alloc (.cells #[.string ⟨#[]⟩, .string ⟨#[]⟩] 25)).setRow w9.heap.size (aggT pw) = wa at *
    generalize w9.heap.size = gp at *
    have HG0 := Lib.hid HQ9.out.drew
    have HS0 := Lib.hid HG0.out.h
    clear HG9 HN9 HQ9
    have Fx := Lib.hid (show ∀ w', Held w' [(gp, aggT pw, 25), (gz, aggT z, 25), (gw, aggT y, 25), (gy, aggT y, 25), (gx, aggT x, 25)] → (Instr.loadAt 25 (.pointer (some ⟨gx, 0, none⟩))).run Tryz.prog w' = .ok (.agg (aggT x)) w' from fun w' hw => pair_load (hw _ (.tail _ (.tail _ (.tail _ (.tail _ (.head _)))))))
    have Fy := Lib.hid (show ∀ w', Held w' [(gp, aggT pw, 25), (gz, aggT z, 25), (gw, aggT y, 25), (gy, aggT y, 25), (gx, aggT x, 25)] → (Instr.loadAt 25 (.pointer (some ⟨gy, 0, none⟩))).run Tryz.prog w' = .ok (.agg (aggT y)) w' from fun w' hw => pair_load (hw _ (.tail _ (.tail _ (.tail _ (.head _))))))
    have Fz := Lib.hid (show ∀ w', Held w' [(gp, aggT pw, 25), (gz, aggT z, 25), (gw, aggT y, 25), (gy, aggT y, 25), (gx, aggT x, 25)] → (Instr.loadAt 25 (.pointer (some ⟨gz, 0, none⟩))).run Tryz.prog w' = .ok (.agg (aggT z)) w' from fun w' hw => pair_load (hw _ (.tail _ (.head _))))
    have Fp := Lib.hid (show ∀ w', Held w' [(gp, aggT pw, 25), (gz, aggT z, 25), (gw, aggT y, 25), (gy, aggT y, 25), (gx, aggT x, 25)] → (Instr.loadAt 25 (.pointer (some ⟨gp, 0, none⟩))).run Tryz.prog w' = .ok (.agg (aggT pw)) w' from fun w' hw => pair_load (hw _ (.head _)))
    refine wp_region_seq (S := fun w' => Held w' [(gp, aggT pw, 25), (gz, aggT z, 25), (gw, aggT y, 25), (gy, aggT y, 25), (gx, aggT x, 25)]) [⟨0, some 50, [12]⟩, ⟨0, some 51, [9]⟩, ⟨0, some 52, [10]⟩, ⟨0, some 53, [11]⟩, ⟨14, some 54, [51, 52, 53]⟩, ⟨17, some 55, [50, 54]⟩] [(true, 0), (true, 1), (true, 2), (true, 3), (false, 4), (true, 5)] (by kernel_rfl) (by kernel_rfl) (by kernel_rfl) (by kernel_rfl) (by kernel_rfl) (by kernel_rfl) (fun d _ _ _ _ h => by cases d <;> exact h) HS0.out ?_
    change seqH _ _ _ _ _ _ _ wa.drew
    generalize wa.drew = w0 at *
    refine SQ.out ?_
    refine g_held (some 50) (.agg (aggT pw)) (by kernel_rfl) (by kernel_rfl) (held_load 25 (.tmp 12) (by kernel_rfl) _ _ (by kernel_rfl) Fp.out) ?_
    refine g_held (some 51) (.agg (aggT z)) (by kernel_rfl) (by kernel_rfl) (held_load 25 (.tmp 9) (by kernel_rfl) _ _ (by kernel_rfl) Fz.out) ?_
    refine g_pure (some 52) (.string m) (by kernel_rfl) (by kernel_rfl) (fun _ => (by kernel_rfl)) ?_
    refine g_pure (some 53) (.string q) (by kernel_rfl) (by kernel_rfl) (fun _ => (by kernel_rfl)) ?_
    refine g_fn (some 54) [.agg (aggT z), .string m, .string q] Tryz.func10 (by kernel_rfl) (by kernel_rfl) (by kernel_rfl) (by kernel_rfl) (by kernel_rfl) (by kernel_rfl) ?_
    refine ((CS.out _)).mono ?_
    rintro e w1 ⟨rfl, bw1⟩
    have HG1 := Lib.hid (HG0.out.on bw1)
    have HS1 := Lib.hid HG1.out.h
    refine ⟨_, rfl, HS1.out, ?_⟩
    refine g_take (some 55) (.bool false) (by kernel_rfl) (yields_neqS (by kernel_rfl) (.tmp 50) (.tmp 54) (by kernel_rfl) pw (by kernel_rfl) (by kernel_rfl)) ?_
    refine g_norm { tmps := List.toArray (List.append [(.slice a0 len0 cap0), undef, (.bool false), (.pointer (some ⟨gx, 0, none⟩)), (.string p), (.pointer (some ⟨gy, 0, none⟩)), (.bool true), (.pointer (some ⟨gw, 0, none⟩)), (.bool true), (.pointer (some ⟨gz, 0, none⟩)), (.string m), (.string q), (.pointer (some ⟨gp, 0, none⟩)), (.slice a0 len0 cap0), (.bool false), (.tuple #[.agg (aggT x), .string p]), (.slice a0 len0 cap0), (.tuple #[.agg (aggT x), .string p]), (.agg (aggT x)), (.string p), (.tuple #[.agg (aggT y), .bool true]), (.agg (aggT x)), (.string p), (.tuple #[.agg (aggT y), .bool true]), (.agg (aggT y)), (.bool true), (.tuple #[.agg (aggT y), .bool true]), (.agg (aggT x)), (.string p), (.tuple #[.agg (aggT y), .bool true]), (.agg (aggT y)), (.bool true), (.bool true), (.bool true), (.bool false), (.bool false), (.agg (aggT y)), (.agg (aggT y)), (.bool false), (.bool false)] (List.append [(.tuple #[.agg (aggT z), .string m, .string q]), (.slice a0 len0 cap0), (.tuple #[.agg (aggT z), .string m, .string q]), (.agg (aggT z)), (.string m), (.string q), (.agg (aggT z)), (.string m), (.string q), (.agg (aggT pw)), (.agg (aggT pw)), (.agg (aggT z)), (.string m), (.string q), (.agg (aggT pw)), (.bool false), undef, undef, undef, undef, undef, undef, undef, undef, undef, undef, undef, undef, undef, undef, undef, undef, undef, undef, undef, undef, undef, undef, undef, undef] [undef, undef, undef, undef, undef, undef, undef, undef, undef, undef, undef, undef, undef, undef, undef, undef, undef, undef, undef])), defers := [] } (by kernel_rfl) ?_
    refine g_done ?_
    refine (by assumption : ∀ (a : Act) (w_1 : World), Code.wp _ _ _ a w_1 → _) _ _ ?_
    go_upto_region 12 with (fail)
    have HG2 := Lib.hid HG1.out.drew
    have HS2 := Lib.hid HG2.out.h
    clear CS HG0 HS0
    have COk := Lib.hid (pairOk_any z q)
    have CGr := Lib.hid (greatOk_any m)
    have CAd := Lib.hid (addGreat_any m ⟨#[1]⟩)
    have CPm := Lib.hid (powPair_i z (addG m ⟨#[1]⟩) q)
    cases h1 : pairB z q with
    | false =>
      rw [h1] at COk
      clear h1
      refine wp_region_seq (S := fun w' => Held w' [(gp, aggT pw, 25), (gz, aggT z, 25), (gw, aggT y, 25), (gy, aggT y, 25), (gx, aggT x, 25)]) [⟨0, some 56, [9]⟩, ⟨0, some 57, [11]⟩, ⟨3, some 58, [56, 57]⟩, ⟨4, some 59, [58]⟩, ⟨8, some 60, [10, 59]⟩, ⟨24, some 61, [60, 59]⟩, ⟨40, some 62, [59, 61]⟩, ⟨96, some 63, [62]⟩, ⟨128, some 64, [10, 63]⟩, ⟨384, some 65, [64, 63]⟩, ⟨640, some 66, [65, 63]⟩, ⟨1152, some 67, [63, 66]⟩, ⟨2176, some 68, [67]⟩, ⟨4096, some 69, [9, 68]⟩, ⟨4096, some 70, [10, 68]⟩, ⟨4096, some 71, [68]⟩, ⟨53248, some 72, [70, 71, 68]⟩, ⟨4096, some 73, [11, 68]⟩, ⟨208896, some 74, [69, 72, 73, 68]⟩, ⟨4096, some 75, [12, 68]⟩, ⟨4096, some 76, [9, 68]⟩, ⟨4096, some 77, [11, 68]⟩, ⟨3936256, some 78, [75, 76, 77, 68]⟩, ⟨4460544, some 79, [74, 78, 68]⟩, ⟨8392704, some 80, [68, 79]⟩] [(true, 0), (true, 1), (false, 2), (true, 3), (true, 4), (true, 5), (true, 6), (true, 7), (true, 8), (true, 9), (true, 10), (true, 11), (true, 12), (true, 13), (true, 14), (true, 15), (true, 16), (true, 17), (true, 18), (true, 19), (true, 20), (true, 21), (true, 22), (true, 23), (true, 24)] (by kernel_rfl) (by kernel_rfl) (by kernel_rfl) (by kernel_rfl) (by kernel_rfl) (by kernel_rfl) (fun d _ _ _ _ h => by cases d <;> exact h) HS2.out ?_
      change seqH _ _ _ _ _ _ _ w1.drew
      generalize w1.drew = w2 at *
      refine SQ.out ?_
      refine g_held (some 56) (.agg (aggT z)) (by kernel_rfl) (by kernel_rfl) (held_load 25 (.tmp 9) (by kernel_rfl) _ _ (by kernel_rfl) Fz.out) ?_
      refine g_pure (some 57) (.string q) (by kernel_rfl) (by kernel_rfl) (fun _ => (by kernel_rfl)) ?_
      refine g_fn (some 58) [.agg (aggT z), .string q] Tryz.func11 (by kernel_rfl) (by kernel_rfl) (by kernel_rfl) (by kernel_rfl) (by kernel_rfl) (by kernel_rfl) ?_
      refine ((COk.out _)).mono ?_
      rintro e w3 ⟨rfl, bw3⟩
      have HG3 := Lib.hid (HG2.out.on bw3)
      have HS3 := Lib.hid HG3.out.h
      refine ⟨_, rfl, HS3.out, ?_⟩
      refine g_pure (some 59) (.bool false) (by kernel_rfl) (by kernel_rfl) (fun _ => (by kernel_rfl)) ?_
      refine g_skip (some 60) (by kernel_rfl) (wanted_no (g := 3) (b := true) (d := 59) (by kernel_rfl) (by kernel_rfl) (by kernel_rfl) (by kernel_rfl)) ?_
      refine g_skip (some 61) (by kernel_rfl) (wanted_no (g := 3) (b := true) (d := 59) (by kernel_rfl) (by kernel_rfl) (by kernel_rfl) (by kernel_rfl)) ?_
      refine g_pure (some 62) (.bool false) (by kernel_rfl) (by kernel_rfl) (fun _ => (by kernel_rfl)) ?_
      refine g_pure (some 63) (.bool false) (by kernel_rfl) (by kernel_rfl) (fun _ => (by kernel_rfl)) ?_
      refine g_skip (some 64) (by kernel_rfl) (wanted_no (g := 7) (b := true) (d := 63) (by kernel_rfl) (by kernel_rfl) (by kernel_rfl) (by kernel_rfl)) ?_
      refine g_skip (some 65) (by kernel_rfl) (wanted_no (g := 7) (b := true) (d := 63) (by kernel_rfl) (by kernel_rfl) (by kernel_rfl) (by kernel_rfl)) ?_
      refine g_skip (some 66) (by kernel_rfl) (wanted_no (g := 7) (b := true) (d := 63) (by kernel_rfl) (by kernel_rfl) (by kernel_rfl) (by kernel_rfl)) ?_
      refine g_pure (some 67) (.bool false) (by kernel_rfl) (by kernel_rfl) (fun _ => (by kernel_rfl)) ?_
      refine g_pure (some 68) (.bool false) (by kernel_rfl) (by kernel_rfl) (fun _ => (by kernel_rfl)) ?_
      refine g_skip (some 69) (by kernel_rfl) (wanted_no (g := 12) (b := true) (d := 68) (by kernel_rfl) (by kernel_rfl) (by kernel_rfl) (by kernel_rfl)) ?_
      refine g_skip (some 70) (by kernel_rfl) (wanted_no (g := 12) (b := true) (d := 68) (by kernel_rfl) (by kernel_rfl) (by kernel_rfl) (by kernel_rfl)) ?_
      refine g_skip (some 71) (by kernel_rfl) (wanted_no (g := 12) (b := true) (d := 68) (by kernel_rfl) (by kernel_rfl) (by kernel_rfl) (by kernel_rfl)) ?_
      refine g_skip (some 72) (by kernel_rfl) (wanted_no (g := 12) (b := true) (d := 68) (by kernel_rfl) (by kernel_rfl) (by kernel_rfl) (by kernel_rfl)) ?_
      refine g_skip (some 73) (by kernel_rfl) (wanted_no (g := 12) (b := true) (d := 68) (by kernel_rfl) (by kernel_rfl) (by kernel_rfl) (by kernel_rfl)) ?_
      refine g_skip (some 74) (by kernel_rfl) (wanted_no (g := 12) (b := true) (d := 68) (by kernel_rfl) (by kernel_rfl) (by kernel_rfl) (by kernel_rfl)) ?_
      refine g_skip (some 75) (by kernel_rfl) (wanted_no (g := 12) (b := true) (d := 68) (by kernel_rfl) (by kernel_rfl) (by kernel_rfl) (by kernel_rfl)) ?_
      refine g_skip (some 76) (by kernel_rfl) (wanted_no (g := 12) (b := true) (d := 68) (by kernel_rfl) (by kernel_rfl) (by kernel_rfl) (by kernel_rfl)) ?_
      refine g_skip (some 77) (by kernel_rfl) (wanted_no (g := 12) (b := true) (d := 68) (by kernel_rfl) (by kernel_rfl) (by kernel_rfl) (by kernel_rfl)) ?_
      refine g_skip (some 78) (by kernel_rfl) (wanted_no (g := 12) (b := true) (d := 68) (by kernel_rfl) (by kernel_rfl) (by kernel_rfl) (by kernel_rfl)) ?_
      refine g_skip (some 79) (by kernel_rfl) (wanted_no (g := 12) (b := true) (d := 68) (by kernel_rfl) (by kernel_rfl) (by kernel_rfl) (by kernel_rfl)) ?_
      refine g_pure (some 80) (.bool false) (by kernel_rfl) (by kernel_rfl) (fun _ => (by kernel_rfl)) ?_
      refine g_norm { tmps := List.toArray (List.append [(.slice a0 len0 cap0), undef, (.bool false), (.pointer (some ⟨gx, 0, none⟩)), (.string p), (.pointer (some ⟨gy, 0, none⟩)), (.bool true), (.pointer (some ⟨gw, 0, none⟩)), (.bool true), (.pointer (some ⟨gz, 0, none⟩)), (.string m), (.string q), (.pointer (some ⟨gp, 0, none⟩)), (.slice a0 len0 cap0), (.bool false), (.tuple #[.agg (aggT x), .string p]), (.slice a0 len0 cap0), (.tuple #[.agg (aggT x), .string p]), (.agg (aggT x)), (.string p), (.tuple #[.agg (aggT y), .bool true]), (.agg (aggT x)), (.string p), (.tuple #[.agg (aggT y), .bool true]), (.agg (aggT y)), (.bool true), (.tuple #[.agg (aggT y), .bool true]), (.agg (aggT x)), (.string p), (.tuple #[.agg (aggT y), .bool true]), (.agg (aggT y)), (.bool true), (.bool true), (.bool true), (.bool false), (.bool false), (.agg (aggT y)), (.agg (aggT y)), (.bool false), (.bool false)] (List.append [(.tuple #[.agg (aggT z), .string m, .string q]), (.slice a0 len0 cap0), (.tuple #[.agg (aggT z), .string m, .string q]), (.agg (aggT z)), (.string m), (.string q), (.agg (aggT z)), (.string m), (.string q), (.agg (aggT pw)), (.agg (aggT pw)), (.agg (aggT z)), (.string m), (.string q), (.agg (aggT pw)), (.bool false), (.agg (aggT z)), (.string q), (.bool false), (.bool false), undef, undef, (.bool false), (.bool false), undef, undef, undef, (.bool false), (.bool false), undef, undef, undef, undef, undef, undef, undef, undef, undef, undef, undef] [(.bool false), undef, undef, undef, undef, undef, undef, undef, undef, undef, undef, undef, undef, undef, undef, undef, undef, undef, undef])), defers := [] } (by kernel_rfl) ?_
      refine g_done ?_
      refine (by assumption : ∀ (a : Act) (w_1 : World), Code.wp _ _ _ a w_1 → _) _ _ ?_
      go_upto_region 14 with (fail)
      refine wp_region_line (S := fun w' => Held w' [(gp, aggT pw, 25), (gz, aggT z, 25), (gw, aggT y, 25), (gy, aggT y, 25), (gx, aggT x, 25)]) [(true, 0), (true, 1), (true, 2), (true, 3), (true, 4), (true, 5), (false, 6), (false, 7), (true, 8), (true, 9), (true, 10), (true, 11), (false, 12), (true, 13), (false, 14), (true, 15), (true, 16), (true, 17), (true, 18)] (by kernel_rfl) (by kernel_rfl) HS3.out ?_
      refine SQ.out ?_
      refine g_pure (some 81) (.bool true) (by kernel_rfl) (by kernel_rfl) (fun _ => (by kernel_rfl)) ?_
      refine g_pure (some 82) (.bool false) (by kernel_rfl) (by kernel_rfl) (fun _ => (by kernel_rfl)) ?_
      refine g_pure (some 83) (.bool false) (by kernel_rfl) (by kernel_rfl) (fun _ => (by kernel_rfl)) ?_
      refine g_held (some 84) (.agg (aggT x)) (by kernel_rfl) (wanted_by (g := 2) (b := false) (d := 83) (by kernel_rfl) (by kernel_rfl) (by kernel_rfl) (by kernel_rfl)) (held_load 25 (.tmp 3) (by kernel_rfl) _ _ (by kernel_rfl) Fx.out) ?_
      refine g_held (some 85) (.agg (aggT y)) (by kernel_rfl) (wanted_by (g := 2) (b := false) (d := 83) (by kernel_rfl) (by kernel_rfl) (by kernel_rfl) (by kernel_rfl)) (held_load 25 (.tmp 5) (by kernel_rfl) _ _ (by kernel_rfl) Fy.out) ?_
      refine g_pure (some 86) (.string p) (by kernel_rfl) (wanted_by (g := 2) (b := false) (d := 83) (by kernel_rfl) (by kernel_rfl) (by kernel_rfl) (by kernel_rfl)) (fun _ => (by kernel_rfl)) ?_
      refine g_fn (some 87) [.agg (aggT x), .agg (aggT y), .string p] Tryz.func15 (by kernel_rfl) (by kernel_rfl) (by kernel_rfl) (by kernel_rfl) (wanted_by (g := 2) (b := false) (d := 83) (by kernel_rfl) (by kernel_rfl) (by kernel_rfl) (by kernel_rfl)) (by kernel_rfl) ?_
      refine ((CXy.out _)).mono ?_
      rintro e w4 ⟨rfl, bw4⟩
      have HG4 := Lib.hid (HG3.out.on bw4)
      have HS4 := Lib.hid HG4.out.h
      refine ⟨_, rfl, HS4.out, ?_⟩
      refine g_fn (some 88) [] Tryz.func14 (by kernel_rfl) (by kernel_rfl) (by kernel_rfl) (by kernel_rfl) (wanted_by (g := 2) (b := false) (d := 83) (by kernel_rfl) (by kernel_rfl) (by kernel_rfl) (by kernel_rfl)) (by kernel_rfl) ?_
      refine ((HOne.out _)).mono ?_
      rintro e w5 ⟨rfl, ew5⟩
      have bw5 : Below w4.heap.size w4 w5 := ew5 ▸ Below.refl _ _
      clear ew5
      have HG5 := Lib.hid (HG4.out.on bw5)
      have HS5 := Lib.hid HG5.out.h
      refine ⟨_, rfl, HS5.out, ?_⟩
      refine g_pure (some 89) (.agg (aggT (⟨#[1]⟩, ⟨#[]⟩))) (by kernel_rfl) (wanted_by (g := 2) (b := false) (d := 83) (by kernel_rfl) (by kernel_rfl) (by kernel_rfl) (by kernel_rfl)) (held_build 25 #[(0, .tmp 88)] (by kernel_rfl) _ (by kernel_rfl) _ (built_pairA ⟨#[1]⟩)) ?_
      refine g_take (some 90) (.bool true) (by kernel_rfl) (yields_eqP (wanted_by (g := 2) (b := false) (d := 83) (by kernel_rfl) (by kernel_rfl) (by kernel_rfl) (by kernel_rfl)) (.tmp 87) (.tmp 89) (by kernel_rfl) (⟨#[1]⟩, ⟨#[]⟩) (by kernel_rfl) (by kernel_rfl)) ?_
      refine g_pure (some 91) (.bool true) (by kernel_rfl) (by kernel_rfl) (fun _ => (by kernel_rfl)) ?_
      refine g_pure (some 92) (.bool true) (by kernel_rfl) (by kernel_rfl) (fun _ => (by kernel_rfl)) ?_
      refine g_fn (some 93) [] Tryz.func14 (by kernel_rfl) (by kernel_rfl) (by kernel_rfl) (by kernel_rfl) (wanted_by (g := 11) (b := true) (d := 92) (by kernel_rfl) (by kernel_rfl) (by kernel_rfl) (by kernel_rfl)) (by kernel_rfl) ?_
      refine ((HOne.out _)).mono ?_
      rintro e w6 ⟨rfl, ew6⟩
      have bw6 : Below w5.heap.size w5 w6 := ew6 ▸ Below.refl _ _
      clear ew6
      have HG6 := Lib.hid (HG5.out.on bw6)
      have HS6 := Lib.hid HG6.out.h
      refine ⟨_, rfl, HS6.out, ?_⟩
      refine g_pure (some 94) (.agg (aggT (⟨#[]⟩, ⟨#[1]⟩))) (by kernel_rfl) (wanted_by (g := 11) (b := true) (d := 92) (by kernel_rfl) (by kernel_rfl) (by kernel_rfl) (by kernel_rfl)) (held_build 25 #[(1, .tmp 93)] (by kernel_rfl) _ (by kernel_rfl) _ (built_pairB ⟨#[1]⟩)) ?_
      refine g_fn (some 95) [.agg (aggT (⟨#[]⟩, ⟨#[1]⟩)), .string ⟨#[2]⟩, .string ⟨#[7]⟩] Tryz.func9 (by kernel_rfl) (by kernel_rfl) (by kernel_rfl) (by kernel_rfl) (wanted_by (g := 11) (b := true) (d := 92) (by kernel_rfl) (by kernel_rfl) (by kernel_rfl) (by kernel_rfl)) (by kernel_rfl) ?_
      refine ((C7.out _)).mono ?_
      rintro e w7 ⟨rfl, bw7⟩
      have HG7 := Lib.hid (HG6.out.on bw7)
      have HS7 := Lib.hid HG7.out.h
      refine ⟨_, rfl, HS7.out, ?_⟩
      refine g_pure (some 96) (.agg (aggT (⟨#[6]⟩, ⟨#[]⟩))) (by kernel_rfl) (wanted_by (g := 11) (b := true) (d := 92) (by kernel_rfl) (by kernel_rfl) (by kernel_rfl) (by kernel_rfl)) (held_build 25 #[(0, .const (.string ⟨#[6]⟩))] (by kernel_rfl) _ (by kernel_rfl) _ (built_pairA ⟨#[6]⟩)) ?_
      refine g_take (some 97) (.bool true) (by kernel_rfl) (yields_eqP (wanted_by (g := 11) (b := true) (d := 92) (by kernel_rfl) (by kernel_rfl) (by kernel_rfl) (by kernel_rfl)) (.tmp 95) (.tmp 96) (by kernel_rfl) (⟨#[6]⟩, ⟨#[]⟩) (by kernel_rfl) (by kernel_rfl)) ?_
      refine g_pure (some 98) (.bool true) (by kernel_rfl) (by kernel_rfl) (fun _ => (by kernel_rfl)) ?_
      refine g_pure (some 2) (.bool true) (by kernel_rfl) (by kernel_rfl) (fun _ => (by kernel_rfl)) ?_
      refine g_done ?_
      refine (by assumption : ∀ (a : Act) (w_1 : World), Code.wp _ Code.ret _ a w_1 → _) _ _ ?_
      refine wp_ret ?_
      exact ret_bool rfl (by kernel_rfl) (by kernel_rfl) ⟨rfl, HG7.out.b⟩
    | true =>
      rw [h1] at COk
      cases h2 : okG m with
      | false =>
        rw [h2] at CGr
        clear h1 h2
        refine wp_region_seq (S := fun w' => Held w' [(gp, aggT pw, 25), (gz, aggT z, 25), (gw, aggT y, 25), (gy, aggT y, 25), (gx, aggT x, 25)]) [⟨0, some 56, [9]⟩, ⟨0, some 57, [11]⟩, ⟨3, some 58, [56, 57]⟩, ⟨4, some 59, [58]⟩, ⟨8, some 60, [10, 59]⟩, ⟨24, some 61, [60, 59]⟩, ⟨40, some 62, [59, 61]⟩, ⟨96, some 63, [62]⟩, ⟨128, some 64, [10, 63]⟩, ⟨384, some 65, [64, 63]⟩, ⟨640, some 66, [65, 63]⟩, ⟨1152, some 67, [63, 66]⟩, ⟨2176, some 68, [67]⟩, ⟨4096, some 69, [9, 68]⟩, ⟨4096, some 70, [10, 68]⟩, ⟨4096, some 71, [68]⟩, ⟨53248, some 72, [70, 71, 68]⟩, ⟨4096, some 73, [11, 68]⟩, ⟨208896, some 74, [69, 72, 73, 68]⟩, ⟨4096, some 75, [12, 68]⟩, ⟨4096, some 76, [9, 68]⟩, ⟨4096, some 77, [11, 68]⟩, ⟨3936256, some 78, [75, 76, 77, 68]⟩, ⟨4460544, some 79, [74, 78, 68]⟩, ⟨8392704, some 80, [68, 79]⟩] [(true, 0), (true, 1), (false, 2), (true, 3), (true, 4), (false, 5), (true, 6), (true, 7), (true, 8), (true, 9), (true, 10), (true, 11), (true, 12), (true, 13), (true, 14), (true, 15), (true, 16), (true, 17), (true, 18), (true, 19), (true, 20), (true, 21), (true, 22), (true, 23), (true, 24)] (by kernel_rfl) (by kernel_rfl) (by kernel_rfl) (by kernel_rfl) (by kernel_rfl) (by kernel_rfl) (fun d _ _ _ _ h => by cases d <;> exact h) HS2.out ?_
        change seqH _ _ _ _ _ _ _ w1.drew
        generalize w1.drew = w2 at *
        refine SQ.out ?_
        refine g_held (some 56) (.agg (aggT z)) (by kernel_rfl) (by kernel_rfl) (held_load 25 (.tmp 9) (by kernel_rfl) _ _ (by kernel_rfl) Fz.out) ?_
        refine g_pure (some 57) (.string q) (by kernel_rfl) (by kernel_rfl) (fun _ => (by kernel_rfl)) ?_
        refine g_fn (some 58) [.agg (aggT z), .string q] Tryz.func11 (by kernel_rfl) (by kernel_rfl) (by kernel_rfl) (by kernel_rfl) (by kernel_rfl) (by kernel_rfl) ?_
        refine ((COk.out _)).mono ?_
        rintro e w3 ⟨rfl, bw3⟩
        have HG3 := Lib.hid (HG2.out.on bw3)
        have HS3 := Lib.hid HG3.out.h
        refine ⟨_, rfl, HS3.out, ?_⟩
        refine g_pure (some 59) (.bool true) (by kernel_rfl) (by kernel_rfl) (fun _ => (by kernel_rfl)) ?_
        refine g_pure (some 60) (.string m) (by kernel_rfl) (wanted_by (g := 3) (b := true) (d := 59) (by kernel_rfl) (by kernel_rfl) (by kernel_rfl) (by kernel_rfl)) (fun _ => (by kernel_rfl)) ?_
        refine g_fn (some 61) [.string m] Tryz.func12 (by kernel_rfl) (by kernel_rfl) (by kernel_rfl) (by kernel_rfl) (wanted_by (g := 3) (b := true) (d := 59) (by kernel_rfl) (by kernel_rfl) (by kernel_rfl) (by kernel_rfl)) (by kernel_rfl) ?_
        refine ((CGr.out _)).mono ?_
        rintro e w4 ⟨rfl, ew4⟩
        have bw4 : Below w3.heap.size w3 w4 := ew4 ▸ Below.refl _ _
        clear ew4
        have HG4 := Lib.hid (HG3.out.on bw4)
        have HS4 := Lib.hid HG4.out.h
        refine ⟨_, rfl, HS4.out, ?_⟩
        refine g_pure (some 62) (.bool false) (by kernel_rfl) (by kernel_rfl) (fun _ => (by kernel_rfl)) ?_
        refine g_pure (some 63) (.bool false) (by kernel_rfl) (by kernel_rfl) (fun _ => (by kernel_rfl)) ?_
        refine g_skip (some 64) (by kernel_rfl) (wanted_no (g := 7) (b := true) (d := 63) (by kernel_rfl) (by kernel_rfl) (by kernel_rfl) (by kernel_rfl)) ?_
        refine g_skip (some 65) (by kernel_rfl) (wanted_no (g := 7) (b := true) (d := 63) (by kernel_rfl) (by kernel_rfl) (by kernel_rfl) (by kernel_rfl)) ?_
        refine g_skip (some 66) (by kernel_rfl) (wanted_no (g := 7) (b := true) (d := 63) (by kernel_rfl) (by kernel_rfl) (by kernel_rfl) (by kernel_rfl)) ?_
        refine g_pure (some 67) (.bool false) (by kernel_rfl) (by kernel_rfl) (fun _ => (by kernel_rfl)) ?_
        refine g_pure (some 68) (.bool false) (by kernel_rfl) (by kernel_rfl) (fun _ => (by kernel_rfl)) ?_
        refine g_skip (some 69) (by kernel_rfl) (wanted_no (g := 12) (b := true) (d := 68) (by kernel_rfl) (by kernel_rfl) (by kernel_rfl) (by kernel_rfl)) ?_
        refine g_skip (some 70) (by kernel_rfl) (wanted_no (g := 12) (b := true) (d := 68) (by kernel_rfl) (by kernel_rfl) (by kernel_rfl) (by kernel_rfl)) ?_
        refine g_skip (some 71) (by kernel_rfl) (wanted_no (g := 12) (b := true) (d := 68) (by kernel_rfl) (by kernel_rfl) (by kernel_rfl) (by kernel_rfl)) ?_
        refine g_skip (some 72) (by kernel_rfl) (wanted_no (g := 12) (b := true) (d := 68) (by kernel_rfl) (by kernel_rfl) (by kernel_rfl) (by kernel_rfl)) ?_
        refine g_skip (some 73) (by kernel_rfl) (wanted_no (g := 12) (b := true) (d := 68) (by kernel_rfl) (by kernel_rfl) (by kernel_rfl) (by kernel_rfl)) ?_
        refine g_skip (some 74) (by kernel_rfl) (wanted_no (g := 12) (b := true) (d := 68) (by kernel_rfl) (by kernel_rfl) (by kernel_rfl) (by kernel_rfl)) ?_
        refine g_skip (some 75) (by kernel_rfl) (wanted_no (g := 12) (b := true) (d := 68) (by kernel_rfl) (by kernel_rfl) (by kernel_rfl) (by kernel_rfl)) ?_
        refine g_skip (some 76) (by kernel_rfl) (wanted_no (g := 12) (b := true) (d := 68) (by kernel_rfl) (by kernel_rfl) (by kernel_rfl) (by kernel_rfl)) ?_
        refine g_skip (some 77) (by kernel_rfl) (wanted_no (g := 12) (b := true) (d := 68) (by kernel_rfl) (by kernel_rfl) (by kernel_rfl) (by kernel_rfl)) ?_
        refine g_skip (some 78) (by kernel_rfl) (wanted_no (g := 12) (b := true) (d := 68) (by kernel_rfl) (by kernel_rfl) (by kernel_rfl) (by kernel_rfl)) ?_
        refine g_skip (some 79) (by kernel_rfl) (wanted_no (g := 12) (b := true) (d := 68) (by kernel_rfl) (by kernel_rfl) (by kernel_rfl) (by kernel_rfl)) ?_
        refine g_pure (some 80) (.bool false) (by kernel_rfl) (by kernel_rfl) (fun _ => (by kernel_rfl)) ?_
        refine g_norm { tmps := List.toArray (List.append [(.slice a0 len0 cap0), undef, (.bool false), (.pointer (some ⟨gx, 0, none⟩)), (.string p), (.pointer (some ⟨gy, 0, none⟩)), (.bool true), (.pointer (some ⟨gw, 0, none⟩)), (.bool true), (.pointer (some ⟨gz, 0, none⟩)), (.string m), (.string q), (.pointer (some ⟨gp, 0, none⟩)), (.slice a0 len0 cap0), (.bool false), (.tuple #[.agg (aggT x), .string p]), (.slice a0 len0 cap0), (.tuple #[.agg (aggT x), .string p]), (.agg (aggT x)), (.string p), (.tuple #[.agg (aggT y), .bool true]), (.agg (aggT x)), (.string p), (.tuple #[.agg (aggT y), .bool true]), (.agg (aggT y)), (.bool true), (.tuple #[.agg (aggT y), .bool true]), (.agg (aggT x)), (.string p), (.tuple #[.agg (aggT y), .bool true]), (.agg (aggT y)), (.bool true), (.bool true), (.bool true), (.bool false), (.bool false), (.agg (aggT y)), (.agg (aggT y)), (.bool false), (.bool false)] (List.append [(.tuple #[.agg (aggT z), .string m, .string q]), (.slice a0 len0 cap0), (.tuple #[.agg (aggT z), .string m, .string q]), (.agg (aggT z)), (.string m), (.string q), (.agg (aggT z)), (.string m), (.string q), (.agg (aggT pw)), (.agg (aggT pw)), (.agg (aggT z)), (.string m), (.string q), (.agg (aggT pw)), (.bool false), (.agg (aggT z)), (.string q), (.bool true), (.bool true), (.string m), (.bool false), (.bool false), (.bool false), undef, undef, undef, (.bool false), (.bool false), undef, undef, undef, undef, undef, undef, undef, undef, undef, undef, undef] [(.bool false), undef, undef, undef, undef, undef, undef, undef, undef, undef, undef, undef, undef, undef, undef, undef, undef, undef, undef])), defers := [] } (by kernel_rfl) ?_
        refine g_done ?_
        refine (by assumption : ∀ (a : Act) (w_1 : World), Code.wp _ _ _ a w_1 → _) _ _ ?_
        go_upto_region 14 with (fail)
        refine wp_region_line (S := fun w' => Held w' [(gp, aggT pw, 25), (gz, aggT z, 25), (gw, aggT y, 25), (gy, aggT y, 25), (gx, aggT x, 25)]) [(true, 0), (true, 1), (true, 2), (true, 3), (true, 4), (true, 5), (false, 6), (false, 7), (true, 8), (true, 9), (true, 10), (true, 11), (false, 12), (true, 13), (false, 14), (true, 15), (true, 16), (true, 17), (true, 18)] (by kernel_rfl) (by kernel_rfl) HS4.out ?_
        refine SQ.out ?_
        refine g_pure (some 81) (.bool true) (by kernel_rfl) (by kernel_rfl) (fun _ => (by kernel_rfl)) ?_
        refine g_pure (some 82) (.bool false) (by kernel_rfl) (by kernel_rfl) (fun _ => (by kernel_rfl)) ?_
        refine g_pure (some 83) (.bool false) (by kernel_rfl) (by kernel_rfl) (fun _ => (by kernel_rfl)) ?_
        refine g_held (some 84) (.agg (aggT x)) (by kernel_rfl) (wanted_by (g := 2) (b := false) (d := 83) (by kernel_rfl) (by kernel_rfl) (by kernel_rfl) (by kernel_rfl)) (held_load 25 (.tmp 3) (by kernel_rfl) _ _ (by kernel_rfl) Fx.out) ?_
        refine g_held (some 85) (.agg (aggT y)) (by kernel_rfl) (wanted_by (g := 2) (b := false) (d := 83) (by kernel_rfl) (by kernel_rfl) (by kernel_rfl) (by kernel_rfl)) (held_load 25 (.tmp 5) (by kernel_rfl) _ _ (by kernel_rfl) Fy.out) ?_
        refine g_pure (some 86) (.string p) (by kernel_rfl) (wanted_by (g := 2) (b := false) (d := 83) (by kernel_rfl) (by kernel_rfl) (by kernel_rfl) (by kernel_rfl)) (fun _ => (by kernel_rfl)) ?_
        refine g_fn (some 87) [.agg (aggT x), .agg (aggT y), .string p] Tryz.func15 (by kernel_rfl) (by kernel_rfl) (by kernel_rfl) (by kernel_rfl) (wanted_by (g := 2) (b := false) (d := 83) (by kernel_rfl) (by kernel_rfl) (by kernel_rfl) (by kernel_rfl)) (by kernel_rfl) ?_
        refine ((CXy.out _)).mono ?_
        rintro e w5 ⟨rfl, bw5⟩
        have HG5 := Lib.hid (HG4.out.on bw5)
        have HS5 := Lib.hid HG5.out.h
        refine ⟨_, rfl, HS5.out, ?_⟩
        refine g_fn (some 88) [] Tryz.func14 (by kernel_rfl) (by kernel_rfl) (by kernel_rfl) (by kernel_rfl) (wanted_by (g := 2) (b := false) (d := 83) (by kernel_rfl) (by kernel_rfl) (by kernel_rfl) (by kernel_rfl)) (by kernel_rfl) ?_
        refine ((HOne.out _)).mono ?_
        rintro e w6 ⟨rfl, ew6⟩
        have bw6 : Below w5.heap.size w5 w6 := ew6 ▸ Below.refl _ _
        clear ew6
        have HG6 := Lib.hid (HG5.out.on bw6)
        have HS6 := Lib.hid HG6.out.h
        refine ⟨_, rfl, HS6.out, ?_⟩
        refine g_pure (some 89) (.agg (aggT (⟨#[1]⟩, ⟨#[]⟩))) (by kernel_rfl) (wanted_by (g := 2) (b := false) (d := 83) (by kernel_rfl) (by kernel_rfl) (by kernel_rfl) (by kernel_rfl)) (held_build 25 #[(0, .tmp 88)] (by kernel_rfl) _ (by kernel_rfl) _ (built_pairA ⟨#[1]⟩)) ?_
        refine g_take (some 90) (.bool true) (by kernel_rfl) (yields_eqP (wanted_by (g := 2) (b := false) (d := 83) (by kernel_rfl) (by kernel_rfl) (by kernel_rfl) (by kernel_rfl)) (.tmp 87) (.tmp 89) (by kernel_rfl) (⟨#[1]⟩, ⟨#[]⟩) (by kernel_rfl) (by kernel_rfl)) ?_
        refine g_pure (some 91) (.bool true) (by kernel_rfl) (by kernel_rfl) (fun _ => (by kernel_rfl)) ?_
        refine g_pure (some 92) (.bool true) (by kernel_rfl) (by kernel_rfl) (fun _ => (by kernel_rfl)) ?_
        refine g_fn (some 93) [] Tryz.func14 (by kernel_rfl) (by kernel_rfl) (by kernel_rfl) (by kernel_rfl) (wanted_by (g := 11) (b := true) (d := 92) (by kernel_rfl) (by kernel_rfl) (by kernel_rfl) (by kernel_rfl)) (by kernel_rfl) ?_
        refine ((HOne.out _)).mono ?_
        rintro e w7 ⟨rfl, ew7⟩
        have bw7 : Below w6.heap.size w6 w7 := ew7 ▸ Below.refl _ _
        clear ew7
        have HG7 := Lib.hid (HG6.out.on bw7)
        have HS7 := Lib.hid HG7.out.h
        refine ⟨_, rfl, HS7.out, ?_⟩
        refine g_pure (some 94) (.agg (aggT (⟨#[]⟩, ⟨#[1]⟩))) (by kernel_rfl) (wanted_by (g := 11) (b := true) (d := 92) (by kernel_rfl) (by kernel_rfl) (by kernel_rfl) (by kernel_rfl)) (held_build 25 #[(1, .tmp 93)] (by kernel_rfl) _ (by kernel_rfl) _ (built_pairB ⟨#[1]⟩)) ?_
        refine g_fn (some 95) [.agg (aggT (⟨#[]⟩, ⟨#[1]⟩)), .string ⟨#[2]⟩, .string ⟨#[7]⟩] Tryz.func9 (by kernel_rfl) (by kernel_rfl) (by kernel_rfl) (by kernel_rfl) (wanted_by (g := 11) (b := true) (d := 92) (by kernel_rfl) (by kernel_rfl) (by kernel_rfl) (by kernel_rfl)) (by kernel_rfl) ?_
        refine ((C7.out _)).mono ?_
        rintro e w8 ⟨rfl, bw8⟩
        have HG8 := Lib.hid (HG7.out.on bw8)
        have HS8 := Lib.hid HG8.out.h
        refine ⟨_, rfl, HS8.out, ?_⟩
        refine g_pure (some 96) (.agg (aggT (⟨#[6]⟩, ⟨#[]⟩))) (by kernel_rfl) (wanted_by (g := 11) (b := true) (d := 92) (by kernel_rfl) (by kernel_rfl) (by kernel_rfl) (by kernel_rfl)) (held_build 25 #[(0, .const (.string ⟨#[6]⟩))] (by kernel_rfl) _ (by kernel_rfl) _ (built_pairA ⟨#[6]⟩)) ?_
        refine g_take (some 97) (.bool true) (by kernel_rfl) (yields_eqP (wanted_by (g := 11) (b := true) (d := 92) (by kernel_rfl) (by kernel_rfl) (by kernel_rfl) (by kernel_rfl)) (.tmp 95) (.tmp 96) (by kernel_rfl) (⟨#[6]⟩, ⟨#[]⟩) (by kernel_rfl) (by kernel_rfl)) ?_
        refine g_pure (some 98) (.bool true) (by kernel_rfl) (by kernel_rfl) (fun _ => (by kernel_rfl)) ?_
        refine g_pure (some 2) (.bool true) (by kernel_rfl) (by kernel_rfl) (fun _ => (by kernel_rfl)) ?_
        refine g_done ?_
        refine (by assumption : ∀ (a : Act) (w_1 : World), Code.wp _ Code.ret _ a w_1 → _) _ _ ?_
        refine wp_ret ?_
        exact ret_bool rfl (by kernel_rfl) (by kernel_rfl) ⟨rfl, HG8.out.b⟩
      | true =>
        rw [h2] at CGr
        by_cases hf : m.size < 100
        · have hfew : decide ((m.size : Int) < 100) = true := by simp; omega
          have hm := HPm.out h1 h2 (by omega)
          rw [hm] at CPm
          obtain ⟨pm, hpm⟩ : ∃ v, mulPG pw z q = v := ⟨_, rfl⟩
          rw [hpm] at CPm CMp
          obtain ⟨m1, hm1⟩ : ∃ v, addG m ⟨#[1]⟩ = v := ⟨_, rfl⟩
          rw [hm1] at CAd CPm
          clear h1 h2 hm hpm hm1
          refine wp_region_seq (S := fun w' => Held w' [(gp, aggT pw, 25), (gz, aggT z, 25), (gw, aggT y, 25), (gy, aggT y, 25), (gx, aggT x, 25)]) [⟨0, some 56, [9]⟩, ⟨0, some 57, [11]⟩, ⟨3, some 58, [56, 57]⟩, ⟨4, some 59, [58]⟩, ⟨8, some 60, [10, 59]⟩, ⟨24, some 61, [60, 59]⟩, ⟨40, some 62, [59, 61]⟩, ⟨96, some 63, [62]⟩, ⟨128, some 64, [10, 63]⟩, ⟨384, some 65, [64, 63]⟩, ⟨640, some 66, [65, 63]⟩, ⟨1152, some 67, [63, 66]⟩, ⟨2176, some 68, [67]⟩, ⟨4096, some 69, [9, 68]⟩, ⟨4096, some 70, [10, 68]⟩, ⟨4096, some 71, [68]⟩, ⟨53248, some 72, [70, 71, 68]⟩, ⟨4096, some 73, [11, 68]⟩, ⟨208896, some 74, [69, 72, 73, 68]⟩, ⟨4096, some 75, [12, 68]⟩, ⟨4096, some 76, [9, 68]⟩, ⟨4096, some 77, [11, 68]⟩, ⟨3936256, some 78, [75, 76, 77, 68]⟩, ⟨4460544, some 79, [74, 78, 68]⟩, ⟨8392704, some 80, [68, 79]⟩] [(true, 0), (true, 1), (false, 2), (true, 3), (true, 4), (false, 5), (true, 6), (true, 7), (true, 8), (true, 9), (true, 10), (true, 11), (true, 12), (true, 13), (true, 14), (true, 17), (true, 19), (true, 20), (true, 21), (false, 15), (false, 16), (false, 18), (false, 22), (true, 23), (true, 24)] (by kernel_rfl) (by kernel_rfl) (by kernel_rfl) (by kernel_rfl) (by kernel_rfl) (by kernel_rfl) (fun d _ _ _ _ h => by cases d <;> exact h) HS2.out ?_
          change seqH _ _ _ _ _ _ _ w1.drew
          generalize w1.drew = w2 at *
          refine SQ.out ?_
          refine g_held (some 56) (.agg (aggT z)) (by kernel_rfl) (by kernel_rfl) (held_load 25 (.tmp 9) (by kernel_rfl) _ _ (by kernel_rfl) Fz.out) ?_
          refine g_pure (some 57) (.string q) (by kernel_rfl) (by kernel_rfl) (fun _ => (by kernel_rfl)) ?_
          refine g_fn (some 58) [.agg (aggT z), .string q] Tryz.func11 (by kernel_rfl) (by kernel_rfl) (by kernel_rfl) (by kernel_rfl) (by kernel_rfl) (by kernel_rfl) ?_
          refine ((COk.out _)).mono ?_
          rintro e w3 ⟨rfl, bw3⟩
          have HG3 := Lib.hid (HG2.out.on bw3)
          have HS3 := Lib.hid HG3.out.h
          refine ⟨_, rfl, HS3.out, ?_⟩
          refine g_pure (some 59) (.bool true) (by kernel_rfl) (by kernel_rfl) (fun _ => (by kernel_rfl)) ?_
          refine g_pure (some 60) (.string m) (by kernel_rfl) (wanted_by (g := 3) (b := true) (d := 59) (by kernel_rfl) (by kernel_rfl) (by kernel_rfl) (by kernel_rfl)) (fun _ => (by kernel_rfl)) ?_
          refine g_fn (some 61) [.string m] Tryz.func12 (by kernel_rfl) (by kernel_rfl) (by kernel_rfl) (by kernel_rfl) (wanted_by (g := 3) (b := true) (d := 59) (by kernel_rfl) (by kernel_rfl) (by kernel_rfl) (by kernel_rfl)) (by kernel_rfl) ?_
          refine ((CGr.out _)).mono ?_
          rintro e w4 ⟨rfl, ew4⟩
          have bw4 : Below w3.heap.size w3 w4 := ew4 ▸ Below.refl _ _
          clear ew4
          have HG4 := Lib.hid (HG3.out.on bw4)
          have HS4 := Lib.hid HG4.out.h
          refine ⟨_, rfl, HS4.out, ?_⟩
          refine g_pure (some 62) (.bool true) (by kernel_rfl) (by kernel_rfl) (fun _ => (by kernel_rfl)) ?_
          refine g_pure (some 63) (.bool true) (by kernel_rfl) (by kernel_rfl) (fun _ => (by kernel_rfl)) ?_
          refine g_pure (some 64) (.string m) (by kernel_rfl) (wanted_by (g := 7) (b := true) (d := 63) (by kernel_rfl) (by kernel_rfl) (by kernel_rfl) (by kernel_rfl)) (fun _ => (by kernel_rfl)) ?_
          refine g_pure (some 65) (.int .i64 (m.size : Int)) (by kernel_rfl) (wanted_by (g := 7) (b := true) (d := 63) (by kernel_rfl) (by kernel_rfl) (by kernel_rfl) (by kernel_rfl)) (fun _ => (by kernel_rfl)) ?_
          refine g_take (some 66) (.bool true) (by kernel_rfl) (yields_lt (wanted_by (g := 7) (b := true) (d := 63) (by kernel_rfl) (by kernel_rfl) (by kernel_rfl) (by kernel_rfl)) (.tmp 65) (by kernel_rfl) m (by kernel_rfl) hfew) ?_
          refine g_pure (some 67) (.bool true) (by kernel_rfl) (by kernel_rfl) (fun _ => (by kernel_rfl)) ?_
          refine g_pure (some 68) (.bool true) (by kernel_rfl) (by kernel_rfl) (fun _ => (by kernel_rfl)) ?_
          refine g_held (some 69) (.agg (aggT z)) (by kernel_rfl) (wanted_by (g := 12) (b := true) (d := 68) (by kernel_rfl) (by kernel_rfl) (by kernel_rfl) (by kernel_rfl)) (held_load 25 (.tmp 9) (by kernel_rfl) _ _ (by kernel_rfl) Fz.out) ?_
          refine g_pure (some 70) (.string m) (by kernel_rfl) (wanted_by (g := 12) (b := true) (d := 68) (by kernel_rfl) (by kernel_rfl) (by kernel_rfl) (by kernel_rfl)) (fun _ => (by kernel_rfl)) ?_
          refine g_pure (some 73) (.string q) (by kernel_rfl) (wanted_by (g := 12) (b := true) (d := 68) (by kernel_rfl) (by kernel_rfl) (by kernel_rfl) (by kernel_rfl)) (fun _ => (by kernel_rfl)) ?_
          refine g_held (some 75) (.agg (aggT pw)) (by kernel_rfl) (wanted_by (g := 12) (b := true) (d := 68) (by kernel_rfl) (by kernel_rfl) (by kernel_rfl) (by kernel_rfl)) (held_load 25 (.tmp 12) (by kernel_rfl) _ _ (by kernel_rfl) Fp.out) ?_
          refine g_held (some 76) (.agg (aggT z)) (by kernel_rfl) (wanted_by (g := 12) (b := true) (d := 68) (by kernel_rfl) (by kernel_rfl) (by kernel_rfl) (by kernel_rfl)) (held_load 25 (.tmp 9) (by kernel_rfl) _ _ (by kernel_rfl) Fz.out) ?_
          refine g_pure (some 77) (.string q) (by kernel_rfl) (wanted_by (g := 12) (b := true) (d := 68) (by kernel_rfl) (by kernel_rfl) (by kernel_rfl) (by kernel_rfl)) (fun _ => (by kernel_rfl)) ?_
          refine g_fn (some 71) [] Tryz.func14 (by kernel_rfl) (by kernel_rfl) (by kernel_rfl) (by kernel_rfl) (wanted_by (g := 12) (b := true) (d := 68) (by kernel_rfl) (by kernel_rfl) (by kernel_rfl) (by kernel_rfl)) (by kernel_rfl) ?_
          refine ((HOne.out _)).mono ?_
          rintro e w5 ⟨rfl, ew5⟩
          have bw5 : Below w4.heap.size w4 w5 := ew5 ▸ Below.refl _ _
          clear ew5
          have HG5 := Lib.hid (HG4.out.on bw5)
          have HS5 := Lib.hid HG5.out.h
          refine ⟨_, rfl, HS5.out, ?_⟩
          refine g_fn (some 72) [.string m, .string ⟨#[1]⟩] Tryz.func13 (by kernel_rfl) (by kernel_rfl) (by kernel_rfl) (by kernel_rfl) (wanted_by (g := 12) (b := true) (d := 68) (by kernel_rfl) (by kernel_rfl) (by kernel_rfl) (by kernel_rfl)) (by kernel_rfl) ?_
          refine ((CAd.out _)).mono ?_
          rintro e w6 ⟨rfl, bw6⟩
          have HG6 := Lib.hid (HG5.out.on bw6)
          have HS6 := Lib.hid HG6.out.h
          refine ⟨_, rfl, HS6.out, ?_⟩
          refine g_fn (some 74) [.agg (aggT z), .string m1, .string q] Tryz.func9 (by kernel_rfl) (by kernel_rfl) (by kernel_rfl) (by kernel_rfl) (wanted_by (g := 12) (b := true) (d := 68) (by kernel_rfl) (by kernel_rfl) (by kernel_rfl) (by kernel_rfl)) (by kernel_rfl) ?_
          refine ((CPm.out _)).mono ?_
          rintro e w7 ⟨rfl, bw7⟩
          have HG7 := Lib.hid (HG6.out.on bw7)
          have HS7 := Lib.hid HG7.out.h
          refine ⟨_, rfl, HS7.out, ?_⟩
          refine g_fn (some 78) [.agg (aggT pw), .agg (aggT z), .string q] Tryz.func15 (by kernel_rfl) (by kernel_rfl) (by kernel_rfl) (by kernel_rfl) (wanted_by (g := 12) (b := true) (d := 68) (by kernel_rfl) (by kernel_rfl) (by kernel_rfl) (by kernel_rfl)) (by kernel_rfl) ?_
          refine ((CMp.out _)).mono ?_
          rintro e w8 ⟨rfl, bw8⟩
          have HG8 := Lib.hid (HG7.out.on bw8)
          have HS8 := Lib.hid HG8.out.h
          refine ⟨_, rfl, HS8.out, ?_⟩
          refine g_take (some 79) (.bool false) (by kernel_rfl) (yields_neqS (wanted_by (g := 12) (b := true) (d := 68) (by kernel_rfl) (by kernel_rfl) (by kernel_rfl) (by kernel_rfl)) (.tmp 74) (.tmp 78) (by kernel_rfl) pm (by kernel_rfl) (by kernel_rfl)) ?_
          refine g_pure (some 80) (.bool false) (by kernel_rfl) (by kernel_rfl) (fun _ => (by kernel_rfl)) ?_
          refine g_norm { tmps := List.toArray (List.append [(.slice a0 len0 cap0), undef, (.bool false), (.pointer (some ⟨gx, 0, none⟩)), (.string p), (.pointer (some ⟨gy, 0, none⟩)), (.bool true), (.pointer (some ⟨gw, 0, none⟩)), (.bool true), (.pointer (some ⟨gz, 0, none⟩)), (.string m), (.string q), (.pointer (some ⟨gp, 0, none⟩)), (.slice a0 len0 cap0), (.bool false), (.tuple #[.agg (aggT x), .string p]), (.slice a0 len0 cap0), (.tuple #[.agg (aggT x), .string p]), (.agg (aggT x)), (.string p), (.tuple #[.agg (aggT y), .bool true]), (.agg (aggT x)), (.string p), (.tuple #[.agg (aggT y), .bool true]), (.agg (aggT y)), (.bool true), (.tuple #[.agg (aggT y), .bool true]), (.agg (aggT x)), (.string p), (.tuple #[.agg (aggT y), .bool true]), (.agg (aggT y)), (.bool true), (.bool true), (.bool true), (.bool false), (.bool false), (.agg (aggT y)), (.agg (aggT y)), (.bool false), (.bool false)] (List.append [(.tuple #[.agg (aggT z), .string m, .string q]), (.slice a0 len0 cap0), (.tuple #[.agg (aggT z), .string m, .string q]), (.agg (aggT z)), (.string m), (.string q), (.agg (aggT z)), (.string m), (.string q), (.agg (aggT pw)), (.agg (aggT pw)), (.agg (aggT z)), (.string m), (.string q), (.agg (aggT pw)), (.bool false), (.agg (aggT z)), (.string q), (.bool true), (.bool true), (.string m), (.bool true), (.bool true), (.bool true), (.string m), (.int .i64 (m.size : Int)), (.bool true), (.bool true), (.bool true), (.agg (aggT z)), (.string m), (.string ⟨#[1]⟩), (.string m1), (.string q), (.agg (aggT pm)), (.agg (aggT pw)), (.agg (aggT z)), (.string q), (.agg (aggT pm)), (.bool false)] [(.bool false), undef, undef, undef, undef, undef, undef, undef, undef, undef, undef, undef, undef, undef, undef, undef, undef, undef, undef])), defers := [] } (by kernel_rfl) ?_
          refine g_done ?_
          refine (by assumption : ∀ (a : Act) (w_1 : World), Code.wp _ _ _ a w_1 → _) _ _ ?_
          go_upto_region 14 with (fail)
          refine wp_region_line (S := fun w' => Held w' [(gp, aggT pw, 25), (gz, aggT z, 25), (gw, aggT y, 25), (gy, aggT y, 25), (gx, aggT x, 25)]) [(true, 0), (true, 1), (true, 2), (true, 3), (true, 4), (true, 5), (false, 6), (false, 7), (true, 8), (true, 9), (true, 10), (true, 11), (false, 12), (true, 13), (false, 14), (true, 15), (true, 16), (true, 17), (true, 18)] (by kernel_rfl) (by kernel_rfl) HS8.out ?_
          refine SQ.out ?_
          refine g_pure (some 81) (.bool true) (by kernel_rfl) (by kernel_rfl) (fun _ => (by kernel_rfl)) ?_
          refine g_pure (some 82) (.bool false) (by kernel_rfl) (by kernel_rfl) (fun _ => (by kernel_rfl)) ?_
          refine g_pure (some 83) (.bool false) (by kernel_rfl) (by kernel_rfl) (fun _ => (by kernel_rfl)) ?_
          refine g_held (some 84) (.agg (aggT x)) (by kernel_rfl) (wanted_by (g := 2) (b := false) (d := 83) (by kernel_rfl) (by kernel_rfl) (by kernel_rfl) (by kernel_rfl)) (held_load 25 (.tmp 3) (by kernel_rfl) _ _ (by kernel_rfl) Fx.out) ?_
          refine g_held (some 85) (.agg (aggT y)) (by kernel_rfl) (wanted_by (g := 2) (b := false) (d := 83) (by kernel_rfl) (by kernel_rfl) (by kernel_rfl) (by kernel_rfl)) (held_load 25 (.tmp 5) (by kernel_rfl) _ _ (by kernel_rfl) Fy.out) ?_
          refine g_pure (some 86) (.string p) (by kernel_rfl) (wanted_by (g := 2) (b := false) (d := 83) (by kernel_rfl) (by kernel_rfl) (by kernel_rfl) (by kernel_rfl)) (fun _ => (by kernel_rfl)) ?_
          refine g_fn (some 87) [.agg (aggT x), .agg (aggT y), .string p] Tryz.func15 (by kernel_rfl) (by kernel_rfl) (by kernel_rfl) (by kernel_rfl) (wanted_by (g := 2) (b := false) (d := 83) (by kernel_rfl) (by kernel_rfl) (by kernel_rfl) (by kernel_rfl)) (by kernel_rfl) ?_
          refine ((CXy.out _)).mono ?_
          rintro e w9 ⟨rfl, bw9⟩
          have HG9 := Lib.hid (HG8.out.on bw9)
          have HS9 := Lib.hid HG9.out.h
          refine ⟨_, rfl, HS9.out, ?_⟩
          refine g_fn (some 88) [] Tryz.func14 (by kernel_rfl) (by kernel_rfl) (by kernel_rfl) (by kernel_rfl) (wanted_by (g := 2) (b := false) (d := 83) (by kernel_rfl) (by kernel_rfl) (by kernel_rfl) (by kernel_rfl)) (by kernel_rfl) ?_
          refine ((HOne.out _)).mono ?_
          rintro e w10 ⟨rfl, ew10⟩
          have bw10 : Below w9.heap.size w9 w10 := ew10 ▸ Below.refl _ _
          clear ew10
          have HG10 := Lib.hid (HG9.out.on bw10)
          have HS10 := Lib.hid HG10.out.h
          refine ⟨_, rfl, HS10.out, ?_⟩
          refine g_pure (some 89) (.agg (aggT (⟨#[1]⟩, ⟨#[]⟩))) (by kernel_rfl) (wanted_by (g := 2) (b := false) (d := 83) (by kernel_rfl) (by kernel_rfl) (by kernel_rfl) (by kernel_rfl)) (held_build 25 #[(0, .tmp 88)] (by kernel_rfl) _ (by kernel_rfl) _ (built_pairA ⟨#[1]⟩)) ?_
          refine g_take (some 90) (.bool true) (by kernel_rfl) (yields_eqP (wanted_by (g := 2) (b := false) (d := 83) (by kernel_rfl) (by kernel_rfl) (by kernel_rfl) (by kernel_rfl)) (.tmp 87) (.tmp 89) (by kernel_rfl) (⟨#[1]⟩, ⟨#[]⟩) (by kernel_rfl) (by kernel_rfl)) ?_
          refine g_pure (some 91) (.bool true) (by kernel_rfl) (by kernel_rfl) (fun _ => (by kernel_rfl)) ?_
          refine g_pure (some 92) (.bool true) (by kernel_rfl) (by kernel_rfl) (fun _ => (by kernel_rfl)) ?_
          refine g_fn (some 93) [] Tryz.func14 (by kernel_rfl) (by kernel_rfl) (by kernel_rfl) (by kernel_rfl) (wanted_by (g := 11) (b := true) (d := 92) (by kernel_rfl) (by kernel_rfl) (by kernel_rfl) (by kernel_rfl)) (by kernel_rfl) ?_
          refine ((HOne.out _)).mono ?_
          rintro e w11 ⟨rfl, ew11⟩
          have bw11 : Below w10.heap.size w10 w11 := ew11 ▸ Below.refl _ _
          clear ew11
          have HG11 := Lib.hid (HG10.out.on bw11)
          have HS11 := Lib.hid HG11.out.h
          refine ⟨_, rfl, HS11.out, ?_⟩
          refine g_pure (some 94) (.agg (aggT (⟨#[]⟩, ⟨#[1]⟩))) (by kernel_rfl) (wanted_by (g := 11) (b := true) (d := 92) (by kernel_rfl) (by kernel_rfl) (by kernel_rfl) (by kernel_rfl)) (held_build 25 #[(1, .tmp 93)] (by kernel_rfl) _ (by kernel_rfl) _ (built_pairB ⟨#[1]⟩)) ?_
          refine g_fn (some 95) [.agg (aggT (⟨#[]⟩, ⟨#[1]⟩)), .string ⟨#[2]⟩, .string ⟨#[7]⟩] Tryz.func9 (by kernel_rfl) (by kernel_rfl) (by kernel_rfl) (by kernel_rfl) (wanted_by (g := 11) (b := true) (d := 92) (by kernel_rfl) (by kernel_rfl) (by kernel_rfl) (by kernel_rfl)) (by kernel_rfl) ?_
          refine ((C7.out _)).mono ?_
          rintro e w12 ⟨rfl, bw12⟩
          have HG12 := Lib.hid (HG11.out.on bw12)
          have HS12 := Lib.hid HG12.out.h
          refine ⟨_, rfl, HS12.out, ?_⟩
          refine g_pure (some 96) (.agg (aggT (⟨#[6]⟩, ⟨#[]⟩))) (by kernel_rfl) (wanted_by (g := 11) (b := true) (d := 92) (by kernel_rfl) (by kernel_rfl) (by kernel_rfl) (by kernel_rfl)) (held_build 25 #[(0, .const (.string ⟨#[6]⟩))] (by kernel_rfl) _ (by kernel_rfl) _ (built_pairA ⟨#[6]⟩)) ?_
          refine g_take (some 97) (.bool true) (by kernel_rfl) (yields_eqP (wanted_by (g := 11) (b := true) (d := 92) (by kernel_rfl) (by kernel_rfl) (by kernel_rfl) (by kernel_rfl)) (.tmp 95) (.tmp 96) (by kernel_rfl) (⟨#[6]⟩, ⟨#[]⟩) (by kernel_rfl) (by kernel_rfl)) ?_
          refine g_pure (some 98) (.bool true) (by kernel_rfl) (by kernel_rfl) (fun _ => (by kernel_rfl)) ?_
          refine g_pure (some 2) (.bool true) (by kernel_rfl) (by kernel_rfl) (fun _ => (by kernel_rfl)) ?_
          refine g_done ?_
          refine (by assumption : ∀ (a : Act) (w_1 : World), Code.wp _ Code.ret _ a w_1 → _) _ _ ?_
          refine wp_ret ?_
          exact ret_bool rfl (by kernel_rfl) (by kernel_rfl) ⟨rfl, HG12.out.b⟩
        · have hfew : decide ((m.size : Int) < 100) = false := by simp; omega
          clear h1 h2
          refine wp_region_seq (S := fun w' => Held w' [(gp, aggT pw, 25), (gz, aggT z, 25), (gw, aggT y, 25), (gy, aggT y, 25), (gx, aggT x, 25)]) [⟨0, some 56, [9]⟩, ⟨0, some 57, [11]⟩, ⟨3, some 58, [56, 57]⟩, ⟨4, some 59, [58]⟩, ⟨8, some 60, [10, 59]⟩, ⟨24, some 61, [60, 59]⟩, ⟨40, some 62, [59, 61]⟩, ⟨96, some 63, [62]⟩, ⟨128, some 64, [10, 63]⟩, ⟨384, some 65, [64, 63]⟩, ⟨640, some 66, [65, 63]⟩, ⟨1152, some 67, [63, 66]⟩, ⟨2176, some 68, [67]⟩, ⟨4096, some 69, [9, 68]⟩, ⟨4096, some 70, [10, 68]⟩, ⟨4096, some 71, [68]⟩, ⟨53248, some 72, [70, 71, 68]⟩, ⟨4096, some 73, [11, 68]⟩, ⟨208896, some 74, [69, 72, 73, 68]⟩, ⟨4096, some 75, [12, 68]⟩, ⟨4096, some 76, [9, 68]⟩, ⟨4096, some 77, [11, 68]⟩, ⟨3936256, some 78, [75, 76, 77, 68]⟩, ⟨4460544, some 79, [74, 78, 68]⟩, ⟨8392704, some 80, [68, 79]⟩] [(true, 0), (true, 1), (false, 2), (true, 3), (true, 4), (false, 5), (true, 6), (true, 7), (true, 8), (true, 9), (true, 10), (true, 11), (true, 12), (true, 13), (true, 14), (true, 15), (true, 16), (true, 17), (true, 18), (true, 19), (true, 20), (true, 21), (true, 22), (true, 23), (true, 24)] (by kernel_rfl) (by kernel_rfl) (by kernel_rfl) (by kernel_rfl) (by kernel_rfl) (by kernel_rfl) (fun d _ _ _ _ h => by cases d <;> exact h) HS2.out ?_
          change seqH _ _ _ _ _ _ _ w1.drew
          generalize w1.drew = w2 at *
          refine SQ.out ?_
          refine g_held (some 56) (.agg (aggT z)) (by kernel_rfl) (by kernel_rfl) (held_load 25 (.tmp 9) (by kernel_rfl) _ _ (by kernel_rfl) Fz.out) ?_
          refine g_pure (some 57) (.string q) (by kernel_rfl) (by kernel_rfl) (fun _ => (by kernel_rfl)) ?_
          refine g_fn (some 58) [.agg (aggT z), .string q] Tryz.func11 (by kernel_rfl) (by kernel_rfl) (by kernel_rfl) (by kernel_rfl) (by kernel_rfl) (by kernel_rfl) ?_
          refine ((COk.out _)).mono ?_
          rintro e w3 ⟨rfl, bw3⟩
          have HG3 := Lib.hid (HG2.out.on bw3)
          have HS3 := Lib.hid HG3.out.h
          refine ⟨_, rfl, HS3.out, ?_⟩
          refine g_pure (some 59) (.bool true) (by kernel_rfl) (by kernel_rfl) (fun _ => (by kernel_rfl)) ?_
          refine g_pure (some 60) (.string m) (by kernel_rfl) (wanted_by (g := 3) (b := true) (d := 59) (by kernel_rfl) (by kernel_rfl) (by kernel_rfl) (by kernel_rfl)) (fun _ => (by kernel_rfl)) ?_
          refine g_fn (some 61) [.string m] Tryz.func12 (by kernel_rfl) (by kernel_rfl) (by kernel_rfl) (by kernel_rfl) (wanted_by (g := 3) (b := true) (d := 59) (by kernel_rfl) (by kernel_rfl) (by kernel_rfl) (by kernel_rfl)) (by kernel_rfl) ?_
          refine ((CGr.out _)).mono ?_
          rintro e w4 ⟨rfl, ew4⟩
          have bw4 : Below w3.heap.size w3 w4 := ew4 ▸ Below.refl _ _
          clear ew4
          have HG4 := Lib.hid (HG3.out.on bw4)
          have HS4 := Lib.hid HG4.out.h
          refine ⟨_, rfl, HS4.out, ?_⟩
          refine g_pure (some 62) (.bool true) (by kernel_rfl) (by kernel_rfl) (fun _ => (by kernel_rfl)) ?_
          refine g_pure (some 63) (.bool true) (by kernel_rfl) (by kernel_rfl) (fun _ => (by kernel_rfl)) ?_
          refine g_pure (some 64) (.string m) (by kernel_rfl) (wanted_by (g := 7) (b := true) (d := 63) (by kernel_rfl) (by kernel_rfl) (by kernel_rfl) (by kernel_rfl)) (fun _ => (by kernel_rfl)) ?_
          refine g_pure (some 65) (.int .i64 (m.size : Int)) (by kernel_rfl) (wanted_by (g := 7) (b := true) (d := 63) (by kernel_rfl) (by kernel_rfl) (by kernel_rfl) (by kernel_rfl)) (fun _ => (by kernel_rfl)) ?_
          refine g_take (some 66) (.bool false) (by kernel_rfl) (yields_lt (wanted_by (g := 7) (b := true) (d := 63) (by kernel_rfl) (by kernel_rfl) (by kernel_rfl) (by kernel_rfl)) (.tmp 65) (by kernel_rfl) m (by kernel_rfl) hfew) ?_
          refine g_pure (some 67) (.bool false) (by kernel_rfl) (by kernel_rfl) (fun _ => (by kernel_rfl)) ?_
          refine g_pure (some 68) (.bool false) (by kernel_rfl) (by kernel_rfl) (fun _ => (by kernel_rfl)) ?_
          refine g_skip (some 69) (by kernel_rfl) (wanted_no (g := 12) (b := true) (d := 68) (by kernel_rfl) (by kernel_rfl) (by kernel_rfl) (by kernel_rfl)) ?_
          refine g_skip (some 70) (by kernel_rfl) (wanted_no (g := 12) (b := true) (d := 68) (by kernel_rfl) (by kernel_rfl) (by kernel_rfl) (by kernel_rfl)) ?_
          refine g_skip (some 71) (by kernel_rfl) (wanted_no (g := 12) (b := true) (d := 68) (by kernel_rfl) (by kernel_rfl) (by kernel_rfl) (by kernel_rfl)) ?_
          refine g_skip (some 72) (by kernel_rfl) (wanted_no (g := 12) (b := true) (d := 68) (by kernel_rfl) (by kernel_rfl) (by kernel_rfl) (by kernel_rfl)) ?_
          refine g_skip (some 73) (by kernel_rfl) (wanted_no (g := 12) (b := true) (d := 68) (by kernel_rfl) (by kernel_rfl) (by kernel_rfl) (by kernel_rfl)) ?_
          refine g_skip (some 74) (by kernel_rfl) (wanted_no (g := 12) (b := true) (d := 68) (by kernel_rfl) (by kernel_rfl) (by kernel_rfl) (by kernel_rfl)) ?_
          refine g_skip (some 75) (by kernel_rfl) (wanted_no (g := 12) (b := true) (d := 68) (by kernel_rfl) (by kernel_rfl) (by kernel_rfl) (by kernel_rfl)) ?_
          refine g_skip (some 76) (by kernel_rfl) (wanted_no (g := 12) (b := true) (d := 68) (by kernel_rfl) (by kernel_rfl) (by kernel_rfl) (by kernel_rfl)) ?_
          refine g_skip (some 77) (by kernel_rfl) (wanted_no (g := 12) (b := true) (d := 68) (by kernel_rfl) (by kernel_rfl) (by kernel_rfl) (by kernel_rfl)) ?_
          refine g_skip (some 78) (by kernel_rfl) (wanted_no (g := 12) (b := true) (d := 68) (by kernel_rfl) (by kernel_rfl) (by kernel_rfl) (by kernel_rfl)) ?_
          refine g_skip (some 79) (by kernel_rfl) (wanted_no (g := 12) (b := true) (d := 68) (by kernel_rfl) (by kernel_rfl) (by kernel_rfl) (by kernel_rfl)) ?_
          refine g_pure (some 80) (.bool false) (by kernel_rfl) (by kernel_rfl) (fun _ => (by kernel_rfl)) ?_
          refine g_norm { tmps := List.toArray (List.append [(.slice a0 len0 cap0), undef, (.bool false), (.pointer (some ⟨gx, 0, none⟩)), (.string p), (.pointer (some ⟨gy, 0, none⟩)), (.bool true), (.pointer (some ⟨gw, 0, none⟩)), (.bool true), (.pointer (some ⟨gz, 0, none⟩)), (.string m), (.string q), (.pointer (some ⟨gp, 0, none⟩)), (.slice a0 len0 cap0), (.bool false), (.tuple #[.agg (aggT x), .string p]), (.slice a0 len0 cap0), (.tuple #[.agg (aggT x), .string p]), (.agg (aggT x)), (.string p), (.tuple #[.agg (aggT y), .bool true]), (.agg (aggT x)), (.string p), (.tuple #[.agg (aggT y), .bool true]), (.agg (aggT y)), (.bool true), (.tuple #[.agg (aggT y), .bool true]), (.agg (aggT x)), (.string p), (.tuple #[.agg (aggT y), .bool true]), (.agg (aggT y)), (.bool true), (.bool true), (.bool true), (.bool false), (.bool false), (.agg (aggT y)), (.agg (aggT y)), (.bool false), (.bool false)] (List.append [(.tuple #[.agg (aggT z), .string m, .string q]), (.slice a0 len0 cap0), (.tuple #[.agg (aggT z), .string m, .string q]), (.agg (aggT z)), (.string m), (.string q), (.agg (aggT z)), (.string m), (.string q), (.agg (aggT pw)), (.agg (aggT pw)), (.agg (aggT z)), (.string m), (.string q), (.agg (aggT pw)), (.bool false), (.agg (aggT z)), (.string q), (.bool true), (.bool true), (.string m), (.bool true), (.bool true), (.bool true), (.string m), (.int .i64 (m.size : Int)), (.bool false), (.bool false), (.bool false), undef, undef, undef, undef, undef, undef, undef, undef, undef, undef, undef] [(.bool false), undef, undef, undef, undef, undef, undef, undef, undef, undef, undef, undef, undef, undef, undef, undef, undef, undef, undef])), defers := [] } (by kernel_rfl) ?_
          refine g_done ?_
          refine (by assumption : ∀ (a : Act) (w_1 : World), Code.wp _ _ _ a w_1 → _) _ _ ?_
          go_upto_region 14 with (fail)
          refine wp_region_line (S := fun w' => Held w' [(gp, aggT pw, 25), (gz, aggT z, 25), (gw, aggT y, 25), (gy, aggT y, 25), (gx, aggT x, 25)]) [(true, 0), (true, 1), (true, 2), (true, 3), (true, 4), (true, 5), (false, 6), (false, 7), (true, 8), (true, 9), (true, 10), (true, 11), (false, 12), (true, 13), (false, 14), (true, 15), (true, 16), (true, 17), (true, 18)] (by kernel_rfl) (by kernel_rfl) HS4.out ?_
          refine SQ.out ?_
          refine g_pure (some 81) (.bool true) (by kernel_rfl) (by kernel_rfl) (fun _ => (by kernel_rfl)) ?_
          refine g_pure (some 82) (.bool false) (by kernel_rfl) (by kernel_rfl) (fun _ => (by kernel_rfl)) ?_
          refine g_pure (some 83) (.bool false) (by kernel_rfl) (by kernel_rfl) (fun _ => (by kernel_rfl)) ?_
          refine g_held (some 84) (.agg (aggT x)) (by kernel_rfl) (wanted_by (g := 2) (b := false) (d := 83) (by kernel_rfl) (by kernel_rfl) (by kernel_rfl) (by kernel_rfl)) (held_load 25 (.tmp 3) (by kernel_rfl) _ _ (by kernel_rfl) Fx.out) ?_
          refine g_held (some 85) (.agg (aggT y)) (by kernel_rfl) (wanted_by (g := 2) (b := false) (d := 83) (by kernel_rfl) (by kernel_rfl) (by kernel_rfl) (by kernel_rfl)) (held_load 25 (.tmp 5) (by kernel_rfl) _ _ (by kernel_rfl) Fy.out) ?_
          refine g_pure (some 86) (.string p) (by kernel_rfl) (wanted_by (g := 2) (b := false) (d := 83) (by kernel_rfl) (by kernel_rfl) (by kernel_rfl) (by kernel_rfl)) (fun _ => (by kernel_rfl)) ?_
          refine g_fn (some 87) [.agg (aggT x), .agg (aggT y), .string p] Tryz.func15 (by kernel_rfl) (by kernel_rfl) (by kernel_rfl) (by kernel_rfl) (wanted_by (g := 2) (b := false) (d := 83) (by kernel_rfl) (by kernel_rfl) (by kernel_rfl) (by kernel_rfl)) (by kernel_rfl) ?_
          refine ((CXy.out _)).mono ?_
          rintro e w5 ⟨rfl, bw5⟩
          have HG5 := Lib.hid (HG4.out.on bw5)
          have HS5 := Lib.hid HG5.out.h
          refine ⟨_, rfl, HS5.out, ?_⟩
          refine g_fn (some 88) [] Tryz.func14 (by kernel_rfl) (by kernel_rfl) (by kernel_rfl) (by kernel_rfl) (wanted_by (g := 2) (b := false) (d := 83) (by kernel_rfl) (by kernel_rfl) (by kernel_rfl) (by kernel_rfl)) (by kernel_rfl) ?_
          refine ((HOne.out _)).mono ?_
          rintro e w6 ⟨rfl, ew6⟩
          have bw6 : Below w5.heap.size w5 w6 := ew6 ▸ Below.refl _ _
          clear ew6
          have HG6 := Lib.hid (HG5.out.on bw6)
          have HS6 := Lib.hid HG6.out.h
          refine ⟨_, rfl, HS6.out, ?_⟩
          refine g_pure (some 89) (.agg (aggT (⟨#[1]⟩, ⟨#[]⟩))) (by kernel_rfl) (wanted_by (g := 2) (b := false) (d := 83) (by kernel_rfl) (by kernel_rfl) (by kernel_rfl) (by kernel_rfl)) (held_build 25 #[(0, .tmp 88)] (by kernel_rfl) _ (by kernel_rfl) _ (built_pairA ⟨#[1]⟩)) ?_
          refine g_take (some 90) (.bool true) (by kernel_rfl) (yields_eqP (wanted_by (g := 2) (b := false) (d := 83) (by kernel_rfl) (by kernel_rfl) (by kernel_rfl) (by kernel_rfl)) (.tmp 87) (.tmp 89) (by kernel_rfl) (⟨#[1]⟩, ⟨#[]⟩) (by kernel_rfl) (by kernel_rfl)) ?_
          refine g_pure (some 91) (.bool true) (by kernel_rfl) (by kernel_rfl) (fun _ => (by kernel_rfl)) ?_
          refine g_pure (some 92) (.bool true) (by kernel_rfl) (by kernel_rfl) (fun _ => (by kernel_rfl)) ?_
          refine g_fn (some 93) [] Tryz.func14 (by kernel_rfl) (by kernel_rfl) (by kernel_rfl) (by kernel_rfl) (wanted_by (g := 11) (b := true) (d := 92) (by kernel_rfl) (by kernel_rfl) (by kernel_rfl) (by kernel_rfl)) (by kernel_rfl) ?_
          refine ((HOne.out _)).mono ?_
          rintro e w7 ⟨rfl, ew7⟩
          have bw7 : Below w6.heap.size w6 w7 := ew7 ▸ Below.refl _ _
          clear ew7
          have HG7 := Lib.hid (HG6.out.on bw7)
          have HS7 := Lib.hid HG7.out.h
          refine ⟨_, rfl, HS7.out, ?_⟩
          refine g_pure (some 94) (.agg (aggT (⟨#[]⟩, ⟨#[1]⟩))) (by kernel_rfl) (wanted_by (g := 11) (b := true) (d := 92) (by kernel_rfl) (by kernel_rfl) (by kernel_rfl) (by kernel_rfl)) (held_build 25 #[(1, .tmp 93)] (by kernel_rfl) _ (by kernel_rfl) _ (built_pairB ⟨#[1]⟩)) ?_
          refine g_fn (some 95) [.agg (aggT (⟨#[]⟩, ⟨#[1]⟩)), .string ⟨#[2]⟩, .string ⟨#[7]⟩] Tryz.func9 (by kernel_rfl) (by kernel_rfl) (by kernel_rfl) (by kernel_rfl) (wanted_by (g := 11) (b := true) (d := 92) (by kernel_rfl) (by kernel_rfl) (by kernel_rfl) (by kernel_rfl)) (by kernel_rfl) ?_
          refine ((C7.out _)).mono ?_
          rintro e w8 ⟨rfl, bw8⟩
          have HG8 := Lib.hid (HG7.out.on bw8)
          have HS8 := Lib.hid HG8.out.h
          refine ⟨_, rfl, HS8.out, ?_⟩
          refine g_pure (some 96) (.agg (aggT (⟨#[6]⟩, ⟨#[]⟩))) (by kernel_rfl) (wanted_by (g := 11) (b := true) (d := 92) (by kernel_rfl) (by kernel_rfl) (by kernel_rfl) (by kernel_rfl)) (held_build 25 #[(0, .const (.string ⟨#[6]⟩))] (by kernel_rfl) _ (by kernel_rfl) _ (built_pairA ⟨#[6]⟩)) ?_
          refine g_take (some 97) (.bool true) (by kernel_rfl) (yields_eqP (wanted_by (g := 11) (b := true) (d := 92) (by kernel_rfl) (by kernel_rfl) (by kernel_rfl) (by kernel_rfl)) (.tmp 95) (.tmp 96) (by kernel_rfl) (⟨#[6]⟩, ⟨#[]⟩) (by kernel_rfl) (by kernel_rfl)) ?_
          refine g_pure (some 98) (.bool true) (by kernel_rfl) (by kernel_rfl) (fun _ => (by kernel_rfl)) ?_
          refine g_pure (some 2) (.bool true) (by kernel_rfl) (by kernel_rfl) (fun _ => (by kernel_rfl)) ?_
          refine g_done ?_
          refine (by assumption : ∀ (a : Act) (w_1 : World), Code.wp _ Code.ret _ a w_1 → _) _ _ ?_
          refine wp_ret ?_
          exact ret_bool rfl (by kernel_rfl) (by kernel_rfl) ⟨rfl, HG8.out.b⟩
  | false =>
    clear HInv
    rw [hok] at HI HJ
    have HOKI := Lib.hid hok
    clear hok
    go_wp2_with (first | refine store_p rfl (.tmp 3) (.tmp 18) rfl w1.heap.size _ x rfl rfl HN1.out rfl ?_ | refine load_p rfl (.tmp 3) rfl w1.heap.size x rfl (HQ1.out.h _ (.head _)) ?_)
    generalize (w1.alloc (.cells #[.string ⟨#[]⟩, .string ⟨#[]⟩] 25)).setRow w1.heap.size (aggT x) = w2 at *
    generalize w1.heap.size = gx at *
    refine (HI.out _).mono ?_
    rintro e w3 ⟨rfl, b3⟩
    have HG3 := Lib.hid (HQ1.out.on b3)
    clear b3 HG1 HN1 HQ1 HI
    have HN3 := Lib.hid (heap_alloc_new w3 (.cells #[.string ⟨#[]⟩, .string ⟨#[]⟩] 25))
    have HQ3 := Lib.hid ((HG3.out.new #[.string ⟨#[]⟩, .string ⟨#[]⟩] 25).putAt HG3.out.b.size HG3.out.h.apart (aggT y))
    have HX3 := Lib.hid (HQ3.out.h _ (.tail _ (.head _)))
    go_wp2_with (first | refine store_p rfl (.tmp 5) (.tmp 24) rfl w3.heap.size _ y rfl rfl HN3.out rfl ?_ | refine load_p rfl (.tmp 3) rfl gx x rfl HX3.out ?_)
    generalize (w3.alloc (.cells #[.string ⟨#[]⟩, .string ⟨#[]⟩] 25)).setRow w3.heap.size (aggT y) = w4 at *
    generalize w3.heap.size = gy at *
    refine (HJ.out _).mono ?_
    rintro e w5 ⟨rfl, b5⟩
    have HG5 := Lib.hid (HQ3.out.on b5)
    clear b5 HG3 HN3 HQ3 HX3 HJ
    have HN5 := Lib.hid (heap_alloc_new w5 (.cells #[.string ⟨#[]⟩, .string ⟨#[]⟩] 25))
    have HQ5 := Lib.hid ((HG5.out.new #[.string ⟨#[]⟩, .string ⟨#[]⟩] 25).putAt HG5.out.b.size HG5.out.h.apart (aggT y))
    go_upto_region 6 with (first | refine store_p rfl (.tmp 7) (.tmp 30) rfl w5.heap.size _ y rfl rfl HN5.out rfl ?_)
    generalize (w5.alloc (.cells #[.string ⟨#[]⟩, .string ⟨#[]⟩] 25)).setRow w5.heap.size (aggT y) = w6 at *
    generalize w5.heap.size = gw at *
    have HG0 := Lib.hid HQ5.out
    have HS0 := Lib.hid HG0.out.h
    clear HG5 HN5 HQ5
    have Fy := Lib.hid (show ∀ w', Held w' [(gw, aggT y, 25), (gy, aggT y, 25), (gx, aggT x, 25)] → (Instr.loadAt 25 (.pointer (some ⟨gy, 0, none⟩))).run Tryz.prog w' = .ok (.agg (aggT y)) w' from fun w' hw => pair_load (hw _ (.tail _ (.head _))))
    have Fw := Lib.hid (show ∀ w', Held w' [(gw, aggT y, 25), (gy, aggT y, 25), (gx, aggT x, 25)] → (Instr.loadAt 25 (.pointer (some ⟨gw, 0, none⟩))).run Tryz.prog w' = .ok (.agg (aggT y)) w' from fun w' hw => pair_load (hw _ (.head _)))
    refine wp_region_line (S := fun w' => Held w' [(gw, aggT y, 25), (gy, aggT y, 25), (gx, aggT x, 25)]) [(true, 0), (true, 1), (true, 2), (true, 3), (true, 4), (true, 5), (true, 6), (true, 7)] (by kernel_rfl) (by kernel_rfl) HS0.out ?_
    refine SQ.out ?_
    refine g_pure (some 32) (.bool false) (by kernel_rfl) (by kernel_rfl) (fun _ => (by kernel_rfl)) ?_
    refine g_pure (some 33) (.bool false) (by kernel_rfl) (by kernel_rfl) (fun _ => (by kernel_rfl)) ?_
    refine g_pure (some 34) (.bool false) (by kernel_rfl) (by kernel_rfl) (fun _ => (by kernel_rfl)) ?_
    refine g_pure (some 35) (.bool false) (by kernel_rfl) (by kernel_rfl) (fun _ => (by kernel_rfl)) ?_
    refine g_held (some 36) (.agg (aggT y)) (by kernel_rfl) (wanted_by (g := 3) (b := false) (d := 35) (by kernel_rfl) (by kernel_rfl) (by kernel_rfl) (by kernel_rfl)) (held_load 25 (.tmp 5) (by kernel_rfl) _ _ (by kernel_rfl) Fy.out) ?_
    refine g_held (some 37) (.agg (aggT y)) (by kernel_rfl) (wanted_by (g := 3) (b := false) (d := 35) (by kernel_rfl) (by kernel_rfl) (by kernel_rfl) (by kernel_rfl)) (held_load 25 (.tmp 7) (by kernel_rfl) _ _ (by kernel_rfl) Fw.out) ?_
    refine g_take (some 38) (.bool false) (by kernel_rfl) (yields_neqS (wanted_by (g := 3) (b := false) (d := 35) (by kernel_rfl) (by kernel_rfl) (by kernel_rfl) (by kernel_rfl)) (.tmp 36) (.tmp 37) (by kernel_rfl) y (by kernel_rfl) (by kernel_rfl)) ?_
    refine g_pure (some 39) (.bool false) (by kernel_rfl) (by kernel_rfl) (fun _ => (by kernel_rfl)) ?_
    refine g_norm { tmps := List.toArray (List.append [(.slice a0 len0 cap0), undef, (.bool false), (.pointer (some ⟨gx, 0, none⟩)), (.string p), (.pointer (some ⟨gy, 0, none⟩)), (.bool false), (.pointer (some ⟨gw, 0, none⟩)), (.bool false), undef, undef, undef, undef, (.slice a0 len0 cap0), (.bool false), (.tuple #[.agg (aggT x), .string p]), (.slice a0 len0 cap0), (.tuple #[.agg (aggT x), .string p]), (.agg (aggT x)), (.string p), (.tuple #[.agg (aggT y), .bool false]), (.agg (aggT x)), (.string p), (.tuple #[.agg (aggT y), .bool false]), (.agg (aggT y)), (.bool false), (.tuple #[.agg (aggT y), .bool false]), (.agg (aggT x)), (.string p), (.tuple #[.agg (aggT y), .bool false]), (.agg (aggT y)), (.bool false), (.bool false), (.bool false), (.bool false), (.bool false), (.agg (aggT y)), (.agg (aggT y)), (.bool false), (.bool false)] (List.append [undef, undef, undef, undef, undef, undef, undef, undef, undef, undef, undef, undef, undef, undef, undef, undef, undef, undef, undef, undef, undef, undef, undef, undef, undef, undef, undef, undef, undef, undef, undef, undef, undef, undef, undef, undef, undef, undef, undef, undef] [undef, undef, undef, undef, undef, undef, undef, undef, undef, undef, undef, undef, undef, undef, undef, undef, undef, undef, undef])), defers := [] } (by kernel_rfl) ?_
    refine g_done ?_
    refine (by assumption : ∀ (a : Act) (w_1 : World), Code.wp _ _ _ a w_1 → _) _ _ ?_
    clear Fy Fw HS0
    go_upto_region 8 with (fail)
    go_wp2_with fail
    refine (HD2.out w6 (HG0.out.b)).mono ?_
    rintro e w7 ⟨z, m, q, rfl, b7⟩
    have HG7 := Lib.hid (HG0.out.on b7)
    clear b7 HG0 HD2
    have CP := Lib.hid (powPair_i z m q)
    have CS := Lib.hid (powPair_any z m q)
    have HN7 := Lib.hid (heap_alloc_new w7 (.cells #[.string ⟨#[]⟩, .string ⟨#[]⟩] 25))
    have HQ7 := Lib.hid ((HG7.out.new #[.string ⟨#[]⟩, .string ⟨#[]⟩] 25).putAt HG7.out.b.size HG7.out.h.apart (aggT z))
    go_wp2_with (first | refine store_p rfl (.tmp 9) (.tmp 43) rfl w7.heap.size _ z rfl rfl HN7.out rfl ?_ | refine load_p rfl (.tmp 9) rfl w7.heap.size z rfl (HQ7.out.h _ (.head _)) ?_)
    generalize (w7.alloc (.cells #[.string ⟨#[]⟩, .string ⟨#[]⟩] 25)).setRow w7.heap.size (aggT z) = w8 at *
    generalize w7.heap.size = gz at *
    have HPm := Lib.hid (fun (h1 : pairB z q = true) (h2 : okG m = true) (h3 : m.size ≤ 100) => pair_pow_more h1 h2 h3)
    have CMp := Lib.hid (mulPair_i (powPG z m q) z q)
    obtain ⟨pw, hpw⟩ : ∃ v, powPG z m q = v := ⟨_, rfl⟩
    rw [hpw] at CP CS HPm CMp
    clear hpw
    refine (CP.out _).mono ?_
    rintro e w9 ⟨rfl, b9⟩
    have HG9 := Lib.hid (HQ7.out.on b9)
    clear b9 HG7 HN7 HQ7 CP
    have HN9 := Lib.hid (heap_alloc_new w9 (.cells #[.string ⟨#[]⟩, .string ⟨#[]⟩] 25))
    have HQ9 := Lib.hid ((HG9.out.new #[.string ⟨#[]⟩, .string ⟨#[]⟩] 25).putAt HG9.out.b.size HG9.out.h.apart (aggT pw))
    go_upto_region 10 with (first | refine store_p rfl (.tmp 12) (.tmp 49) rfl w9.heap.size _ pw rfl rfl HN9.out rfl ?_)
    generalize (w9.alloc (.cells #[.string ⟨#[]⟩, .string ⟨#[]⟩] 25)).setRow w9.heap.size (aggT pw) = wa at *
    generalize w9.heap.size = gp at *
    have HG0 := Lib.hid HQ9.out.drew
    have HS0 := Lib.hid HG0.out.h
    clear HG9 HN9 HQ9
    have Fx := Lib.hid (show ∀ w', Held w' [(gp, aggT pw, 25), (gz, aggT z, 25), (gw, aggT y, 25), (gy, aggT y, 25), (gx, aggT x, 25)] → (Instr.loadAt 25 (.pointer (some ⟨gx, 0, none⟩))).run Tryz.prog w' = .ok (.agg (aggT x)) w' from fun w' hw => pair_load (hw _ (.tail _ (.tail _ (.tail _ (.tail _ (.head _)))))))
    have Fy := Lib.hid (show ∀ w', Held w' [(gp, aggT pw, 25), (gz, aggT z, 25), (gw, aggT y, 25), (gy, aggT y, 25), (gx, aggT x, 25)] → (Instr.loadAt 25 (.pointer (some ⟨gy, 0, none⟩))).run Tryz.prog w' = .ok (.agg (aggT y)) w' from fun w' hw => pair_load (hw _ (.tail _ (.tail _ (.tail _ (.head _))))))
    have Fz := Lib.hid (show ∀ w', Held w' [(gp, aggT pw, 25), (gz, aggT z, 25), (gw, aggT y, 25), (gy, aggT y, 25), (gx, aggT x, 25)] → (Instr.loadAt 25 (.pointer (some ⟨gz, 0, none⟩))).run Tryz.prog w' = .ok (.agg (aggT z)) w' from fun w' hw => pair_load (hw _ (.tail _ (.head _))))
    have Fp := Lib.hid (show ∀ w', Held w' [(gp, aggT pw, 25), (gz, aggT z, 25), (gw, aggT y, 25), (gy, aggT y, 25), (gx, aggT x, 25)] → (Instr.loadAt 25 (.pointer (some ⟨gp, 0, none⟩))).run Tryz.prog w' = .ok (.agg (aggT pw)) w' from fun w' hw => pair_load (hw _ (.head _)))
    refine wp_region_seq (S := fun w' => Held w' [(gp, aggT pw, 25), (gz, aggT z, 25), (gw, aggT y, 25), (gy, aggT y, 25), (gx, aggT x, 25)]) [⟨0, some 50, [12]⟩, ⟨0, some 51, [9]⟩, ⟨0, some 52, [10]⟩, ⟨0, some 53, [11]⟩, ⟨14, some 54, [51, 52, 53]⟩, ⟨17, some 55, [50, 54]⟩] [(true, 0), (true, 1), (true, 2), (true, 3), (false, 4), (true, 5)] (by kernel_rfl) (by kernel_rfl) (by kernel_rfl) (by kernel_rfl) (by kernel_rfl) (by kernel_rfl) (fun d _ _ _ _ h => by cases d <;> exact h) HS0.out ?_
    change seqH _ _ _ _ _ _ _ wa.drew
    generalize wa.drew = w0 at *
    refine SQ.out ?_
    refine g_held (some 50) (.agg (aggT pw)) (by kernel_rfl) (by kernel_rfl) (held_load 25 (.tmp 12) (by kernel_rfl) _ _ (by kernel_rfl) Fp.out) ?_
    refine g_held (some 51) (.agg (aggT z)) (by kernel_rfl) (by kernel_rfl) (held_load 25 (.tmp 9) (by kernel_rfl) _ _ (by kernel_rfl) Fz.out) ?_
    refine g_pure (some 52) (.string m) (by kernel_rfl) (by kernel_rfl) (fun _ => (by kernel_rfl)) ?_
    refine g_pure (some 53) (.string q) (by kernel_rfl) (by kernel_rfl) (fun _ => (by kernel_rfl)) ?_
    refine g_fn (some 54) [.agg (aggT z), .string m, .string q] Tryz.func10 (by kernel_rfl) (by kernel_rfl) (by kernel_rfl) (by kernel_rfl) (by kernel_rfl) (by kernel_rfl) ?_
    refine ((CS.out _)).mono ?_
    rintro e w1 ⟨rfl, bw1⟩
    have HG1 := Lib.hid (HG0.out.on bw1)
    have HS1 := Lib.hid HG1.out.h
    refine ⟨_, rfl, HS1.out, ?_⟩
    refine g_take (some 55) (.bool false) (by kernel_rfl) (yields_neqS (by kernel_rfl) (.tmp 50) (.tmp 54) (by kernel_rfl) pw (by kernel_rfl) (by kernel_rfl)) ?_
    refine g_norm { tmps := List.toArray (List.append [(.slice a0 len0 cap0), undef, (.bool false), (.pointer (some ⟨gx, 0, none⟩)), (.string p), (.pointer (some ⟨gy, 0, none⟩)), (.bool false), (.pointer (some ⟨gw, 0, none⟩)), (.bool false), (.pointer (some ⟨gz, 0, none⟩)), (.string m), (.string q), (.pointer (some ⟨gp, 0, none⟩)), (.slice a0 len0 cap0), (.bool false), (.tuple #[.agg (aggT x), .string p]), (.slice a0 len0 cap0), (.tuple #[.agg (aggT x), .string p]), (.agg (aggT x)), (.string p), (.tuple #[.agg (aggT y), .bool false]), (.agg (aggT x)), (.string p), (.tuple #[.agg (aggT y), .bool false]), (.agg (aggT y)), (.bool false), (.tuple #[.agg (aggT y), .bool false]), (.agg (aggT x)), (.string p), (.tuple #[.agg (aggT y), .bool false]), (.agg (aggT y)), (.bool false), (.bool false), (.bool false), (.bool false), (.bool false), (.agg (aggT y)), (.agg (aggT y)), (.bool false), (.bool false)] (List.append [(.tuple #[.agg (aggT z), .string m, .string q]), (.slice a0 len0 cap0), (.tuple #[.agg (aggT z), .string m, .string q]), (.agg (aggT z)), (.string m), (.string q), (.agg (aggT z)), (.string m), (.string q), (.agg (aggT pw)), (.agg (aggT pw)), (.agg (aggT z)), (.string m), (.string q), (.agg (aggT pw)), (.bool false), undef, undef, undef, undef, undef, undef, undef, undef, undef, undef, undef, undef, undef, undef, undef, undef, undef, undef, undef, undef, undef, undef, undef, undef] [undef, undef, undef, undef, undef, undef, undef, undef, undef, undef, undef, undef, undef, undef, undef, undef, undef, undef, undef])), defers := [] } (by kernel_rfl) ?_
    refine g_done ?_
    refine (by assumption : ∀ (a : Act) (w_1 : World), Code.wp _ _ _ a w_1 → _) _ _ ?_
    go_upto_region 12 with (fail)
    have HG2 := Lib.hid HG1.out.drew
    have HS2 := Lib.hid HG2.out.h
    clear CS HG0 HS0
    have COk := Lib.hid (pairOk_any z q)
    have CGr := Lib.hid (greatOk_any m)
    have CAd := Lib.hid (addGreat_any m ⟨#[1]⟩)
    have CPm := Lib.hid (powPair_i z (addG m ⟨#[1]⟩) q)
    cases h1 : pairB z q with
    | false =>
      rw [h1] at COk
      clear h1
      refine wp_region_seq (S := fun w' => Held w' [(gp, aggT pw, 25), (gz, aggT z, 25), (gw, aggT y, 25), (gy, aggT y, 25), (gx, aggT x, 25)]) [⟨0, some 56, [9]⟩, ⟨0, some 57, [11]⟩, ⟨3, some 58, [56, 57]⟩, ⟨4, some 59, [58]⟩, ⟨8, some 60, [10, 59]⟩, ⟨24, some 61, [60, 59]⟩, ⟨40, some 62, [59, 61]⟩, ⟨96, some 63, [62]⟩, ⟨128, some 64, [10, 63]⟩, ⟨384, some 65, [64, 63]⟩, ⟨640, some 66, [65, 63]⟩, ⟨1152, some 67, [63, 66]⟩, ⟨2176, some 68, [67]⟩, ⟨4096, some 69, [9, 68]⟩, ⟨4096, some 70, [10, 68]⟩, ⟨4096, some 71, [68]⟩, ⟨53248, some 72, [70, 71, 68]⟩, ⟨4096, some 73, [11, 68]⟩, ⟨208896, some 74, [69, 72, 73, 68]⟩, ⟨4096, some 75, [12, 68]⟩, ⟨4096, some 76, [9, 68]⟩, ⟨4096, some 77, [11, 68]⟩, ⟨3936256, some 78, [75, 76, 77, 68]⟩, ⟨4460544, some 79, [74, 78, 68]⟩, ⟨8392704, some 80, [68, 79]⟩] [(true, 0), (true, 1), (false, 2), (true, 3), (true, 4), (true, 5), (true, 6), (true, 7), (true, 8), (true, 9), (true, 10), (true, 11), (true, 12), (true, 13), (true, 14), (true, 15), (true, 16), (true, 17), (true, 18), (true, 19), (true, 20), (true, 21), (true, 22), (true, 23), (true, 24)] (by kernel_rfl) (by kernel_rfl) (by kernel_rfl) (by kernel_rfl) (by kernel_rfl) (by kernel_rfl) (fun d _ _ _ _ h => by cases d <;> exact h) HS2.out ?_
      change seqH _ _ _ _ _ _ _ w1.drew
      generalize w1.drew = w2 at *
      refine SQ.out ?_
      refine g_held (some 56) (.agg (aggT z)) (by kernel_rfl) (by kernel_rfl) (held_load 25 (.tmp 9) (by kernel_rfl) _ _ (by kernel_rfl) Fz.out) ?_
      refine g_pure (some 57) (.string q) (by kernel_rfl) (by kernel_rfl) (fun _ => (by kernel_rfl)) ?_
      refine g_fn (some 58) [.agg (aggT z), .string q] Tryz.func11 (by kernel_rfl) (by kernel_rfl) (by kernel_rfl) (by kernel_rfl) (by kernel_rfl) (by kernel_rfl) ?_
      refine ((COk.out _)).mono ?_
      rintro e w3 ⟨rfl, bw3⟩
      have HG3 := Lib.hid (HG2.out.on bw3)
      have HS3 := Lib.hid HG3.out.h
      refine ⟨_, rfl, HS3.out, ?_⟩
      refine g_pure (some 59) (.bool false) (by kernel_rfl) (by kernel_rfl) (fun _ => (by kernel_rfl)) ?_
      refine g_skip (some 60) (by kernel_rfl) (wanted_no (g := 3) (b := true) (d := 59) (by kernel_rfl) (by kernel_rfl) (by kernel_rfl) (by kernel_rfl)) ?_
      refine g_skip (some 61) (by kernel_rfl) (wanted_no (g := 3) (b := true) (d := 59) (by kernel_rfl) (by kernel_rfl) (by kernel_rfl) (by kernel_rfl)) ?_
      refine g_pure (some 62) (.bool false) (by kernel_rfl) (by kernel_rfl) (fun _ => (by kernel_rfl)) ?_
      refine g_pure (some 63) (.bool false) (by kernel_rfl) (by kernel_rfl) (fun _ => (by kernel_rfl)) ?_
      refine g_skip (some 64) (by kernel_rfl) (wanted_no (g := 7) (b := true) (d := 63) (by kernel_rfl) (by kernel_rfl) (by kernel_rfl) (by kernel_rfl)) ?_
      refine g_skip (some 65) (by kernel_rfl) (wanted_no (g := 7) (b := true) (d := 63) (by kernel_rfl) (by kernel_rfl) (by kernel_rfl) (by kernel_rfl)) ?_
      refine g_skip (some 66) (by kernel_rfl) (wanted_no (g := 7) (b := true) (d := 63) (by kernel_rfl) (by kernel_rfl) (by kernel_rfl) (by kernel_rfl)) ?_
      refine g_pure (some 67) (.bool false) (by kernel_rfl) (by kernel_rfl) (fun _ => (by kernel_rfl)) ?_
      refine g_pure (some 68) (.bool false) (by kernel_rfl) (by kernel_rfl) (fun _ => (by kernel_rfl)) ?_
      refine g_skip (some 69) (by kernel_rfl) (wanted_no (g := 12) (b := true) (d := 68) (by kernel_rfl) (by kernel_rfl) (by kernel_rfl) (by kernel_rfl)) ?_
      refine g_skip (some 70) (by kernel_rfl) (wanted_no (g := 12) (b := true) (d := 68) (by kernel_rfl) (by kernel_rfl) (by kernel_rfl) (by kernel_rfl)) ?_
      refine g_skip (some 71) (by kernel_rfl) (wanted_no (g := 12) (b := true) (d := 68) (by kernel_rfl) (by kernel_rfl) (by kernel_rfl) (by kernel_rfl)) ?_
      refine g_skip (some 72) (by kernel_rfl) (wanted_no (g := 12) (b := true) (d := 68) (by kernel_rfl) (by kernel_rfl) (by kernel_rfl) (by kernel_rfl)) ?_
      refine g_skip (some 73) (by kernel_rfl) (wanted_no (g := 12) (b := true) (d := 68) (by kernel_rfl) (by kernel_rfl) (by kernel_rfl) (by kernel_rfl)) ?_
      refine g_skip (some 74) (by kernel_rfl) (wanted_no (g := 12) (b := true) (d := 68) (by kernel_rfl) (by kernel_rfl) (by kernel_rfl) (by kernel_rfl)) ?_
      refine g_skip (some 75) (by kernel_rfl) (wanted_no (g := 12) (b := true) (d := 68) (by kernel_rfl) (by kernel_rfl) (by kernel_rfl) (by kernel_rfl)) ?_
      refine g_skip (some 76) (by kernel_rfl) (wanted_no (g := 12) (b := true) (d := 68) (by kernel_rfl) (by kernel_rfl) (by kernel_rfl) (by kernel_rfl)) ?_
      refine g_skip (some 77) (by kernel_rfl) (wanted_no (g := 12) (b := true) (d := 68) (by kernel_rfl) (by kernel_rfl) (by kernel_rfl) (by kernel_rfl)) ?_
      refine g_skip (some 78) (by kernel_rfl) (wanted_no (g := 12) (b := true) (d := 68) (by kernel_rfl) (by kernel_rfl) (by kernel_rfl) (by kernel_rfl)) ?_
      refine g_skip (some 79) (by kernel_rfl) (wanted_no (g := 12) (b := true) (d := 68) (by kernel_rfl) (by kernel_rfl) (by kernel_rfl) (by kernel_rfl)) ?_
      refine g_pure (some 80) (.bool false) (by kernel_rfl) (by kernel_rfl) (fun _ => (by kernel_rfl)) ?_
      refine g_norm { tmps := List.toArray (List.append [(.slice a0 len0 cap0), undef, (.bool false), (.pointer (some ⟨gx, 0, none⟩)), (.string p), (.pointer (some ⟨gy, 0, none⟩)), (.bool false), (.pointer (some ⟨gw, 0, none⟩)), (.bool false), (.pointer (some ⟨gz, 0, none⟩)), (.string m), (.string q), (.pointer (some ⟨gp, 0, none⟩)), (.slice a0 len0 cap0), (.bool false), (.tuple #[.agg (aggT x), .string p]), (.slice a0 len0 cap0), (.tuple #[.agg (aggT x), .string p]), (.agg (aggT x)), (.string p), (.tuple #[.agg (aggT y), .bool false]), (.agg (aggT x)), (.string p), (.tuple #[.agg (aggT y), .bool false]), (.agg (aggT y)), (.bool false), (.tuple #[.agg (aggT y), .bool false]), (.agg (aggT x)), (.string p), (.tuple #[.agg (aggT y), .bool false]), (.agg (aggT y)), (.bool false), (.bool false), (.bool false), (.bool false), (.bool false), (.agg (aggT y)), (.agg (aggT y)), (.bool false), (.bool false)] (List.append [(.tuple #[.agg (aggT z), .string m, .string q]), (.slice a0 len0 cap0), (.tuple #[.agg (aggT z), .string m, .string q]), (.agg (aggT z)), (.string m), (.string q), (.agg (aggT z)), (.string m), (.string q), (.agg (aggT pw)), (.agg (aggT pw)), (.agg (aggT z)), (.string m), (.string q), (.agg (aggT pw)), (.bool false), (.agg (aggT z)), (.string q), (.bool false), (.bool false), undef, undef, (.bool false), (.bool false), undef, undef, undef, (.bool false), (.bool false), undef, undef, undef, undef, undef, undef, undef, undef, undef, undef, undef] [(.bool false), undef, undef, undef, undef, undef, undef, undef, undef, undef, undef, undef, undef, undef, undef, undef, undef, undef, undef])), defers := [] } (by kernel_rfl) ?_
      refine g_done ?_
      refine (by assumption : ∀ (a : Act) (w_1 : World), Code.wp _ _ _ a w_1 → _) _ _ ?_
      go_upto_region 14 with (fail)
      refine wp_region_line (S := fun w' => Held w' [(gp, aggT pw, 25), (gz, aggT z, 25), (gw, aggT y, 25), (gy, aggT y, 25), (gx, aggT x, 25)]) [(true, 0), (true, 1), (true, 2), (true, 3), (true, 4), (true, 5), (true, 6), (true, 7), (true, 8), (true, 9), (true, 10), (true, 11), (false, 12), (true, 13), (false, 14), (true, 15), (true, 16), (true, 17), (true, 18)] (by kernel_rfl) (by kernel_rfl) HS3.out ?_
      refine SQ.out ?_
      refine g_pure (some 81) (.bool false) (by kernel_rfl) (by kernel_rfl) (fun _ => (by kernel_rfl)) ?_
      refine g_pure (some 82) (.bool true) (by kernel_rfl) (by kernel_rfl) (fun _ => (by kernel_rfl)) ?_
      refine g_pure (some 83) (.bool true) (by kernel_rfl) (by kernel_rfl) (fun _ => (by kernel_rfl)) ?_
      refine g_skip (some 84) (by kernel_rfl) (wanted_no (g := 2) (b := false) (d := 83) (by kernel_rfl) (by kernel_rfl) (by kernel_rfl) (by kernel_rfl)) ?_
      refine g_skip (some 85) (by kernel_rfl) (wanted_no (g := 2) (b := false) (d := 83) (by kernel_rfl) (by kernel_rfl) (by kernel_rfl) (by kernel_rfl)) ?_
      refine g_skip (some 86) (by kernel_rfl) (wanted_no (g := 2) (b := false) (d := 83) (by kernel_rfl) (by kernel_rfl) (by kernel_rfl) (by kernel_rfl)) ?_
      refine g_skip (some 87) (by kernel_rfl) (wanted_no (g := 2) (b := false) (d := 83) (by kernel_rfl) (by kernel_rfl) (by kernel_rfl) (by kernel_rfl)) ?_
      refine g_skip (some 88) (by kernel_rfl) (wanted_no (g := 2) (b := false) (d := 83) (by kernel_rfl) (by kernel_rfl) (by kernel_rfl) (by kernel_rfl)) ?_
      refine g_skip (some 89) (by kernel_rfl) (wanted_no (g := 2) (b := false) (d := 83) (by kernel_rfl) (by kernel_rfl) (by kernel_rfl) (by kernel_rfl)) ?_
      refine g_skip (some 90) (by kernel_rfl) (wanted_no (g := 2) (b := false) (d := 83) (by kernel_rfl) (by kernel_rfl) (by kernel_rfl) (by kernel_rfl)) ?_
      refine g_pure (some 91) (.bool true) (by kernel_rfl) (by kernel_rfl) (fun _ => (by kernel_rfl)) ?_
      refine g_pure (some 92) (.bool true) (by kernel_rfl) (by kernel_rfl) (fun _ => (by kernel_rfl)) ?_
      refine g_fn (some 93) [] Tryz.func14 (by kernel_rfl) (by kernel_rfl) (by kernel_rfl) (by kernel_rfl) (wanted_by (g := 11) (b := true) (d := 92) (by kernel_rfl) (by kernel_rfl) (by kernel_rfl) (by kernel_rfl)) (by kernel_rfl) ?_
      refine ((HOne.out _)).mono ?_
      rintro e w4 ⟨rfl, ew4⟩
      have bw4 : Below w3.heap.size w3 w4 := ew4 ▸ Below.refl _ _
      clear ew4
      have HG4 := Lib.hid (HG3.out.on bw4)
      have HS4 := Lib.hid HG4.out.h
      refine ⟨_, rfl, HS4.out, ?_⟩
      refine g_pure (some 94) (.agg (aggT (⟨#[]⟩, ⟨#[1]⟩))) (by kernel_rfl) (wanted_by (g := 11) (b := true) (d := 92) (by kernel_rfl) (by kernel_rfl) (by kernel_rfl) (by kernel_rfl)) (held_build 25 #[(1, .tmp 93)] (by kernel_rfl) _ (by kernel_rfl) _ (built_pairB ⟨#[1]⟩)) ?_
      refine g_fn (some 95) [.agg (aggT (⟨#[]⟩, ⟨#[1]⟩)), .string ⟨#[2]⟩, .string ⟨#[7]⟩] Tryz.func9 (by kernel_rfl) (by kernel_rfl) (by kernel_rfl) (by kernel_rfl) (wanted_by (g := 11) (b := true) (d := 92) (by kernel_rfl) (by kernel_rfl) (by kernel_rfl) (by kernel_rfl)) (by kernel_rfl) ?_
      refine ((C7.out _)).mono ?_
      rintro e w5 ⟨rfl, bw5⟩
      have HG5 := Lib.hid (HG4.out.on bw5)
      have HS5 := Lib.hid HG5.out.h
      refine ⟨_, rfl, HS5.out, ?_⟩
      refine g_pure (some 96) (.agg (aggT (⟨#[6]⟩, ⟨#[]⟩))) (by kernel_rfl) (wanted_by (g := 11) (b := true) (d := 92) (by kernel_rfl) (by kernel_rfl) (by kernel_rfl) (by kernel_rfl)) (held_build 25 #[(0, .const (.string ⟨#[6]⟩))] (by kernel_rfl) _ (by kernel_rfl) _ (built_pairA ⟨#[6]⟩)) ?_
      refine g_take (some 97) (.bool true) (by kernel_rfl) (yields_eqP (wanted_by (g := 11) (b := true) (d := 92) (by kernel_rfl) (by kernel_rfl) (by kernel_rfl) (by kernel_rfl)) (.tmp 95) (.tmp 96) (by kernel_rfl) (⟨#[6]⟩, ⟨#[]⟩) (by kernel_rfl) (by kernel_rfl)) ?_
      refine g_pure (some 98) (.bool true) (by kernel_rfl) (by kernel_rfl) (fun _ => (by kernel_rfl)) ?_
      refine g_pure (some 2) (.bool true) (by kernel_rfl) (by kernel_rfl) (fun _ => (by kernel_rfl)) ?_
      refine g_done ?_
      refine (by assumption : ∀ (a : Act) (w_1 : World), Code.wp _ Code.ret _ a w_1 → _) _ _ ?_
      refine wp_ret ?_
      exact ret_bool rfl (by kernel_rfl) (by kernel_rfl) ⟨rfl, HG5.out.b⟩
    | true =>
      rw [h1] at COk
      cases h2 : okG m with
      | false =>
        rw [h2] at CGr
        clear h1 h2
        refine wp_region_seq (S := fun w' => Held w' [(gp, aggT pw, 25), (gz, aggT z, 25), (gw, aggT y, 25), (gy, aggT y, 25), (gx, aggT x, 25)]) [⟨0, some 56, [9]⟩, ⟨0, some 57, [11]⟩, ⟨3, some 58, [56, 57]⟩, ⟨4, some 59, [58]⟩, ⟨8, some 60, [10, 59]⟩, ⟨24, some 61, [60, 59]⟩, ⟨40, some 62, [59, 61]⟩, ⟨96, some 63, [62]⟩, ⟨128, some 64, [10, 63]⟩, ⟨384, some 65, [64, 63]⟩, ⟨640, some 66, [65, 63]⟩, ⟨1152, some 67, [63, 66]⟩, ⟨2176, some 68, [67]⟩, ⟨4096, some 69, [9, 68]⟩, ⟨4096, some 70, [10, 68]⟩, ⟨4096, some 71, [68]⟩, ⟨53248, some 72, [70, 71, 68]⟩, ⟨4096, some 73, [11, 68]⟩, ⟨208896, some 74, [69, 72, 73, 68]⟩, ⟨4096, some 75, [12, 68]⟩, ⟨4096, some 76, [9, 68]⟩, ⟨4096, some 77, [11, 68]⟩, ⟨3936256, some 78, [75, 76, 77, 68]⟩, ⟨4460544, some 79, [74, 78, 68]⟩, ⟨8392704, some 80, [68, 79]⟩] [(true, 0), (true, 1), (false, 2), (true, 3), (true, 4), (false, 5), (true, 6), (true, 7), (true, 8), (true, 9), (true, 10), (true, 11), (true, 12), (true, 13), (true, 14), (true, 15), (true, 16), (true, 17), (true, 18), (true, 19), (true, 20), (true, 21), (true, 22), (true, 23), (true, 24)] (by kernel_rfl) (by kernel_rfl) (by kernel_rfl) (by kernel_rfl) (by kernel_rfl) (by kernel_rfl) (fun d _ _ _ _ h => by cases d <;> exact h) HS2.out ?_
        change seqH _ _ _ _ _ _ _ w1.drew
        generalize w1.drew = w2 at *
        refine SQ.out ?_
        refine g_held (some 56) (.agg (aggT z)) (by kernel_rfl) (by kernel_rfl) (held_load 25 (.tmp 9) (by kernel_rfl) _ _ (by kernel_rfl) Fz.out) ?_
        refine g_pure (some 57) (.string q) (by kernel_rfl) (by kernel_rfl) (fun _ => (by kernel_rfl)) ?_
        refine g_fn (some 58) [.agg (aggT z), .string q] Tryz.func11 (by kernel_rfl) (by kernel_rfl) (by kernel_rfl) (by kernel_rfl) (by kernel_rfl) (by kernel_rfl) ?_
        refine ((COk.out _)).mono ?_
        rintro e w3 ⟨rfl, bw3⟩
        have HG3 := Lib.hid (HG2.out.on bw3)
        have HS3 := Lib.hid HG3.out.h
        refine ⟨_, rfl, HS3.out, ?_⟩
        refine g_pure (some 59) (.bool true) (by kernel_rfl) (by kernel_rfl) (fun _ => (by kernel_rfl)) ?_
        refine g_pure (some 60) (.string m) (by kernel_rfl) (wanted_by (g := 3) (b := true) (d := 59) (by kernel_rfl) (by kernel_rfl) (by kernel_rfl) (by kernel_rfl)) (fun _ => (by kernel_rfl)) ?_
        refine g_fn (some 61) [.string m] Tryz.func12 (by kernel_rfl) (by kernel_rfl) (by kernel_rfl) (by kernel_rfl) (wanted_by (g := 3) (b := true) (d := 59) (by kernel_rfl) (by kernel_rfl) (by kernel_rfl) (by kernel_rfl)) (by kernel_rfl) ?_
        refine ((CGr.out _)).mono ?_
        rintro e w4 ⟨rfl, ew4⟩
        have bw4 : Below w3.heap.size w3 w4 := ew4 ▸ Below.refl _ _
        clear ew4
        have HG4 := Lib.hid (HG3.out.on bw4)
        have HS4 := Lib.hid HG4.out.h
        refine ⟨_, rfl, HS4.out, ?_⟩
        refine g_pure (some 62) (.bool false) (by kernel_rfl) (by kernel_rfl) (fun _ => (by kernel_rfl)) ?_
        refine g_pure (some 63) (.bool false) (by kernel_rfl) (by kernel_rfl) (fun _ => (by kernel_rfl)) ?_
        refine g_skip (some 64) (by kernel_rfl) (wanted_no (g := 7) (b := true) (d := 63) (by kernel_rfl) (by kernel_rfl) (by kernel_rfl) (by kernel_rfl)) ?_
        refine g_skip (some 65) (by kernel_rfl) (wanted_no (g := 7) (b := true) (d := 63) (by kernel_rfl) (by kernel_rfl) (by kernel_rfl) (by kernel_rfl)) ?_
        refine g_skip (some 66) (by kernel_rfl) (wanted_no (g := 7) (b := true) (d := 63) (by kernel_rfl) (by kernel_rfl) (by kernel_rfl) (by kernel_rfl)) ?_
        refine g_pure (some 67) (.bool false) (by kernel_rfl) (by kernel_rfl) (fun _ => (by kernel_rfl)) ?_
        refine g_pure (some 68) (.bool false) (by kernel_rfl) (by kernel_rfl) (fun _ => (by kernel_rfl)) ?_
        refine g_skip (some 69) (by kernel_rfl) (wanted_no (g := 12) (b := true) (d := 68) (by kernel_rfl) (by kernel_rfl) (by kernel_rfl) (by kernel_rfl)) ?_
        refine g_skip (some 70) (by kernel_rfl) (wanted_no (g := 12) (b := true) (d := 68) (by kernel_rfl) (by kernel_rfl) (by kernel_rfl) (by kernel_rfl)) ?_
        refine g_skip (some 71) (by kernel_rfl) (wanted_no (g := 12) (b := true) (d := 68) (by kernel_rfl) (by kernel_rfl) (by kernel_rfl) (by kernel_rfl)) ?_
        refine g_skip (some 72) (by kernel_rfl) (wanted_no (g := 12) (b := true) (d := 68) (by kernel_rfl) (by kernel_rfl) (by kernel_rfl) (by kernel_rfl)) ?_
        refine g_skip (some 73) (by kernel_rfl) (wanted_no (g := 12) (b := true) (d := 68) (by kernel_rfl) (by kernel_rfl) (by kernel_rfl) (by kernel_rfl)) ?_
        refine g_skip (some 74) (by kernel_rfl) (wanted_no (g := 12) (b := true) (d := 68) (by kernel_rfl) (by kernel_rfl) (by kernel_rfl) (by kernel_rfl)) ?_
        refine g_skip (some 75) (by kernel_rfl) (wanted_no (g := 12) (b := true) (d := 68) (by kernel_rfl) (by kernel_rfl) (by kernel_rfl) (by kernel_rfl)) ?_
        refine g_skip (some 76) (by kernel_rfl) (wanted_no (g := 12) (b := true) (d := 68) (by kernel_rfl) (by kernel_rfl) (by kernel_rfl) (by kernel_rfl)) ?_
        refine g_skip (some 77) (by kernel_rfl) (wanted_no (g := 12) (b := true) (d := 68) (by kernel_rfl) (by kernel_rfl) (by kernel_rfl) (by kernel_rfl)) ?_
        refine g_skip (some 78) (by kernel_rfl) (wanted_no (g := 12) (b := true) (d := 68) (by kernel_rfl) (by kernel_rfl) (by kernel_rfl) (by kernel_rfl)) ?_
        refine g_skip (some 79) (by kernel_rfl) (wanted_no (g := 12) (b := true) (d := 68) (by kernel_rfl) (by kernel_rfl) (by kernel_rfl) (by kernel_rfl)) ?_
        refine g_pure (some 80) (.bool false) (by kernel_rfl) (by kernel_rfl) (fun _ => (by kernel_rfl)) ?_
        refine g_norm { tmps := List.toArray (List.append [(.slice a0 len0 cap0), undef, (.bool false), (.pointer (some ⟨gx, 0, none⟩)), (.string p), (.pointer (some ⟨gy, 0, none⟩)), (.bool false), (.pointer (some ⟨gw, 0, none⟩)), (.bool false), (.pointer (some ⟨gz, 0, none⟩)), (.string m), (.string q), (.pointer (some ⟨gp, 0, none⟩)), (.slice a0 len0 cap0), (.bool false), (.tuple #[.agg (aggT x), .string p]), (.slice a0 len0 cap0), (.tuple #[.agg (aggT x), .string p]), (.agg (aggT x)), (.string p), (.tuple #[.agg (aggT y), .bool false]), (.agg (aggT x)), (.string p), (.tuple #[.agg (aggT y), .bool false]), (.agg (aggT y)), (.bool false), (.tuple #[.agg (aggT y), .bool false]), (.agg (aggT x)), (.string p), (.tuple #[.agg (aggT y), .bool false]), (.agg (aggT y)), (.bool false), (.bool false), (.bool false), (.bool false), (.bool false), (.agg (aggT y)), (.agg (aggT y)), (.bool false), (.bool false)] (List.append [(.tuple #[.agg (aggT z), .string m, .string q]), (.slice a0 len0 cap0), (.tuple #[.agg (aggT z), .string m, .string q]), (.agg (aggT z)), (.string m), (.string q), (.agg (aggT z)), (.string m), (.string q), (.agg (aggT pw)), (.agg (aggT pw)), (.agg (aggT z)), (.string m), (.string q), (.agg (aggT pw)), (.bool false), (.agg (aggT z)), (.string q), (.bool true), (.bool true), (.string m), (.bool false), (.bool false), (.bool false), undef, undef, undef, (.bool false), (.bool false), undef, undef, undef, undef, undef, undef, undef, undef, undef, undef, undef] [(.bool false), undef, undef, undef, undef, undef, undef, undef, undef, undef, undef, undef, undef, undef, undef, undef, undef, undef, undef])), defers := [] } (by kernel_rfl) ?_
        refine g_done ?_
        refine (by assumption : ∀ (a : Act) (w_1 : World), Code.wp _ _ _ a w_1 → _) _ _ ?_
        go_upto_region 14 with (fail)
        refine wp_region_line (S := fun w' => Held w' [(gp, aggT pw, 25), (gz, aggT z, 25), (gw, aggT y, 25), (gy, aggT y, 25), (gx, aggT x, 25)]) [(true, 0), (true, 1), (true, 2), (true, 3), (true, 4), (true, 5), (true, 6), (true, 7), (true, 8), (true, 9), (true, 10), (true, 11), (false, 12), (true, 13), (false, 14), (true, 15), (true, 16), (true, 17), (true, 18)] (by kernel_rfl) (by kernel_rfl) HS4.out ?_
        refine SQ.out ?_
        refine g_pure (some 81) (.bool false) (by kernel_rfl) (by kernel_rfl) (fun _ => (by kernel_rfl)) ?_
        refine g_pure (some 82) (.bool true) (by kernel_rfl) (by kernel_rfl) (fun _ => (by kernel_rfl)) ?_
        refine g_pure (some 83) (.bool true) (by kernel_rfl) (by kernel_rfl) (fun _ => (by kernel_rfl)) ?_
        refine g_skip (some 84) (by kernel_rfl) (wanted_no (g := 2) (b := false) (d := 83) (by kernel_rfl) (by kernel_rfl) (by kernel_rfl) (by kernel_rfl)) ?_
        refine g_skip (some 85) (by kernel_rfl) (wanted_no (g := 2) (b := false) (d := 83) (by kernel_rfl) (by kernel_rfl) (by kernel_rfl) (by kernel_rfl)) ?_
        refine g_skip (some 86) (by kernel_rfl) (wanted_no (g := 2) (b := false) (d := 83) (by kernel_rfl) (by kernel_rfl) (by kernel_rfl) (by kernel_rfl)) ?_
        refine g_skip (some 87) (by kernel_rfl) (wanted_no (g := 2) (b := false) (d := 83) (by kernel_rfl) (by kernel_rfl) (by kernel_rfl) (by kernel_rfl)) ?_
        refine g_skip (some 88) (by kernel_rfl) (wanted_no (g := 2) (b := false) (d := 83) (by kernel_rfl) (by kernel_rfl) (by kernel_rfl) (by kernel_rfl)) ?_
        refine g_skip (some 89) (by kernel_rfl) (wanted_no (g := 2) (b := false) (d := 83) (by kernel_rfl) (by kernel_rfl) (by kernel_rfl) (by kernel_rfl)) ?_
        refine g_skip (some 90) (by kernel_rfl) (wanted_no (g := 2) (b := false) (d := 83) (by kernel_rfl) (by kernel_rfl) (by kernel_rfl) (by kernel_rfl)) ?_
        refine g_pure (some 91) (.bool true) (by kernel_rfl) (by kernel_rfl) (fun _ => (by kernel_rfl)) ?_
        refine g_pure (some 92) (.bool true) (by kernel_rfl) (by kernel_rfl) (fun _ => (by kernel_rfl)) ?_
        refine g_fn (some 93) [] Tryz.func14 (by kernel_rfl) (by kernel_rfl) (by kernel_rfl) (by kernel_rfl) (wanted_by (g := 11) (b := true) (d := 92) (by kernel_rfl) (by kernel_rfl) (by kernel_rfl) (by kernel_rfl)) (by kernel_rfl) ?_
        refine ((HOne.out _)).mono ?_
        rintro e w5 ⟨rfl, ew5⟩
        have bw5 : Below w4.heap.size w4 w5 := ew5 ▸ Below.refl _ _
        clear ew5
        have HG5 := Lib.hid (HG4.out.on bw5)
        have HS5 := Lib.hid HG5.out.h
        refine ⟨_, rfl, HS5.out, ?_⟩
        refine g_pure (some 94) (.agg (aggT (⟨#[]⟩, ⟨#[1]⟩))) (by kernel_rfl) (wanted_by (g := 11) (b := true) (d := 92) (by kernel_rfl) (by kernel_rfl) (by kernel_rfl) (by kernel_rfl)) (held_build 25 #[(1, .tmp 93)] (by kernel_rfl) _ (by kernel_rfl) _ (built_pairB ⟨#[1]⟩)) ?_
        refine g_fn (some 95) [.agg (aggT (⟨#[]⟩, ⟨#[1]⟩)), .string ⟨#[2]⟩, .string ⟨#[7]⟩] Tryz.func9 (by kernel_rfl) (by kernel_rfl) (by kernel_rfl) (by kernel_rfl) (wanted_by (g := 11) (b := true) (d := 92) (by kernel_rfl) (by kernel_rfl) (by kernel_rfl) (by kernel_rfl)) (by kernel_rfl) ?_
        refine ((C7.out _)).mono ?_
        rintro e w6 ⟨rfl, bw6⟩
        have HG6 := Lib.hid (HG5.out.on bw6)
        have HS6 := Lib.hid HG6.out.h
        refine ⟨_, rfl, HS6.out, ?_⟩
        refine g_pure (some 96) (.agg (aggT (⟨#[6]⟩, ⟨#[]⟩))) (by kernel_rfl) (wanted_by (g := 11) (b := true) (d := 92) (by kernel_rfl) (by kernel_rfl) (by kernel_rfl) (by kernel_rfl)) (held_build 25 #[(0, .const (.string ⟨#[6]⟩))] (by kernel_rfl) _ (by kernel_rfl) _ (built_pairA ⟨#[6]⟩)) ?_
        refine g_take (some 97) (.bool true) (by kernel_rfl) (yields_eqP (wanted_by (g := 11) (b := true) (d := 92) (by kernel_rfl) (by kernel_rfl) (by kernel_rfl) (by kernel_rfl)) (.tmp 95) (.tmp 96) (by kernel_rfl) (⟨#[6]⟩, ⟨#[]⟩) (by kernel_rfl) (by kernel_rfl)) ?_
        refine g_pure (some 98) (.bool true) (by kernel_rfl) (by kernel_rfl) (fun _ => (by kernel_rfl)) ?_
        refine g_pure (some 2) (.bool true) (by kernel_rfl) (by kernel_rfl) (fun _ => (by kernel_rfl)) ?_
        refine g_done ?_
        refine (by assumption : ∀ (a : Act) (w_1 : World), Code.wp _ Code.ret _ a w_1 → _) _ _ ?_
        refine wp_ret ?_
        exact ret_bool rfl (by kernel_rfl) (by kernel_rfl) ⟨rfl, HG6.out.b⟩
      | true =>
        rw [h2] at CGr
        by_cases hf : m.size < 100
        · have hfew : decide ((m.size : Int) < 100) = true := by simp; omega
          have hm := HPm.out h1 h2 (by omega)
          rw [hm] at CPm
          obtain ⟨pm, hpm⟩ : ∃ v, mulPG pw z q = v := ⟨_, rfl⟩
          rw [hpm] at CPm CMp
          obtain ⟨m1, hm1⟩ : ∃ v, addG m ⟨#[1]⟩ = v := ⟨_, rfl⟩
          rw [hm1] at CAd CPm
          clear h1 h2 hm hpm hm1
          refine wp_region_seq (S := fun w' => Held w' [(gp, aggT pw, 25), (gz, aggT z, 25), (gw, aggT y, 25), (gy, aggT y, 25), (gx, aggT x, 25)]) [⟨0, some 56, [9]⟩, ⟨0, some 57, [11]⟩, ⟨3, some 58, [56, 57]⟩, ⟨4, some 59, [58]⟩, ⟨8, some 60, [10, 59]⟩, ⟨24, some 61, [60, 59]⟩, ⟨40, some 62, [59, 61]⟩, ⟨96, some 63, [62]⟩, ⟨128, some 64, [10, 63]⟩, ⟨384, some 65, [64, 63]⟩, ⟨640, some 66, [65, 63]⟩, ⟨1152, some 67, [63, 66]⟩, ⟨2176, some 68, [67]⟩, ⟨4096, some 69, [9, 68]⟩, ⟨4096, some 70, [10, 68]⟩, ⟨4096, some 71, [68]⟩, ⟨53248, some 72, [70, 71, 68]⟩, ⟨4096, some 73, [11, 68]⟩, ⟨208896, some 74, [69, 72, 73, 68]⟩, ⟨4096, some 75, [12, 68]⟩, ⟨4096, some 76, [9, 68]⟩, ⟨4096, some 77, [11, 68]⟩, ⟨3936256, some 78, [75, 76, 77, 68]⟩, ⟨4460544, some 79, [74, 78, 68]⟩, ⟨8392704, some 80, [68, 79]⟩] [(true, 0), (true, 1), (false, 2), (true, 3), (true, 4), (false, 5), (true, 6), (true, 7), (true, 8), (true, 9), (true, 10), (true, 11), (true, 12), (true, 13), (true, 14), (true, 17), (true, 19), (true, 20), (true, 21), (false, 15), (false, 16), (false, 18), (false, 22), (true, 23), (true, 24)] (by kernel_rfl) (by kernel_rfl) (by kernel_rfl) (by kernel_rfl) (by kernel_rfl) (by kernel_rfl) (fun d _ _ _ _ h => by cases d <;> exact h) HS2.out ?_
          change seqH _ _ _ _ _ _ _ w1.drew
          generalize w1.drew = w2 at *
          refine SQ.out ?_
          refine g_held (some 56) (.agg (aggT z)) (by kernel_rfl) (by kernel_rfl) (held_load 25 (.tmp 9) (by kernel_rfl) _ _ (by kernel_rfl) Fz.out) ?_
          refine g_pure (some 57) (.string q) (by kernel_rfl) (by kernel_rfl) (fun _ => (by kernel_rfl)) ?_
          refine g_fn (some 58) [.agg (aggT z), .string q] Tryz.func11 (by kernel_rfl) (by kernel_rfl) (by kernel_rfl) (by kernel_rfl) (by kernel_rfl) (by kernel_rfl) ?_
          refine ((COk.out _)).mono ?_
          rintro e w3 ⟨rfl, bw3⟩
          have HG3 := Lib.hid (HG2.out.on bw3)
          have HS3 := Lib.hid HG3.out.h
          refine ⟨_, rfl, HS3.out, ?_⟩
          refine g_pure (some 59) (.bool true) (by kernel_rfl) (by kernel_rfl) (fun _ => (by kernel_rfl)) ?_
          refine g_pure (some 60) (.string m) (by kernel_rfl) (wanted_by (g := 3) (b := true) (d := 59) (by kernel_rfl) (by kernel_rfl) (by kernel_rfl) (by kernel_rfl)) (fun _ => (by kernel_rfl)) ?_
          refine g_fn (some 61) [.string m] Tryz.func12 (by kernel_rfl) (by kernel_rfl) (by kernel_rfl) (by kernel_rfl) (wanted_by (g := 3) (b := true) (d := 59) (by kernel_rfl) (by kernel_rfl) (by kernel_rfl) (by kernel_rfl)) (by kernel_rfl) ?_
          refine ((CGr.out _)).mono ?_
          rintro e w4 ⟨rfl, ew4⟩
          have bw4 : Below w3.heap.size w3 w4 := ew4 ▸ Below.refl _ _
          clear ew4
          have HG4 := Lib.hid (HG3.out.on bw4)
          have HS4 := Lib.hid HG4.out.h
          refine ⟨_, rfl, HS4.out, ?_⟩
          refine g_pure (some 62) (.bool true) (by kernel_rfl) (by kernel_rfl) (fun _ => (by kernel_rfl)) ?_
          refine g_pure (some 63) (.bool true) (by kernel_rfl) (by kernel_rfl) (fun _ => (by kernel_rfl)) ?_
          refine g_pure (some 64) (.string m) (by kernel_rfl) (wanted_by (g := 7) (b := true) (d := 63) (by kernel_rfl) (by kernel_rfl) (by kernel_rfl) (by kernel_rfl)) (fun _ => (by kernel_rfl)) ?_
          refine g_pure (some 65) (.int .i64 (m.size : Int)) (by kernel_rfl) (wanted_by (g := 7) (b := true) (d := 63) (by kernel_rfl) (by kernel_rfl) (by kernel_rfl) (by kernel_rfl)) (fun _ => (by kernel_rfl)) ?_
          refine g_take (some 66) (.bool true) (by kernel_rfl) (yields_lt (wanted_by (g := 7) (b := true) (d := 63) (by kernel_rfl) (by kernel_rfl) (by kernel_rfl) (by kernel_rfl)) (.tmp 65) (by kernel_rfl) m (by kernel_rfl) hfew) ?_
          refine g_pure (some 67) (.bool true) (by kernel_rfl) (by kernel_rfl) (fun _ => (by kernel_rfl)) ?_
          refine g_pure (some 68) (.bool true) (by kernel_rfl) (by kernel_rfl) (fun _ => (by kernel_rfl)) ?_
          refine g_held (some 69) (.agg (aggT z)) (by kernel_rfl) (wanted_by (g := 12) (b := true) (d := 68) (by kernel_rfl) (by kernel_rfl) (by kernel_rfl) (by kernel_rfl)) (held_load 25 (.tmp 9) (by kernel_rfl) _ _ (by kernel_rfl) Fz.out) ?_
          refine g_pure (some 70) (.string m) (by kernel_rfl) (wanted_by (g := 12) (b := true) (d := 68) (by kernel_rfl) (by kernel_rfl) (by kernel_rfl) (by kernel_rfl)) (fun _ => (by kernel_rfl)) ?_
          refine g_pure (some 73) (.string q) (by kernel_rfl) (wanted_by (g := 12) (b := true) (d := 68) (by kernel_rfl) (by kernel_rfl) (by kernel_rfl) (by kernel_rfl)) (fun _ => (by kernel_rfl)) ?_
          refine g_held (some 75) (.agg (aggT pw)) (by kernel_rfl) (wanted_by (g := 12) (b := true) (d := 68) (by kernel_rfl) (by kernel_rfl) (by kernel_rfl) (by kernel_rfl)) (held_load 25 (.tmp 12) (by kernel_rfl) _ _ (by kernel_rfl) Fp.out) ?_
          refine g_held (some 76) (.agg (aggT z)) (by kernel_rfl) (wanted_by (g := 12) (b := true) (d := 68) (by kernel_rfl) (by kernel_rfl) (by kernel_rfl) (by kernel_rfl)) (held_load 25 (.tmp 9) (by kernel_rfl) _ _ (by kernel_rfl) Fz.out) ?_
          refine g_pure (some 77) (.string q) (by kernel_rfl) (wanted_by (g := 12) (b := true) (d := 68) (by kernel_rfl) (by kernel_rfl) (by kernel_rfl) (by kernel_rfl)) (fun _ => (by kernel_rfl)) ?_
          refine g_fn (some 71) [] Tryz.func14 (by kernel_rfl) (by kernel_rfl) (by kernel_rfl) (by kernel_rfl) (wanted_by (g := 12) (b := true) (d := 68) (by kernel_rfl) (by kernel_rfl) (by kernel_rfl) (by kernel_rfl)) (by kernel_rfl) ?_
          refine ((HOne.out _)).mono ?_
          rintro e w5 ⟨rfl, ew5⟩
          have bw5 : Below w4.heap.size w4 w5 := ew5 ▸ Below.refl _ _
          clear ew5
          have HG5 := Lib.hid (HG4.out.on bw5)
          have HS5 := Lib.hid HG5.out.h
          refine ⟨_, rfl, HS5.out, ?_⟩
          refine g_fn (some 72) [.string m, .string ⟨#[1]⟩] Tryz.func13 (by kernel_rfl) (by kernel_rfl) (by kernel_rfl) (by kernel_rfl) (wanted_by (g := 12) (b := true) (d := 68) (by kernel_rfl) (by kernel_rfl) (by kernel_rfl) (by kernel_rfl)) (by kernel_rfl) ?_
          refine ((CAd.out _)).mono ?_
          rintro e w6 ⟨rfl, bw6⟩
          have HG6 := Lib.hid (HG5.out.on bw6)
          have HS6 := Lib.hid HG6.out.h
          refine ⟨_, rfl, HS6.out, ?_⟩
          refine g_fn (some 74) [.agg (aggT z), .string m1, .string q] Tryz.func9 (by kernel_rfl) (by kernel_rfl) (by kernel_rfl) (by kernel_rfl) (wanted_by (g := 12) (b := true) (d := 68) (by kernel_rfl) (by kernel_rfl) (by kernel_rfl) (by kernel_rfl)) (by kernel_rfl) ?_
          refine ((CPm.out _)).mono ?_
          rintro e w7 ⟨rfl, bw7⟩
          have HG7 := Lib.hid (HG6.out.on bw7)
          have HS7 := Lib.hid HG7.out.h
          refine ⟨_, rfl, HS7.out, ?_⟩
          refine g_fn (some 78) [.agg (aggT pw), .agg (aggT z), .string q] Tryz.func15 (by kernel_rfl) (by kernel_rfl) (by kernel_rfl) (by kernel_rfl) (wanted_by (g := 12) (b := true) (d := 68) (by kernel_rfl) (by kernel_rfl) (by kernel_rfl) (by kernel_rfl)) (by kernel_rfl) ?_
          refine ((CMp.out _)).mono ?_
          rintro e w8 ⟨rfl, bw8⟩
          have HG8 := Lib.hid (HG7.out.on bw8)
          have HS8 := Lib.hid HG8.out.h
          refine ⟨_, rfl, HS8.out, ?_⟩
          refine g_take (some 79) (.bool false) (by kernel_rfl) (yields_neqS (wanted_by (g := 12) (b := true) (d := 68) (by kernel_rfl) (by kernel_rfl) (by kernel_rfl) (by kernel_rfl)) (.tmp 74) (.tmp 78) (by kernel_rfl) pm (by kernel_rfl) (by kernel_rfl)) ?_
          refine g_pure (some 80) (.bool false) (by kernel_rfl) (by kernel_rfl) (fun _ => (by kernel_rfl)) ?_
          refine g_norm { tmps := List.toArray (List.append [(.slice a0 len0 cap0), undef, (.bool false), (.pointer (some ⟨gx, 0, none⟩)), (.string p), (.pointer (some ⟨gy, 0, none⟩)), (.bool false), (.pointer (some ⟨gw, 0, none⟩)), (.bool false), (.pointer (some ⟨gz, 0, none⟩)), (.string m), (.string q), (.pointer (some ⟨gp, 0, none⟩)), (.slice a0 len0 cap0), (.bool false), (.tuple #[.agg (aggT x), .string p]), (.slice a0 len0 cap0), (.tuple #[.agg (aggT x), .string p]), (.agg (aggT x)), (.string p), (.tuple #[.agg (aggT y), .bool false]), (.agg (aggT x)), (.string p), (.tuple #[.agg (aggT y), .bool false]), (.agg (aggT y)), (.bool false), (.tuple #[.agg (aggT y), .bool false]), (.agg (aggT x)), (.string p), (.tuple #[.agg (aggT y), .bool false]), (.agg (aggT y)), (.bool false), (.bool false), (.bool false), (.bool false), (.bool false), (.agg (aggT y)), (.agg (aggT y)), (.bool false), (.bool false)] (List.append [(.tuple #[.agg (aggT z), .string m, .string q]), (.slice a0 len0 cap0), (.tuple #[.agg (aggT z), .string m, .string q]), (.agg (aggT z)), (.string m), (.string q), (.agg (aggT z)), (.string m), (.string q), (.agg (aggT pw)), (.agg (aggT pw)), (.agg (aggT z)), (.string m), (.string q), (.agg (aggT pw)), (.bool false), (.agg (aggT z)), (.string q), (.bool true), (.bool true), (.string m), (.bool true), (.bool true), (.bool true), (.string m), (.int .i64 (m.size : Int)), (.bool true), (.bool true), (.bool true), (.agg (aggT z)), (.string m), (.string ⟨#[1]⟩), (.string m1), (.string q), (.agg (aggT pm)), (.agg (aggT pw)), (.agg (aggT z)), (.string q), (.agg (aggT pm)), (.bool false)] [(.bool false), undef, undef, undef, undef, undef, undef, undef, undef, undef, undef, undef, undef, undef, undef, undef, undef, undef, undef])), defers := [] } (by kernel_rfl) ?_
          refine g_done ?_
          refine (by assumption : ∀ (a : Act) (w_1 : World), Code.wp _ _ _ a w_1 → _) _ _ ?_
          go_upto_region 14 with (fail)
          refine wp_region_line (S := fun w' => Held w' [(gp, aggT pw, 25), (gz, aggT z, 25), (gw, aggT y, 25), (gy, aggT y, 25), (gx, aggT x, 25)]) [(true, 0), (true, 1), (true, 2), (true, 3), (true, 4), (true, 5), (true, 6), (true, 7), (true, 8), (true, 9), (true, 10), (true, 11), (false, 12), (true, 13), (false, 14), (true, 15), (true, 16), (true, 17), (true, 18)] (by kernel_rfl) (by kernel_rfl) HS8.out ?_
          refine SQ.out ?_
          refine g_pure (some 81) (.bool false) (by kernel_rfl) (by kernel_rfl) (fun _ => (by kernel_rfl)) ?_
          refine g_pure (some 82) (.bool true) (by kernel_rfl) (by kernel_rfl) (fun _ => (by kernel_rfl)) ?_
          refine g_pure (some 83) (.bool true) (by kernel_rfl) (by kernel_rfl) (fun _ => (by kernel_rfl)) ?_
          refine g_skip (some 84) (by kernel_rfl) (wanted_no (g := 2) (b := false) (d := 83) (by kernel_rfl) (by kernel_rfl) (by kernel_rfl) (by kernel_rfl)) ?_
          refine g_skip (some 85) (by kernel_rfl) (wanted_no (g := 2) (b := false) (d := 83) (by kernel_rfl) (by kernel_rfl) (by kernel_rfl) (by kernel_rfl)) ?_
          refine g_skip (some 86) (by kernel_rfl) (wanted_no (g := 2) (b := false) (d := 83) (by kernel_rfl) (by kernel_rfl) (by kernel_rfl) (by kernel_rfl)) ?_
          refine g_skip (some 87) (by kernel_rfl) (wanted_no (g := 2) (b := false) (d := 83) (by kernel_rfl) (by kernel_rfl) (by kernel_rfl) (by kernel_rfl)) ?_
          refine g_skip (some 88) (by kernel_rfl) (wanted_no (g := 2) (b := false) (d := 83) (by kernel_rfl) (by kernel_rfl) (by kernel_rfl) (by kernel_rfl)) ?_
          refine g_skip (some 89) (by kernel_rfl) (wanted_no (g := 2) (b := false) (d := 83) (by kernel_rfl) (by kernel_rfl) (by kernel_rfl) (by kernel_rfl)) ?_
          refine g_skip (some 90) (by kernel_rfl) (wanted_no (g := 2) (b := false) (d := 83) (by kernel_rfl) (by kernel_rfl) (by kernel_rfl) (by kernel_rfl)) ?_
          refine g_pure (some 91) (.bool true) (by kernel_rfl) (by kernel_rfl) (fun _ => (by kernel_rfl)) ?_
          refine g_pure (some 92) (.bool true) (by kernel_rfl) (by kernel_rfl) (fun _ => (by kernel_rfl)) ?_
          refine g_fn (some 93) [] Tryz.func14 (by kernel_rfl) (by kernel_rfl) (by kernel_rfl) (by kernel_rfl) (wanted_by (g := 11) (b := true) (d := 92) (by kernel_rfl) (by kernel_rfl) (by kernel_rfl) (by kernel_rfl)) (by kernel_rfl) ?_
          refine ((HOne.out _)).mono ?_
          rintro e w9 ⟨rfl, ew9⟩
          have bw9 : Below w8.heap.size w8 w9 := ew9 ▸ Below.refl _ _
          clear ew9
          have HG9 := Lib.hid (HG8.out.on bw9)
          have HS9 := Lib.hid HG9.out.h
          refine ⟨_, rfl, HS9.out, ?_⟩
          refine g_pure (some 94) (.agg (aggT (⟨#[]⟩, ⟨#[1]⟩))) (by kernel_rfl) (wanted_by (g := 11) (b := true) (d := 92) (by kernel_rfl) (by kernel_rfl) (by kernel_rfl) (by kernel_rfl)) (held_build 25 #[(1, .tmp 93)] (by kernel_rfl) _ (by kernel_rfl) _ (built_pairB ⟨#[1]⟩)) ?_
          refine g_fn (some 95) [.agg (aggT (⟨#[]⟩, ⟨#[1]⟩)), .string ⟨#[2]⟩, .string ⟨#[7]⟩] Tryz.func9 (by kernel_rfl) (by kernel_rfl) (by kernel_rfl) (by kernel_rfl) (wanted_by (g := 11) (b := true) (d := 92) (by kernel_rfl) (by kernel_rfl) (by kernel_rfl) (by kernel_rfl)) (by kernel_rfl) ?_
          refine ((C7.out _)).mono ?_
          rintro e w10 ⟨rfl, bw10⟩
          have HG10 := Lib.hid (HG9.out.on bw10)
          have HS10 := Lib.hid HG10.out.h
          refine ⟨_, rfl, HS10.out, ?_⟩
          refine g_pure (some 96) (.agg (aggT (⟨#[6]⟩, ⟨#[]⟩))) (by kernel_rfl) (wanted_by (g := 11) (b := true) (d := 92) (by kernel_rfl) (by kernel_rfl) (by kernel_rfl) (by kernel_rfl)) (held_build 25 #[(0, .const (.string ⟨#[6]⟩))] (by kernel_rfl) _ (by kernel_rfl) _ (built_pairA ⟨#[6]⟩)) ?_
          refine g_take (some 97) (.bool true) (by kernel_rfl) (yields_eqP (wanted_by (g := 11) (b := true) (d := 92) (by kernel_rfl) (by kernel_rfl) (by kernel_rfl) (by kernel_rfl)) (.tmp 95) (.tmp 96) (by kernel_rfl) (⟨#[6]⟩, ⟨#[]⟩) (by kernel_rfl) (by kernel_rfl)) ?_
          refine g_pure (some 98) (.bool true) (by kernel_rfl) (by kernel_rfl) (fun _ => (by kernel_rfl)) ?_
          refine g_pure (some 2) (.bool true) (by kernel_rfl) (by kernel_rfl) (fun _ => (by kernel_rfl)) ?_
          refine g_done ?_
          refine (by assumption : ∀ (a : Act) (w_1 : World), Code.wp _ Code.ret _ a w_1 → _) _ _ ?_
          refine wp_ret ?_
          exact ret_bool rfl (by kernel_rfl) (by kernel_rfl) ⟨rfl, HG10.out.b⟩
        · have hfew : decide ((m.size : Int) < 100) = false := by simp; omega
          clear h1 h2
          refine wp_region_seq (S := fun w' => Held w' [(gp, aggT pw, 25), (gz, aggT z, 25), (gw, aggT y, 25), (gy, aggT y, 25), (gx, aggT x, 25)]) [⟨0, some 56, [9]⟩, ⟨0, some 57, [11]⟩, ⟨3, some 58, [56, 57]⟩, ⟨4, some 59, [58]⟩, ⟨8, some 60, [10, 59]⟩, ⟨24, some 61, [60, 59]⟩, ⟨40, some 62, [59, 61]⟩, ⟨96, some 63, [62]⟩, ⟨128, some 64, [10, 63]⟩, ⟨384, some 65, [64, 63]⟩, ⟨640, some 66, [65, 63]⟩, ⟨1152, some 67, [63, 66]⟩, ⟨2176, some 68, [67]⟩, ⟨4096, some 69, [9, 68]⟩, ⟨4096, some 70, [10, 68]⟩, ⟨4096, some 71, [68]⟩, ⟨53248, some 72, [70, 71, 68]⟩, ⟨4096, some 73, [11, 68]⟩, ⟨208896, some 74, [69, 72, 73, 68]⟩, ⟨4096, some 75, [12, 68]⟩, ⟨4096, some 76, [9, 68]⟩, ⟨4096, some 77, [11, 68]⟩, ⟨3936256, some 78, [75, 76, 77, 68]⟩, ⟨4460544, some 79, [74, 78, 68]⟩, ⟨8392704, some 80, [68, 79]⟩] [(true, 0), (true, 1), (false, 2), (true, 3), (true, 4), (false, 5), (true, 6), (true, 7), (true, 8), (true, 9), (true, 10), (true, 11), (true, 12), (true, 13), (true, 14), (true, 15), (true, 16), (true, 17), (true, 18), (true, 19), (true, 20), (true, 21), (true, 22), (true, 23), (true, 24)] (by kernel_rfl) (by kernel_rfl) (by kernel_rfl) (by kernel_rfl) (by kernel_rfl) (by kernel_rfl) (fun d _ _ _ _ h => by cases d <;> exact h) HS2.out ?_
          change seqH _ _ _ _ _ _ _ w1.drew
          generalize w1.drew = w2 at *
          refine SQ.out ?_
          refine g_held (some 56) (.agg (aggT z)) (by kernel_rfl) (by kernel_rfl) (held_load 25 (.tmp 9) (by kernel_rfl) _ _ (by kernel_rfl) Fz.out) ?_
          refine g_pure (some 57) (.string q) (by kernel_rfl) (by kernel_rfl) (fun _ => (by kernel_rfl)) ?_
          refine g_fn (some 58) [.agg (aggT z), .string q] Tryz.func11 (by kernel_rfl) (by kernel_rfl) (by kernel_rfl) (by kernel_rfl) (by kernel_rfl) (by kernel_rfl) ?_
          refine ((COk.out _)).mono ?_
          rintro e w3 ⟨rfl, bw3⟩
          have HG3 := Lib.hid (HG2.out.on bw3)
          have HS3 := Lib.hid HG3.out.h
          refine ⟨_, rfl, HS3.out, ?_⟩
          refine g_pure (some 59) (.bool true) (by kernel_rfl) (by kernel_rfl) (fun _ => (by kernel_rfl)) ?_
          refine g_pure (some 60) (.string m) (by kernel_rfl) (wanted_by (g := 3) (b := true) (d := 59) (by kernel_rfl) (by kernel_rfl) (by kernel_rfl) (by kernel_rfl)) (fun _ => (by kernel_rfl)) ?_
          refine g_fn (some 61) [.string m] Tryz.func12 (by kernel_rfl) (by kernel_rfl) (by kernel_rfl) (by kernel_rfl) (wanted_by (g := 3) (b := true) (d := 59) (by kernel_rfl) (by kernel_rfl) (by kernel_rfl) (by kernel_rfl)) (by kernel_rfl) ?_
          refine ((CGr.out _)).mono ?_
          rintro e w4 ⟨rfl, ew4⟩
          have bw4 : Below w3.heap.size w3 w4 := ew4 ▸ Below.refl _ _
          clear ew4
          have HG4 := Lib.hid (HG3.out.on bw4)
          have HS4 := Lib.hid HG4.out.h
          refine ⟨_, rfl, HS4.out, ?_⟩
          refine g_pure (some 62) (.bool true) (by kernel_rfl) (by kernel_rfl) (fun _ => (by kernel_rfl)) ?_
          refine g_pure (some 63) (.bool true) (by kernel_rfl) (by kernel_rfl) (fun _ => (by kernel_rfl)) ?_
          refine g_pure (some 64) (.string m) (by kernel_rfl) (wanted_by (g := 7) (b := true) (d := 63) (by kernel_rfl) (by kernel_rfl) (by kernel_rfl) (by kernel_rfl)) (fun _ => (by kernel_rfl)) ?_
          refine g_pure (some 65) (.int .i64 (m.size : Int)) (by kernel_rfl) (wanted_by (g := 7) (b := true) (d := 63) (by kernel_rfl) (by kernel_rfl) (by kernel_rfl) (by kernel_rfl)) (fun _ => (by kernel_rfl)) ?_
          refine g_take (some 66) (.bool false) (by kernel_rfl) (yields_lt (wanted_by (g := 7) (b := true) (d := 63) (by kernel_rfl) (by kernel_rfl) (by kernel_rfl) (by kernel_rfl)) (.tmp 65) (by kernel_rfl) m (by kernel_rfl) hfew) ?_
          refine g_pure (some 67) (.bool false) (by kernel_rfl) (by kernel_rfl) (fun _ => (by kernel_rfl)) ?_
          refine g_pure (some 68) (.bool false) (by kernel_rfl) (by kernel_rfl) (fun _ => (by kernel_rfl)) ?_
          refine g_skip (some 69) (by kernel_rfl) (wanted_no (g := 12) (b := true) (d := 68) (by kernel_rfl) (by kernel_rfl) (by kernel_rfl) (by kernel_rfl)) ?_
          refine g_skip (some 70) (by kernel_rfl) (wanted_no (g := 12) (b := true) (d := 68) (by kernel_rfl) (by kernel_rfl) (by kernel_rfl) (by kernel_rfl)) ?_
          refine g_skip (some 71) (by kernel_rfl) (wanted_no (g := 12) (b := true) (d := 68) (by kernel_rfl) (by kernel_rfl) (by kernel_rfl) (by kernel_rfl)) ?_
          refine g_skip (some 72) (by kernel_rfl) (wanted_no (g := 12) (b := true) (d := 68) (by kernel_rfl) (by kernel_rfl) (by kernel_rfl) (by kernel_rfl)) ?_
          refine g_skip (some 73) (by kernel_rfl) (wanted_no (g := 12) (b := true) (d := 68) (by kernel_rfl) (by kernel_rfl) (by kernel_rfl) (by kernel_rfl)) ?_
          refine g_skip (some 74) (by kernel_rfl) (wanted_no (g := 12) (b := true) (d := 68) (by kernel_rfl) (by kernel_rfl) (by kernel_rfl) (by kernel_rfl)) ?_
          refine g_skip (some 75) (by kernel_rfl) (wanted_no (g := 12) (b := true) (d := 68) (by kernel_rfl) (by kernel_rfl) (by kernel_rfl) (by kernel_rfl)) ?_
          refine g_skip (some 76) (by kernel_rfl) (wanted_no (g := 12) (b := true) (d := 68) (by kernel_rfl) (by kernel_rfl) (by kernel_rfl) (by kernel_rfl)) ?_
          refine g_skip (some 77) (by kernel_rfl) (wanted_no (g := 12) (b := true) (d := 68) (by kernel_rfl) (by kernel_rfl) (by kernel_rfl) (by kernel_rfl)) ?_
          refine g_skip (some 78) (by kernel_rfl) (wanted_no (g := 12) (b := true) (d := 68) (by kernel_rfl) (by kernel_rfl) (by kernel_rfl) (by kernel_rfl)) ?_
          refine g_skip (some 79) (by kernel_rfl) (wanted_no (g := 12) (b := true) (d := 68) (by kernel_rfl) (by kernel_rfl) (by kernel_rfl) (by kernel_rfl)) ?_
          refine g_pure (some 80) (.bool false) (by kernel_rfl) (by kernel_rfl) (fun _ => (by kernel_rfl)) ?_
          refine g_norm { tmps := List.toArray (List.append [(.slice a0 len0 cap0), undef, (.bool false), (.pointer (some ⟨gx, 0, none⟩)), (.string p), (.pointer (some ⟨gy, 0, none⟩)), (.bool false), (.pointer (some ⟨gw, 0, none⟩)), (.bool false), (.pointer (some ⟨gz, 0, none⟩)), (.string m), (.string q), (.pointer (some ⟨gp, 0, none⟩)), (.slice a0 len0 cap0), (.bool false), (.tuple #[.agg (aggT x), .string p]), (.slice a0 len0 cap0), (.tuple #[.agg (aggT x), .string p]), (.agg (aggT x)), (.string p), (.tuple #[.agg (aggT y), .bool false]), (.agg (aggT x)), (.string p), (.tuple #[.agg (aggT y), .bool false]), (.agg (aggT y)), (.bool false), (.tuple #[.agg (aggT y), .bool false]), (.agg (aggT x)), (.string p), (.tuple #[.agg (aggT y), .bool false]), (.agg (aggT y)), (.bool false), (.bool false), (.bool false), (.bool false), (.bool false), (.agg (aggT y)), (.agg (aggT y)), (.bool false), (.bool false)] (List.append [(.tuple #[.agg (aggT z), .string m, .string q]), (.slice a0 len0 cap0), (.tuple #[.agg (aggT z), .string m, .string q]), (.agg (aggT z)), (.string m), (.string q), (.agg (aggT z)), (.string m), (.string q), (.agg (aggT pw)), (.agg (aggT pw)), (.agg (aggT z)), (.string m), (.string q), (.agg (aggT pw)), (.bool false), (.agg (aggT z)), (.string q), (.bool true), (.bool true), (.string m), (.bool true), (.bool true), (.bool true), (.string m), (.int .i64 (m.size : Int)), (.bool false), (.bool false), (.bool false), undef, undef, undef, undef, undef, undef, undef, undef, undef, undef, undef] [(.bool false), undef, undef, undef, undef, undef, undef, undef, undef, undef, undef, undef, undef, undef, undef, undef, undef, undef, undef])), defers := [] } (by kernel_rfl) ?_
          refine g_done ?_
          refine (by assumption : ∀ (a : Act) (w_1 : World), Code.wp _ _ _ a w_1 → _) _ _ ?_
          go_upto_region 14 with (fail)
          refine wp_region_line (S := fun w' => Held w' [(gp, aggT pw, 25), (gz, aggT z, 25), (gw, aggT y, 25), (gy, aggT y, 25), (gx, aggT x, 25)]) [(true, 0), (true, 1), (true, 2), (true, 3), (true, 4), (true, 5), (true, 6), (true, 7), (true, 8), (true, 9), (true, 10), (true, 11), (false, 12), (true, 13), (false, 14), (true, 15), (true, 16), (true, 17), (true, 18)] (by kernel_rfl) (by kernel_rfl) HS4.out ?_
          refine SQ.out ?_
          refine g_pure (some 81) (.bool false) (by kernel_rfl) (by kernel_rfl) (fun _ => (by kernel_rfl)) ?_
          refine g_pure (some 82) (.bool true) (by kernel_rfl) (by kernel_rfl) (fun _ => (by kernel_rfl)) ?_
          refine g_pure (some 83) (.bool true) (by kernel_rfl) (by kernel_rfl) (fun _ => (by kernel_rfl)) ?_
          refine g_skip (some 84) (by kernel_rfl) (wanted_no (g := 2) (b := false) (d := 83) (by kernel_rfl) (by kernel_rfl) (by kernel_rfl) (by kernel_rfl)) ?_
          refine g_skip (some 85) (by kernel_rfl) (wanted_no (g := 2) (b := false) (d := 83) (by kernel_rfl) (by kernel_rfl) (by kernel_rfl) (by kernel_rfl)) ?_
          refine g_skip (some 86) (by kernel_rfl) (wanted_no (g := 2) (b := false) (d := 83) (by kernel_rfl) (by kernel_rfl) (by kernel_rfl) (by kernel_rfl)) ?_
          refine g_skip (some 87) (by kernel_rfl) (wanted_no (g := 2) (b := false) (d := 83) (by kernel_rfl) (by kernel_rfl) (by kernel_rfl) (by kernel_rfl)) ?_
          refine g_skip (some 88) (by kernel_rfl) (wanted_no (g := 2) (b := false) (d := 83) (by kernel_rfl) (by kernel_rfl) (by kernel_rfl) (by kernel_rfl)) ?_
          refine g_skip (some 89) (by kernel_rfl) (wanted_no (g := 2) (b := false) (d := 83) (by kernel_rfl) (by kernel_rfl) (by kernel_rfl) (by kernel_rfl)) ?_
          refine g_skip (some 90) (by kernel_rfl) (wanted_no (g := 2) (b := false) (d := 83) (by kernel_rfl) (by kernel_rfl) (by kernel_rfl) (by kernel_rfl)) ?_
          refine g_pure (some 91) (.bool true) (by kernel_rfl) (by kernel_rfl) (fun _ => (by kernel_rfl)) ?_
          refine g_pure (some 92) (.bool true) (by kernel_rfl) (by kernel_rfl) (fun _ => (by kernel_rfl)) ?_
          refine g_fn (some 93) [] Tryz.func14 (by kernel_rfl) (by kernel_rfl) (by kernel_rfl) (by kernel_rfl) (wanted_by (g := 11) (b := true) (d := 92) (by kernel_rfl) (by kernel_rfl) (by kernel_rfl) (by kernel_rfl)) (by kernel_rfl) ?_
          refine ((HOne.out _)).mono ?_
          rintro e w5 ⟨rfl, ew5⟩
          have bw5 : Below w4.heap.size w4 w5 := ew5 ▸ Below.refl _ _
          clear ew5
          have HG5 := Lib.hid (HG4.out.on bw5)
          have HS5 := Lib.hid HG5.out.h
          refine ⟨_, rfl, HS5.out, ?_⟩
          refine g_pure (some 94) (.agg (aggT (⟨#[]⟩, ⟨#[1]⟩))) (by kernel_rfl) (wanted_by (g := 11) (b := true) (d := 92) (by kernel_rfl) (by kernel_rfl) (by kernel_rfl) (by kernel_rfl)) (held_build 25 #[(1, .tmp 93)] (by kernel_rfl) _ (by kernel_rfl) _ (built_pairB ⟨#[1]⟩)) ?_
          refine g_fn (some 95) [.agg (aggT (⟨#[]⟩, ⟨#[1]⟩)), .string ⟨#[2]⟩, .string ⟨#[7]⟩] Tryz.func9 (by kernel_rfl) (by kernel_rfl) (by kernel_rfl) (by kernel_rfl) (wanted_by (g := 11) (b := true) (d := 92) (by kernel_rfl) (by kernel_rfl) (by kernel_rfl) (by kernel_rfl)) (by kernel_rfl) ?_
          refine ((C7.out _)).mono ?_
          rintro e w6 ⟨rfl, bw6⟩
          have HG6 := Lib.hid (HG5.out.on bw6)
          have HS6 := Lib.hid HG6.out.h
          refine ⟨_, rfl, HS6.out, ?_⟩
          refine g_pure (some 96) (.agg (aggT (⟨#[6]⟩, ⟨#[]⟩))) (by kernel_rfl) (wanted_by (g := 11) (b := true) (d := 92) (by kernel_rfl) (by kernel_rfl) (by kernel_rfl) (by kernel_rfl)) (held_build 25 #[(0, .const (.string ⟨#[6]⟩))] (by kernel_rfl) _ (by kernel_rfl) _ (built_pairA ⟨#[6]⟩)) ?_
          refine g_take (some 97) (.bool true) (by kernel_rfl) (yields_eqP (wanted_by (g := 11) (b := true) (d := 92) (by kernel_rfl) (by kernel_rfl) (by kernel_rfl) (by kernel_rfl)) (.tmp 95) (.tmp 96) (by kernel_rfl) (⟨#[6]⟩, ⟨#[]⟩) (by kernel_rfl) (by kernel_rfl)) ?_
          refine g_pure (some 98) (.bool true) (by kernel_rfl) (by kernel_rfl) (fun _ => (by kernel_rfl)) ?_
          refine g_pure (some 2) (.bool true) (by kernel_rfl) (by kernel_rfl) (fun _ => (by kernel_rfl)) ?_
          refine g_done ?_
          refine (by assumption : ∀ (a : Act) (w_1 : World), Code.wp _ Code.ret _ a w_1 → _) _ _ ?_
          refine wp_ret ?_
          exact ret_bool rfl (by kernel_rfl) (by kernel_rfl) ⟨rfl, HG6.out.b⟩
end Go.Proofs.YtflfeepgkcamnaaGreat
