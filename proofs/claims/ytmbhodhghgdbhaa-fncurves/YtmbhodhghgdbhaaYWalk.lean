import Derived.Test.YtmbhodhghgdbhaaYImpl
import Derived.Test.YtmbhodhghgdbhaaYDraw
import Derived.Test.YtmbhodhghgdbhaaQSpec
import Derived.Test.YtmbhodhghgdbhaaXPairs
namespace Go.Proofs.Ytmbhodhghgdbhaa
open Go.RowKit
theorem yields_eqT {ops : Array Oper} {S : World → Prop} {o : Oper} {a : Act} (hw : Region.wanted o (yielded ops a.tmps) = true) (x y : Operand) (ho : o.op = .binOp .eql 9 x y 9) (s : ByteArray) (hx : a.eval x = .string s) (hy : a.eval y = .string s) : YieldsIf Try.prog ops S o (.bool true) a := by
  refine .inl ⟨hw, fun w _ => ?_⟩
  unfold execOp
  simp only [ho, hx, hy]
  go_simp
theorem yields_eqI {ops : Array Oper} {S : World → Prop} {o : Oper} {a : Act} (hw : Region.wanted o (yielded ops a.tmps) = true) (x y : Operand) (ho : o.op = .binOp .eql 3 x y 3) (s : Int) (hx : a.eval x = .int .i64 s) (hy : a.eval y = .int .i64 s) : YieldsIf Try.prog ops S o (.bool true) a := by
  refine .inl ⟨hw, fun w _ => ?_⟩
  unfold execOp
  simp only [ho, hx, hy]
  go_simp
theorem yields_subI {ops : Array Oper} {S : World → Prop} {o : Oper} {a : Act} (hw : Region.wanted o (yielded ops a.tmps) = true) (x y : Operand) (ho : o.op = .binOp .sub 3 x y 3) (u v r : Int) (hx : a.eval x = .int .i64 u) (hy : a.eval y = .int .i64 v) (hr : IntKind.i64.wrap (u - v) = r) : YieldsIf Try.prog ops S o (.int .i64 r) a := by
  refine .inl ⟨hw, fun w _ => ?_⟩
  unfold execOp
  simp only [ho, hx, hy]
  rw [← hr]
  rfl
theorem yields_ge2 {ops : Array Oper} {S : World → Prop} {o : Oper} {a : Act} (hw : Region.wanted o (yielded ops a.tmps) = true) (x y : Operand) (ho : o.op = .binOp .geq 3 x y 3) (u : Int) (hx : a.eval x = .int .i64 u) (hy : a.eval y = .int .i64 2) (hu : 2 ≤ u) : YieldsIf Try.prog ops S o (.bool true) a := by
  refine .inl ⟨hw, fun w _ => ?_⟩
  have hd : decide (2 ≤ u) = true := decide_eq_true hu
  unfold execOp
  simp only [ho, hx, hy]
  go_simp
theorem yields_neC {ops : Array Oper} {S : World → Prop} {o : Oper} {a : Act} (hw : Region.wanted o (yielded ops a.tmps) = true) (x y : Operand) (ho : o.op = .binOp .neq 28 x y 28) (id : Int) (hx : a.eval x = .agg (cvC id)) (hy : a.eval y = .agg (cvC id)) : YieldsIf Try.prog ops S o (.bool false) a := by
  refine .inl ⟨hw, fun w _ => ?_⟩
  unfold execOp
  simp only [ho, hx, hy]
  rw [cvC_eq]
  generalize cvNT id = tn
  generalize cvPT id = tp
  generalize cvRT id = tr
  generalize cvBT id = tb
  generalize (cvKT id).1 = k1
  generalize (cvKT id).2 = k2
  generalize cvSz id = sz
  generalize cvSc id = sc
  generalize cvBr id = br
  cases br <;> go_simp
theorem pt_loads {w : World} {g : Nat} {X Y : ByteArray} (h : w.heap[g]? = some (.cells (ptT X Y) 34 (0, 0))) : (Instr.loadAt 9 (.pointer (some ⟨g, 1, none⟩))).run Try.prog w = .ok (.string X) w ∧ (Instr.loadAt 9 (.pointer (some ⟨g, 2, none⟩))).run Try.prog w = .ok (.string Y) w :=
  ⟨str_load ((cell_of_row w g 1 _ _ _ h).trans rfl), str_load ((cell_of_row w g 2 _ _ _ h).trans rfl)⟩
theorem pp_loads {w : World} {g : Nat} {X Y : Pt} (h : w.heap[g]? = some (.cells (ppT X Y) 37 (0, 0))) : (Instr.loadAt 26 (.pointer (some ⟨g, 1, none⟩))).run Try.prog w = .ok (.agg (aggT X)) w ∧ (Instr.loadAt 26 (.pointer (some ⟨g, 3, none⟩))).run Try.prog w = .ok (.agg (aggT Y)) w := by
  constructor
  · have e := run_loadAt_mid (P := Try.prog) w g 1 26 (aggT X).toList _ (fun j v hv => by
      rw [cell_of_row w g (1 + j) _ _ _ h]
      match j with
      | 0 => simpa [aggT, ppT] using hv
      | 1 => simpa [aggT, ppT] using hv
      | j + 2 => simp [aggT] at hv) Try.underlying26 rfl Try.infoP
    simpa using e
  · have e := run_loadAt_mid (P := Try.prog) w g 3 26 (aggT Y).toList _ (fun j v hv => by
      rw [cell_of_row w g (3 + j) _ _ _ h]
      match j with
      | 0 => simpa [aggT, ppT] using hv
      | 1 => simpa [aggT, ppT] using hv
      | j + 2 => simp [aggT] at hv) Try.underlying26 rfl Try.infoP
    simpa using e
theorem one_l (w : World) : Calls Try.prog 23 #[] w fun e w' => e = .returned (.string ⟨#[1]⟩) ∧ w = w' := by
  go_enter Try.func23, Try.ntmps23
  go_wp2
  go_ret
  exact ⟨rfl, rfl⟩
set_option maxRecDepth 8000 in
set_option maxHeartbeats 8000000 in
theorem curves_walk (a0 : Option Addr) (len0 cap0 : Nat) (z0 : List Int) (w : World) (w0 : IsRow .u8 w a0 len0 cap0 z0) :
    Calls Try.prog 3 #[.slice a0 len0 cap0] w (Yes w) := by
  have hlen : len0 ≤ maxLen := by rcases w0 with ⟨_, rfl, _⟩ | ⟨_, _, h1, h2, _⟩ <;> unfold maxLen at * <;> omega
  have HBig := Lib.hid (big_g a0 len0 cap0 w hlen)
  by_cases h1 : 1048576 < len0
  · have hd : decide ((1048576 : Int) < (len0 : Int)) = true := by simp; omega
    clear w0 hlen
    go_enter Try.func3, Try.ntmps3
    go_wp2_with fail
    refine HBig.out.mono ?_
    rintro e w' ⟨rfl, rfl⟩
    go_wp2
    go_ret
    exact ⟨rfl, Below.refl _ _⟩
  have hd : decide ((1048576 : Int) < (len0 : Int)) = false := by simp; omega
  have hdr := w0.draw (by omega)
  have HD := Lib.hid (drawCurveOf_c a0 len0 cap0 w hdr)
  clear w0 hlen h1 hdr
  go_enter Try.func3, Try.ntmps3
  go_wp2_with fail
  refine HBig.out.mono ?_
  rintro e w' ⟨rfl, rfl⟩
  go_wp2_with fail
  refine HD.out.mono ?_
  rintro e w1 ⟨id, rfl, b1⟩
  have HI := Lib.hid (curveOf_i id)
  have HJ := Lib.hid (curveOf_any id)
  have HC := Lib.hid (cv_in id)
  have HNe := Lib.hid (fun (ops : Array Oper) (S : World → Prop) (o : Oper) (a : Act) hw x y ho hx hy => yields_neC (ops := ops) (S := S) (o := o) (a := a) hw x y ho id hx hy)
  have HG1 := Lib.hid (Stand.mk (Held.none w1) b1)
  clear b1 HBig HD
  cases hok : cvB id with
  | false =>
    rw [hok] at HI HJ
    have SB := Lib.hid (spareBits_i id)
    rw [spare_no hok] at SB
    have CN := Lib.hid (curveNamed_i cvN3)
    rw [named_narrow] at CN
    unfold cvN3 at CN
    clear hok
    generalize cvC id = C at *
    go_wp2_with fail
    refine (HI.out _).mono ?_
    rintro e w2 ⟨rfl, b2⟩
    have V2 := Lib.hid (cv_var' w2 HC.out.size)
    have HG2 := Lib.hid (((HG1.out.on b2).new cv0 28).putAt (HG1.out.on b2).b.size (HG1.out.on b2).h.apart C)
    clear b2 HI HG1
    go_wp2_with (first | refine cv_store rfl (.tmp 4) (.tmp 17) rfl w2.heap.size cv0 C rfl rfl V2.out.at0 rfl HC.out.size HC.out.one ?_)
    clear V2
    generalize (w2.alloc _).setRow _ _ = u2 at *
    generalize w2.heap.size = gk at *
    refine (HJ.out _).mono ?_
    rintro e w3 ⟨rfl, b3⟩
    have V3 := Lib.hid (cv_var' w3 HC.out.size)
    have HG3 := Lib.hid (((HG2.out.on b3).new cv0 28).putAt (HG2.out.on b3).b.size (HG2.out.on b3).h.apart C)
    clear b3 HJ HG2
    go_upto_region 6 with (first | refine cv_store rfl (.tmp 6) (.tmp 22) rfl w3.heap.size cv0 C rfl rfl V3.out.at0 rfl HC.out.size HC.out.one ?_)
    clear V3
    generalize (w3.alloc _).setRow _ _ = u3 at *
    generalize w3.heap.size = gw at *
    have HS3 := Lib.hid HG3.out.h
    have Fk := Lib.hid (show ∀ w', Held w' [(gw, C, 28), (gk, C, 28)] → (Instr.loadAt 28 (.pointer (some ⟨gk, 0, none⟩))).run Try.prog w' = .ok (.agg C) w' from fun w' hw => cells_load (show _ = some (Obj.cells C 28 (0, 0)) from hw (gk, C, 28) (.tail _ (.head _))) Try.underlying28 rfl (by rw [HC.out.size]; exact Try.infoCv))
    have Fw := Lib.hid (show ∀ w', Held w' [(gw, C, 28), (gk, C, 28)] → (Instr.loadAt 28 (.pointer (some ⟨gw, 0, none⟩))).run Try.prog w' = .ok (.agg C) w' from fun w' hw => cells_load (show _ = some (Obj.cells C 28 (0, 0)) from hw (gw, C, 28) (.head _)) Try.underlying28 rfl (by rw [HC.out.size]; exact Try.infoCv))
    refine wp_region_line (S := fun w' => Held w' [(gw, C, 28), (gk, C, 28)]) [(true, 0), (true, 1), (true, 2), (true, 3), (true, 4), (true, 5), (true, 6), (true, 7)] (by kernel_rfl) (by kernel_rfl) HS3.out ?_
    refine SQ.out ?_
    refine g_ps [(0, .bool false), (1, .bool false), (2, .bool false), (3, .bool false)] (by kernel_rfl) ?_
    refine g_ld (some 28) Fk.out (by kernel_rfl) ?_
    refine g_ld (some 29) Fw.out (by kernel_rfl) ?_
    refine g_take (some 30) (.bool false) (by kernel_rfl) (HNe.out _ _ _ _ (by kernel_rfl) (.tmp 28) (.tmp 29) (by kernel_rfl) (by kernel_rfl) (by kernel_rfl)) ?_
    refine g_ps [(7, .bool false)] (by kernel_rfl) ?_
    refine g_norm { tmps := List.toArray (List.append [.slice a0 len0 cap0, undef, .bool false, .int .i64 id, .pointer (some ⟨gk, 0, none⟩), .bool false, .pointer (some ⟨gw, 0, none⟩), .bool false, undef, undef, .slice a0 len0 cap0, .bool false, .slice a0 len0 cap0, .int .i64 id, .tuple #[.agg C, .bool false], .int .i64 id, .tuple #[.agg C, .bool false], .agg C, .bool false, .tuple #[.agg C, .bool false], .int .i64 id, .tuple #[.agg C, .bool false], .agg C, .bool false, .bool false, .bool false, .bool false, .bool false, .agg C, .agg C, .bool false, .bool false, undef, undef, undef, undef, undef, undef, undef, undef] (List.append [undef, undef, undef, undef, undef, undef, undef, undef, undef, undef, undef, undef, undef, undef, undef, undef, undef, undef, undef, undef, undef, undef, undef, undef, undef, undef, undef, undef, undef, undef, undef, undef, undef, undef, undef, undef, undef, undef, undef, undef] ([undef, undef, undef, undef, undef, undef, undef, undef, undef, undef, undef, undef, undef, undef, undef, undef, undef, undef, undef, undef, undef, undef, undef, undef, undef, undef, undef, undef, undef, undef, undef, undef, undef, undef, undef, undef, undef]))), defers := [] } (by kernel_rfl) ?_
    refine g_done ?_
    refine (by assumption : ∀ (a : Act) (w_1 : World), Code.wp _ _ _ a w_1 → _) _ _ ?_
    clear Fk Fw HS3 HNe
    go_wp2_with fail
    refine (SB.out _).mono ?_
    rintro e w4 ⟨rfl, b4⟩
    have HG4 := Lib.hid (HG3.out.on b4)
    clear b4 SB HG3
    go_wp2_with fail
    refine (CN.out _).mono ?_
    rintro e w5 ⟨rfl, b5⟩
    have HG5 := Lib.hid (HG4.out.on b5)
    clear b5 CN HG4
    go_wp2
    go_ret
    exact ⟨rfl, HG5.out.b⟩
  | true =>
    rw [hok] at HI HJ
    have F := curve_says hok
    have HW := Lib.hid ((spare_wrap F.sz F.bits).trans F.spareEq.symm)
    have HSp := Lib.hid F.spare
    have BO := Lib.hid (fun w => baseOf_any hok w)
    have PB := Lib.hid (fun w => pairBase_any hok w)
    have CN := Lib.hid (curveNamed_i (cvNT id))
    rw [F.name] at CN
    have CC := Lib.hid (cubeAnd_i id (bsX id))
    have MR := Lib.hid (mulRest_any (bsY id) (bsY id) (cvPT id))
    rw [← base_on hok] at MR
    have C2 := Lib.hid (cubeAndPair_i id (bpX id))
    have MP := Lib.hid (mulPair_any (bpY id) (bpY id) (cvPT id))
    rw [← base2_on hok] at MP
    have ON := Lib.hid one_l
    have S1 := Lib.hid (scalarOk_i id ⟨#[1]⟩)
    rw [F.one] at S1
    have S2 := Lib.hid (scalarOk_i id (cvRT id))
    rw [F.r] at S2
    have SB := Lib.hid (spareBits_i id)
    have BT := Lib.hid (bitsOf_any (cvPT id))
    have PP := Lib.hid (primeOk_any (cvPT id))
    rw [F.p] at PP
    have PR := Lib.hid (primeOk_any (cvRT id))
    rw [F.q] at PR
    clear F hok
    generalize spareN id = sp at *
    generalize bitsG (cvPT id) = bb at *
    generalize cubeG id (bsX id) = c1 at *
    generalize cube2G id (bpX id) = c2 at *
    generalize bsX id = X at *
    generalize bsY id = Y at *
    generalize bpX id = PX at *
    generalize bpY id = PY at *
    generalize cvC id = C at *
    generalize cvNT id = tn at *
    generalize cvPT id = tp at *
    generalize cvRT id = tr at *
    generalize cvBT id = tb at *
    generalize cvKT id = tk at *
    generalize cvSz id = sz at *
    go_wp2_with fail
    refine (HI.out _).mono ?_
    rintro e w2 ⟨rfl, b2⟩
    have V2 := Lib.hid (cv_var' w2 HC.out.size)
    have HG2 := Lib.hid (((HG1.out.on b2).new cv0 28).putAt (HG1.out.on b2).b.size (HG1.out.on b2).h.apart C)
    clear b2 HI HG1
    go_wp2_with (first | refine cv_store rfl (.tmp 4) (.tmp 17) rfl w2.heap.size cv0 C rfl rfl V2.out.at0 rfl HC.out.size HC.out.one ?_)
    clear V2
    generalize (w2.alloc _).setRow _ _ = u2 at *
    generalize w2.heap.size = gk at *
    refine (HJ.out _).mono ?_
    rintro e w3 ⟨rfl, b3⟩
    have V3 := Lib.hid (cv_var' w3 HC.out.size)
    have HG3 := Lib.hid (((HG2.out.on b3).new cv0 28).putAt (HG2.out.on b3).b.size (HG2.out.on b3).h.apart C)
    clear b3 HJ HG2
    go_upto_region 6 with (first | refine cv_store rfl (.tmp 6) (.tmp 22) rfl w3.heap.size cv0 C rfl rfl V3.out.at0 rfl HC.out.size HC.out.one ?_)
    clear V3
    generalize (w3.alloc _).setRow _ _ = u3 at *
    generalize w3.heap.size = gw at *
    have HS3 := Lib.hid HG3.out.h
    have Fk := Lib.hid (show ∀ w', Held w' [(gw, C, 28), (gk, C, 28)] → (Instr.loadAt 28 (.pointer (some ⟨gk, 0, none⟩))).run Try.prog w' = .ok (.agg C) w' from fun w' hw => cells_load (show _ = some (Obj.cells C 28 (0, 0)) from hw (gk, C, 28) (.tail _ (.head _))) Try.underlying28 rfl (by rw [HC.out.size]; exact Try.infoCv))
    have Fw := Lib.hid (show ∀ w', Held w' [(gw, C, 28), (gk, C, 28)] → (Instr.loadAt 28 (.pointer (some ⟨gw, 0, none⟩))).run Try.prog w' = .ok (.agg C) w' from fun w' hw => cells_load (show _ = some (Obj.cells C 28 (0, 0)) from hw (gw, C, 28) (.head _)) Try.underlying28 rfl (by rw [HC.out.size]; exact Try.infoCv))
    refine wp_region_line (S := fun w' => Held w' [(gw, C, 28), (gk, C, 28)]) [(true, 0), (true, 1), (true, 2), (true, 3), (true, 4), (true, 5), (true, 6), (true, 7)] (by kernel_rfl) (by kernel_rfl) HS3.out ?_
    refine SQ.out ?_
    refine g_ps [(0, .bool true), (1, .bool true), (2, .bool false), (3, .bool false)] (by kernel_rfl) ?_
    refine g_ld (some 28) Fk.out (by kernel_rfl) ?_
    refine g_ld (some 29) Fw.out (by kernel_rfl) ?_
    refine g_take (some 30) (.bool false) (by kernel_rfl) (HNe.out _ _ _ _ (by kernel_rfl) (.tmp 28) (.tmp 29) (by kernel_rfl) (by kernel_rfl) (by kernel_rfl)) ?_
    refine g_ps [(7, .bool false)] (by kernel_rfl) ?_
    refine g_norm { tmps := List.toArray (List.append [.slice a0 len0 cap0, undef, .bool false, .int .i64 id, .pointer (some ⟨gk, 0, none⟩), .bool true, .pointer (some ⟨gw, 0, none⟩), .bool true, undef, undef, .slice a0 len0 cap0, .bool false, .slice a0 len0 cap0, .int .i64 id, .tuple #[.agg C, .bool true], .int .i64 id, .tuple #[.agg C, .bool true], .agg C, .bool true, .tuple #[.agg C, .bool true], .int .i64 id, .tuple #[.agg C, .bool true], .agg C, .bool true, .bool true, .bool true, .bool false, .bool false, .agg C, .agg C, .bool false, .bool false, undef, undef, undef, undef, undef, undef, undef, undef] (List.append [undef, undef, undef, undef, undef, undef, undef, undef, undef, undef, undef, undef, undef, undef, undef, undef, undef, undef, undef, undef, undef, undef, undef, undef, undef, undef, undef, undef, undef, undef, undef, undef, undef, undef, undef, undef, undef, undef, undef, undef] ([undef, undef, undef, undef, undef, undef, undef, undef, undef, undef, undef, undef, undef, undef, undef, undef, undef, undef, undef, undef, undef, undef, undef, undef, undef, undef, undef, undef, undef, undef, undef, undef, undef, undef, undef, undef, undef]))), defers := [] } (by kernel_rfl) ?_
    refine g_done ?_
    refine (by assumption : ∀ (a : Act) (w_1 : World), Code.wp _ _ _ a w_1 → _) _ _ ?_
    clear Fk Fw HS3 HNe
    go_wp2_with fail
    refine (BO.out _).mono ?_
    rintro e w4 ⟨rfl, b4⟩
    have HG4 := Lib.hid (HG3.out.on b4)
    have HN4 := Lib.hid (heap_alloc_new w4 (.cells #[.bool false, .string ⟨#[]⟩, .string ⟨#[]⟩] 34))
    have HG5 := Lib.hid ((HG4.out.new #[.bool false, .string ⟨#[]⟩, .string ⟨#[]⟩] 34).putAt HG4.out.b.size HG4.out.h.apart (ptT X Y))
    clear b4 BO HG3 HG4
    go_wp2_with (first | refine store_v rfl 34 (.tmp 8) (.tmp 42) rfl w4.heap.size _ (ptT X Y) rfl rfl HN4.out Try.infoPoint rfl (by kernel_rfl) ?_)
    clear HN4
    generalize (w4.alloc _).setRow _ _ = u4 at *
    generalize w4.heap.size = gp at *
    refine (PB.out _).mono ?_
    rintro e w5 ⟨rfl, b5⟩
    have HG6 := Lib.hid (HG5.out.on b5)
    have HN6 := Lib.hid (heap_alloc_new w5 (.cells #[.bool false, .string ⟨#[]⟩, .string ⟨#[]⟩, .string ⟨#[]⟩, .string ⟨#[]⟩] 37))
    have HG7 := Lib.hid ((HG6.out.new #[.bool false, .string ⟨#[]⟩, .string ⟨#[]⟩, .string ⟨#[]⟩, .string ⟨#[]⟩] 37).putAt HG6.out.b.size HG6.out.h.apart (ppT PX PY))
    clear b5 PB HG5 HG6
    go_upto_region 12 with (first | refine store_v rfl 37 (.tmp 9) (.tmp 44) rfl w5.heap.size _ (ppT PX PY) rfl rfl HN6.out Try.infoPairPoint rfl (by kernel_rfl) ?_)
    clear HN6
    generalize (w5.alloc _).setRow _ _ = u5 at *
    generalize w5.heap.size = gq at *
    have HG0 := Lib.hid HG7.out.drew
    have HS0 := Lib.hid HG0.out.h
    clear HG7
    have F0 := Lib.hid (show ∀ w', Held w' [(gq, ppT PX PY, 37), (gp, ptT X Y, 34), (gw, C, 28), (gk, C, 28)] → (Instr.loadAt 9 (.pointer (some ⟨gk, 0, none⟩))).run Try.prog w' = .ok (.string tn) w' from fun w' hw => (HC.out.strs (show _ = some (Obj.cells (C) 28 (0, 0)) from hw (gk, C, 28) (.tail _ (.tail _ (.tail _ (.head _)))))).1)
    have F1 := Lib.hid (show ∀ w', Held w' [(gq, ppT PX PY, 37), (gp, ptT X Y, 34), (gw, C, 28), (gk, C, 28)] → (Instr.loadAt 9 (.pointer (some ⟨gk, 1, none⟩))).run Try.prog w' = .ok (.string tp) w' from fun w' hw => (HC.out.strs (show _ = some (Obj.cells (C) 28 (0, 0)) from hw (gk, C, 28) (.tail _ (.tail _ (.tail _ (.head _)))))).2.1)
    have F2 := Lib.hid (show ∀ w', Held w' [(gq, ppT PX PY, 37), (gp, ptT X Y, 34), (gw, C, 28), (gk, C, 28)] → (Instr.loadAt 9 (.pointer (some ⟨gk, 2, none⟩))).run Try.prog w' = .ok (.string tr) w' from fun w' hw => (HC.out.strs (show _ = some (Obj.cells (C) 28 (0, 0)) from hw (gk, C, 28) (.tail _ (.tail _ (.tail _ (.head _)))))).2.2.1)
    have F6 := Lib.hid (show ∀ w', Held w' [(gq, ppT PX PY, 37), (gp, ptT X Y, 34), (gw, C, 28), (gk, C, 28)] → (Instr.loadAt 3 (.pointer (some ⟨gk, 6, none⟩))).run Try.prog w' = .ok (.int .i64 sz) w' from fun w' hw => int_load (HC.out.cells w' gk (show _ = some (Obj.cells (C) 28 (0, 0)) from hw (gk, C, 28) (.tail _ (.tail _ (.tail _ (.head _)))))).2.2.2.2)
    have G1 := Lib.hid (show ∀ w', Held w' [(gq, ppT PX PY, 37), (gp, ptT X Y, 34), (gw, C, 28), (gk, C, 28)] → (Instr.loadAt 9 (.pointer (some ⟨gp, 1, none⟩))).run Try.prog w' = .ok (.string X) w' from fun w' hw => (pt_loads (show _ = some (Obj.cells (ptT X Y) 34 (0, 0)) from hw (gp, ptT X Y, 34) (.tail _ (.head _)))).1)
    have G2 := Lib.hid (show ∀ w', Held w' [(gq, ppT PX PY, 37), (gp, ptT X Y, 34), (gw, C, 28), (gk, C, 28)] → (Instr.loadAt 9 (.pointer (some ⟨gp, 2, none⟩))).run Try.prog w' = .ok (.string Y) w' from fun w' hw => (pt_loads (show _ = some (Obj.cells (ptT X Y) 34 (0, 0)) from hw (gp, ptT X Y, 34) (.tail _ (.head _)))).2)
    have H1 := Lib.hid (show ∀ w', Held w' [(gq, ppT PX PY, 37), (gp, ptT X Y, 34), (gw, C, 28), (gk, C, 28)] → (Instr.loadAt 26 (.pointer (some ⟨gq, 1, none⟩))).run Try.prog w' = .ok (.agg (aggT PX)) w' from fun w' hw => (pp_loads (show _ = some (Obj.cells (ppT PX PY) 37 (0, 0)) from hw (gq, ppT PX PY, 37) (.head _))).1)
    have H2 := Lib.hid (show ∀ w', Held w' [(gq, ppT PX PY, 37), (gp, ptT X Y, 34), (gw, C, 28), (gk, C, 28)] → (Instr.loadAt 26 (.pointer (some ⟨gq, 3, none⟩))).run Try.prog w' = .ok (.agg (aggT PY)) w' from fun w' hw => (pp_loads (show _ = some (Obj.cells (ppT PX PY) 37 (0, 0)) from hw (gq, ppT PX PY, 37) (.head _))).2)
    refine sq_go (S := fun w' => Held w' [(gq, ppT PX PY, 37), (gp, ptT X Y, 34), (gw, C, 28), (gk, C, 28)]) [(true, 0), (true, 1), (true, 3), (false, 2), (true, 4), (true, 5), (true, 6), (true, 7), (true, 8), (true, 10), (true, 11), (true, 12), (true, 13), (true, 14), (true, 15), (false, 9), (false, 16), (true, 17), (true, 18), (true, 19), (true, 20), (true, 21), (true, 22), (true, 24), (true, 25), (true, 26), (true, 27), (true, 28), (true, 29), (false, 23), (false, 30), (true, 31), (true, 32), (true, 33), (true, 34), (false, 35), (false, 36), (true, 37), (true, 38), (true, 39), (true, 40), (true, 41), (false, 42), (true, 43), (true, 44), (true, 45), (true, 46), (true, 48), (true, 49), (true, 50), (true, 51), (true, 52), (false, 47), (false, 53), (true, 54), (true, 55), (true, 56), (true, 57), (true, 58), (false, 59), (true, 60), (true, 61), (true, 62), (true, 63), (true, 64), (false, 65), (true, 66), (true, 67), (true, 68), (true, 69), (false, 70), (true, 71), (true, 72)] (by kernel_rfl) (fun d _ _ _ _ h => by cases d <;> exact h) HS0.out ?_
    refine SQ.out ?_
    refine g_ps [(0, .pointer (some ⟨gk, 0, none⟩))] (by kernel_rfl) ?_
    refine g_ld (some 46) F0.out (by kernel_rfl) ?_
    refine g_ps [(3, .int .i64 id)] (by kernel_rfl) ?_
    refine g_c (some 47) Try.func15 (CN.out _) (by kernel_rfl) ?_
    rintro e v1 ⟨rfl, bw1⟩
    have HG1 := Lib.hid (HG0.out.on bw1)
    have HS1 := Lib.hid HG1.out.h
    refine ⟨_, rfl, HS1.out, ?_⟩
    refine g_take (some 49) (.bool true) (by kernel_rfl) (yields_eqI (by kernel_rfl) (.tmp 47) (.tmp 48) (by kernel_rfl) id (by kernel_rfl) (by kernel_rfl)) ?_
    refine g_ps [(5, .bool true), (6, .int .i64 id), (7, .pointer (some ⟨gp, 1, none⟩))] (by kernel_rfl) ?_
    refine g_ld (some 53) G1.out (by kernel_rfl) ?_
    refine g_ps [(10, .pointer (some ⟨gp, 2, none⟩))] (by kernel_rfl) ?_
    refine g_ld (some 56) G2.out (by kernel_rfl) ?_
    refine g_ps [(12, .pointer (some ⟨gp, 2, none⟩))] (by kernel_rfl) ?_
    refine g_ld (some 58) G2.out (by kernel_rfl) ?_
    refine g_ps [(14, .pointer (some ⟨gk, 1, none⟩))] (by kernel_rfl) ?_
    refine g_ld (some 60) F1.out (by kernel_rfl) ?_
    refine g_c (some 54) Try.func18 (CC.out _) (by kernel_rfl) ?_
    rintro e v2 ⟨rfl, bw2⟩
    have HG2 := Lib.hid (HG1.out.on bw2)
    have HS2 := Lib.hid HG2.out.h
    refine ⟨_, rfl, HS2.out, ?_⟩
    refine g_c (some 61) Try.func19 (MR.out _) (by kernel_rfl) ?_
    rintro e v3 ⟨rfl, bw3⟩
    have HG3 := Lib.hid (HG2.out.on bw3)
    have HS3 := Lib.hid HG3.out.h
    refine ⟨_, rfl, HS3.out, ?_⟩
    refine g_take (some 62) (.bool true) (by kernel_rfl) (yields_eqT (by kernel_rfl) (.tmp 54) (.tmp 61) (by kernel_rfl) c1 (by kernel_rfl) (by kernel_rfl)) ?_
    refine g_ps [(18, .bool true), (19, .bool true), (20, .int .i64 id), (21, .pointer (some ⟨gq, 1, none⟩))] (by kernel_rfl) ?_
    refine g_ld (some 67) H1.out (by kernel_rfl) ?_
    refine g_ps [(24, .pointer (some ⟨gq, 3, none⟩))] (by kernel_rfl) ?_
    refine g_ld (some 70) H2.out (by kernel_rfl) ?_
    refine g_ps [(26, .pointer (some ⟨gq, 3, none⟩))] (by kernel_rfl) ?_
    refine g_ld (some 72) H2.out (by kernel_rfl) ?_
    refine g_ps [(28, .pointer (some ⟨gk, 1, none⟩))] (by kernel_rfl) ?_
    refine g_ld (some 74) F1.out (by kernel_rfl) ?_
    refine g_c (some 68) Try.func20 (C2.out _) (by kernel_rfl) ?_
    rintro e v4 ⟨rfl, bw4⟩
    have HG4 := Lib.hid (HG3.out.on bw4)
    have HS4 := Lib.hid HG4.out.h
    refine ⟨_, rfl, HS4.out, ?_⟩
    refine g_c (some 75) Try.func21 (MP.out _) (by kernel_rfl) ?_
    rintro e v5 ⟨rfl, bw5⟩
    have HG5 := Lib.hid (HG4.out.on bw5)
    have HS5 := Lib.hid HG5.out.h
    refine ⟨_, rfl, HS5.out, ?_⟩
    refine g_take (some 76) (.bool true) (by kernel_rfl) (yields_eqP (by kernel_rfl) (.tmp 68) (.tmp 75) (by kernel_rfl) c2 (by kernel_rfl) (by kernel_rfl)) ?_
    refine g_ps [(32, .bool true), (33, .bool true), (34, .int .i64 id)] (by kernel_rfl) ?_
    refine g_c (some 80) Try.func23 (ON.out _) (by kernel_rfl) ?_
    rintro e v6 ⟨rfl, bw6⟩
    subst bw6
    have HG6 := HG5
    have HS6 := Lib.hid HG6.out.h
    refine ⟨_, rfl, HS6.out, ?_⟩
    refine g_c (some 81) Try.func22 (S1.out _) (by kernel_rfl) ?_
    rintro e v7 ⟨rfl, bw7⟩
    have HG7 := Lib.hid (HG6.out.on bw7)
    have HS7 := Lib.hid HG7.out.h
    refine ⟨_, rfl, HS7.out, ?_⟩
    refine g_ps [(37, .bool true), (38, .bool true), (39, .int .i64 id), (40, .pointer (some ⟨gk, 2, none⟩))] (by kernel_rfl) ?_
    refine g_ld (some 86) F2.out (by kernel_rfl) ?_
    refine g_c (some 87) Try.func22 (S2.out _) (by kernel_rfl) ?_
    rintro e v8 ⟨rfl, bw8⟩
    have HG8 := Lib.hid (HG7.out.on bw8)
    have HS8 := Lib.hid HG8.out.h
    refine ⟨_, rfl, HS8.out, ?_⟩
    refine g_ps [(43, .bool true), (44, .bool true), (45, .bool true), (46, .int .i64 id), (48, .pointer (some ⟨gk, 6, none⟩))] (by kernel_rfl) ?_
    refine g_ld (some 94) F6.out (by kernel_rfl) ?_
    refine g_ps [(50, .int .i64 (IntKind.i64.wrap (8 * sz))), (51, .pointer (some ⟨gk, 1, none⟩))] (by kernel_rfl) ?_
    refine g_ld (some 97) F1.out (by kernel_rfl) ?_
    refine g_c (some 92) Try.func14 (SB.out _) (by kernel_rfl) ?_
    rintro e v9 ⟨rfl, bw9⟩
    have HG9 := Lib.hid (HG8.out.on bw9)
    have HS9 := Lib.hid HG9.out.h
    refine ⟨_, rfl, HS9.out, ?_⟩
    refine g_c (some 98) Try.func24 (BT.out _) (by kernel_rfl) ?_
    rintro e v10 ⟨rfl, bw10⟩
    subst bw10
    have HG10 := HG9
    have HS10 := Lib.hid HG10.out.h
    refine ⟨_, rfl, HS10.out, ?_⟩
    refine g_take (some 99) (.int .i64 sp) (by kernel_rfl) (yields_subI (by kernel_rfl) (.tmp 95) (.tmp 98) (by kernel_rfl) (IntKind.i64.wrap (8 * sz)) bb sp (by kernel_rfl) (by kernel_rfl) HW.out) ?_
    refine g_take (some 100) (.bool true) (by kernel_rfl) (yields_eqI (by kernel_rfl) (.tmp 92) (.tmp 99) (by kernel_rfl) sp (by kernel_rfl) (by kernel_rfl)) ?_
    refine g_ps [(56, .bool true), (57, .bool true), (58, .int .i64 id)] (by kernel_rfl) ?_
    refine g_c (some 104) Try.func14 (SB.out _) (by kernel_rfl) ?_
    rintro e v11 ⟨rfl, bw11⟩
    have HG11 := Lib.hid (HG10.out.on bw11)
    have HS11 := Lib.hid HG11.out.h
    refine ⟨_, rfl, HS11.out, ?_⟩
    refine g_take (some 105) (.bool true) (by kernel_rfl) (yields_ge2 (by kernel_rfl) (.tmp 104) (.const (.int .i64 2)) (by kernel_rfl) sp (by kernel_rfl) (by kernel_rfl) HSp.out) ?_
    refine g_ps [(61, .bool true), (62, .bool true), (63, .pointer (some ⟨gk, 1, none⟩))] (by kernel_rfl) ?_
    refine g_ld (some 109) F1.out (by kernel_rfl) ?_
    refine g_c (some 110) Try.func25 (PP.out _) (by kernel_rfl) ?_
    rintro e v12 ⟨rfl, bw12⟩
    have HG12 := Lib.hid (HG11.out.on bw12)
    have HS12 := Lib.hid HG12.out.h
    refine ⟨_, rfl, HS12.out, ?_⟩
    refine g_ps [(66, .bool true), (67, .bool true), (68, .pointer (some ⟨gk, 2, none⟩))] (by kernel_rfl) ?_
    refine g_ld (some 114) F2.out (by kernel_rfl) ?_
    refine g_c (some 115) Try.func25 (PR.out _) (by kernel_rfl) ?_
    rintro e v13 ⟨rfl, bw13⟩
    have HG13 := Lib.hid (HG12.out.on bw13)
    have HS13 := Lib.hid HG13.out.h
    refine ⟨_, rfl, HS13.out, ?_⟩
    refine g_ps [(71, .bool true), (72, .bool true)] (by kernel_rfl) ?_
    refine g_done ?_
    refine (by assumption : ∀ (a : Act) (w_1 : World), Code.wp _ Code.ret _ a w_1 → _) _ _ ?_
    refine wp_ret ?_
    exact ret_at (v := .bool true) Try.results3 (by kernel_rfl) (by kernel_rfl) ⟨rfl, HG13.out.b⟩
end Go.Proofs.Ytmbhodhghgdbhaa
