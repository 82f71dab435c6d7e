/-
  The walk of laws.FnTurned.
-/
import Derived.Test.YtflfeepgkcamnaaSeqP
import Derived.Deep.DeepCutAuto
namespace Go.Proofs.Ytflfeepgkcamnaa
open Go.RowKit

/-- What FnTurned asks of a pair of rests over such a prime. -/
structure TurnLaws (z : Pt) (q less : ByteArray) : Prop where
  turned : powPG z q q = otherPG z q
  norm : mulPG z (otherPG z q) q = (normG z q, ⟨#[]⟩)
  full : z ≠ noP → powPG z less q = (⟨#[1]⟩, ⟨#[]⟩)
  none : z = noP → otherPG z q = noP
theorem turn_laws {q less : ByteArray} {n : Nat} (hq : gV q = n) (hm : modB q = true) (hpr : Prm n) (h4 : n % 4 = 3) (hG : n * n < GB) (hl : less = gS (n * n - 1)) (a b : ByteArray) : TurnLaws (restG a q, restG b q) q less := by
  obtain ⟨r, hr, lr⟩ := rest_of_rest a hm
  obtain ⟨s, hs, ls⟩ := rest_of_rest b hm
  have hp := mod_pos hm
  have hn : n < GB := by rw [← hq]; exact gV_lt (modB_parts hm).1
  have ez : (restG a q, restG b q) = txtP (r, s) := by unfold txtP; rw [hr, hs]
  have ix : InP2 (gV q) (r, s) := ⟨lr, ls⟩
  have eq : q = gS n := by rw [← hq, gS_gV (modB_parts hm).1]
  have ht : powPG (txtP (r, s)) q q = otherPG (txtP (r, s)) q := by
    have e := pow_txt (m := n) hm ix hn
    rw [← eq] at e
    rw [e, other_txt hm ix, hq, turnedP hpr h4 (by rw [← hq]; exact ix)]
  refine ⟨by rw [ez, ht], ?_, fun hne => ?_, fun h0 => ?_⟩
  · rw [ez, other_txt hm ix, mul_txt hm ix (otherP_in hp ix), mul_otherP hp ix, norm_txt hm ix]
    unfold txtP
    rw [gS_zero]
  · rw [ez] at hne ⊢
    have hne' : (r, s) ≠ (0, 0) := fun e => hne (by rw [e, ← noP_txt])
    rw [hl, pow_txt hm ix (by omega), hq, fullP hpr h4 (by rw [← hq]; exact ix) hne']
    unfold txtP
    rw [gS_one, gS_zero]
  · rw [ez] at h0
    have e0 : (r, s) = (0, 0) := by
      have := congrArg valP h0
      rw [val_txt, noP_txt, val_txt] at this
      exact this
    rw [ez, e0, other_txt hm (by rw [← e0]; exact ix)]
    unfold otherP
    rw [noP_txt]
    simp only [Nat.zero_add, Nat.sub_zero, Nat.mod_self]
theorem less_cv1 : subG (mulG cvP1 cvP1) ⟨#[1]⟩ = gS (1706311 * 1706311 - 1) := by decide +kernel
theorem less_cv2 : subG (mulG cvP2 cvP2) ⟨#[1]⟩ = gS (10647363907 * 10647363907 - 1) := by decide +kernel
/-- A small curve as FnTurned takes it. -/
structure TurnCv (id : Int) (C : Array Value) (q less : ByteArray) : Prop where
  at' : ∀ w, Calls Try.prog 26 #[.int .i64 id] w fun e w' => e = .returned (.tuple #[.agg C, .bool true]) ∧ Below w.heap.size w w'
  size : C.size = 9
  one : C.all (·.oneCell') = true
  hq : C[1]? = some (.string q)
  hless : subG (mulG q q) ⟨#[1]⟩ = less
  laws : ∀ a b, TurnLaws (restG a q, restG b q) q less
theorem turn_cv1 : ∃ C q less, TurnCv 1 C q less := ⟨cv1, cvP1, _, curve_at1, rfl, by kernel_rfl, rfl, less_cv1, turn_laws cvP1_num (mod_cv (n := 1706311) cvP1_num rfl (by omega)) prm_1706311 (by decide) (by unfold GB; exact Nat.lt_of_lt_of_le (by decide : 1706311 * 1706311 < 256 ^ 6) (Nat.pow_le_pow_right (by omega) (by omega))) rfl⟩
theorem turn_cv2 : ∃ C q less, TurnCv 2 C q less := ⟨cv2, cvP2, _, curve_at2, rfl, by kernel_rfl, rfl, less_cv2, turn_laws cvP2_num (mod_cv (n := 10647363907) cvP2_num rfl (by omega)) prm_10647363907 (by decide) (by unfold GB; exact Nat.lt_of_lt_of_le (by decide : 10647363907 * 10647363907 < 256 ^ 9) (Nat.pow_le_pow_right (by omega) (by omega))) rfl⟩
theorem yields_few {ops : Array Oper} {S : World → Prop} {o : Oper} {a : Act} (hw : Region.wanted o (yielded ops a.tmps) = true) (x : Operand) (ho : o.op = .binOp .lss 3 x (.const (.int .i64 1000)) 3) (p : ByteArray) (hx : a.eval x = .int .i64 (p.size : Int)) (h : p.size ≤ 950) : YieldsIf Try.prog ops S o (.bool true) a := by
  refine .inl ⟨hw, fun w _ => ?_⟩
  have h2 : decide ((p.size : Int) < 1000) = true := by simp; omega
  unfold execOp
  simp only [ho, hx]
  go_simp
theorem empty_of {s : ByteArray} (h : s.toList = []) : s = ⟨#[]⟩ := by
  have e : s.size = 0 := by
    have h1 : s.toList.isEmpty = true := by rw [h]; rfl
    rw [isEmpty_size] at h1
    simpa using h1
  cases s with
  | mk d => exact congrArg ByteArray.mk (Array.eq_empty_of_size_eq_zero e)
theorem yields_neP {ops : Array Oper} {S : World → Prop} {o : Oper} {a : Act} (hw : Region.wanted o (yielded ops a.tmps) = true) (x y : Operand) (ho : o.op = .binOp .eql 25 x y 25) (z : Pt)
    (hx : a.eval x = .agg #[.string z.1, .string z.2]) (hy : a.eval y = .agg #[.string ⟨#[]⟩, .string ⟨#[]⟩]) (h : z ≠ noP) : YieldsIf Try.prog ops S o (.bool false) a := by
  refine .inl ⟨hw, fun w _ => ?_⟩
  have h2 : ¬ (z.1 = ⟨#[]⟩ ∧ z.2 = ⟨#[]⟩) := fun ⟨e1, e2⟩ => h (Prod.ext e1 e2)
  unfold execOp
  simp only [ho, hx, hy]
  go_simp
  intro e1 e2
  exact h2 ⟨empty_of e1, empty_of e2⟩
theorem pow_seven : powPG (⟨#[]⟩, ⟨#[1]⟩) ⟨#[2]⟩ ⟨#[7]⟩ = (⟨#[6]⟩, ⟨#[]⟩) := by decide +kernel
set_option maxRecDepth 8000 in
set_option maxHeartbeats 8000000 in
theorem turned_walk (a0 : Option Addr) (len0 cap0 : Nat) (z0 : List Int) (w : World) (w0 : IsRow .u8 w a0 len0 cap0 z0) :
    Calls Try.prog 4 #[.slice a0 len0 cap0] w (Yes w) := by
  have hlen : len0 ≤ maxLen := by rcases w0 with ⟨_, rfl, _⟩ | ⟨_, _, h1, h2, _⟩ <;> unfold maxLen at * <;> omega
  have HBig := Lib.hid (big_g a0 len0 cap0 w hlen)
  by_cases h1 : 1048576 < len0
  · have hd : decide ((1048576 : Int) < (len0 : Int)) = true := by simp; omega
    clear w0 hlen
    go_enter Try.func4, Try.ntmps4
    go_wp2_with fail
    refine HBig.out.mono ?_
    rintro e w' ⟨rfl, rfl⟩
    go_wp2
    go_ret
    exact ⟨rfl, Below.refl _ _⟩
  have hd : decide ((1048576 : Int) < (len0 : Int)) = false := by simp; omega
  have HD := Lib.hid (drawMulPair_c a0 len0 cap0 w (w0.draw (by omega)))
  obtain ⟨par, hpar⟩ : ∃ k : Int, (len0 : Int) % 2 = k := ⟨_, rfl⟩
  obtain ⟨id, hid⟩ : ∃ k : Int, 1 + par = k := ⟨_, rfl⟩
  have hid12 : id = 1 ∨ id = 2 := by omega
  obtain ⟨C, q, less, HCv⟩ : ∃ C q less, Hid (TurnCv id C q less) := by
    rcases hid12 with rfl | rfl
    · obtain ⟨C, q, less, h⟩ := turn_cv1; exact ⟨C, q, less, h⟩
    · obtain ⟨C, q, less, h⟩ := turn_cv2; exact ⟨C, q, less, h⟩
  have hwr : IntKind.i64.wrap (1 + par) = id := by rw [hid]; exact IntWalk.i64_in _ (by omega)
  clear w0 hlen h1 hid12 hid
  go_enter Try.func4, Try.ntmps4
  go_wp2_with fail
  refine HBig.out.mono ?_
  rintro e w' ⟨rfl, rfl⟩
  go_wp2_with fail
  refine HD.out.mono ?_
  rintro e w1 ⟨x, y, p, rfl, _, _, hp950, b1⟩
  have HB1 := Lib.hid b1
  have HPs := Lib.hid hp950
  clear HBig HD hd b1 hp950
  have HX2 := Lib.hid (heap_alloc2_old w1 (.cells #[.string ⟨#[]⟩, .string ⟨#[]⟩] 25) (.cells #[.string ⟨#[]⟩, .string ⟨#[]⟩] 25))
  have HO2 := Lib.hid (heap_alloc2_new w1 (.cells #[.string ⟨#[]⟩, .string ⟨#[]⟩] 25) (.cells #[.string ⟨#[]⟩, .string ⟨#[]⟩] 25))
  have HL := Lib.hid (two_laid (w := w1) (C' := aggT x) (D' := aggT y) HX2.out HO2.out (((Below.refl w1.heap.size w1).alloc (Nat.le_refl _) (.cells #[.string ⟨#[]⟩, .string ⟨#[]⟩] 25)).alloc (by simp) (.cells #[.string ⟨#[]⟩, .string ⟨#[]⟩] 25)) (Nat.le_refl _))
  have HG2 := Lib.hid (Stand.mk (((Held.none _).cons HL.out.2.2.1).cons HL.out.2.1) (bt HB1.out HL.out.2.2.2))
  have HY2 := Lib.hid HL.out.1
  clear HB1 HL HO2
  go_upto_region 4 with (first | refine store_p rfl (.tmp 3) (.tmp 19) rfl w1.heap.size _ x rfl rfl HX2.out rfl ?_ | refine store_p rfl (.tmp 4) (.tmp 20) rfl (w1.heap.size + 1) _ y rfl rfl HY2.out rfl ?_)
  generalize (((w1.alloc (.cells #[.string ⟨#[]⟩, .string ⟨#[]⟩] 25)).alloc (.cells #[.string ⟨#[]⟩, .string ⟨#[]⟩] 25)).setRow w1.heap.size (aggT x)).setRow (w1.heap.size + 1) (aggT y) = w2 at *
  clear HX2 HY2
  generalize w1.heap.size + 1 = gy at *
  generalize w1.heap.size = gx at *
  go_upto_region 5 with (fail)
  have HK := Lib.hid HCv.out.at'
  go_wp2_with fail
  refine (HK.out _).mono ?_
  rintro e w3 ⟨rfl, b3⟩
  have HG3 := Lib.hid (HG2.out.on b3)
  have HN3 := Lib.hid (heap_alloc_new w3 (.cells cv0 35))
  have HGa := Lib.hid (HG3.out.new cv0 35)
  have HG4 := Lib.hid (HGa.out.putAt HG3.out.b.size HG3.out.h.apart C)
  clear b3 HG2 HK HGa hwr hpar
  go_upto_region 6 with (first | refine cv_store rfl (.tmp 7) (.tmp 29) rfl w3.heap.size cv0 C rfl rfl HN3.out rfl HCv.out.size HCv.out.one ?_)
  generalize (w3.alloc (.cells cv0 35)).setRow w3.heap.size C = w4 at *
  clear HG3 HN3
  generalize w3.heap.size = gk at *
  have CR1 := Lib.hid (restOf_any x.1 q)
  have CR2 := Lib.hid (restOf_any y.2 q)
  have HLw := Lib.hid (HCv.out.laws x.1 y.2)
  obtain ⟨ra, hra⟩ : ∃ r, restG x.1 q = r := ⟨_, rfl⟩
  obtain ⟨rb, hrb⟩ : ∃ r, restG y.2 q = r := ⟨_, rfl⟩
  rw [hra, hrb] at HLw
  rw [hra] at CR1
  rw [hrb] at CR2
  obtain ⟨z, hz⟩ : ∃ z : Pt, (ra, rb) = z := ⟨_, rfl⟩
  have HBz := Lib.hid (built_pair ra rb)
  rw [hz] at HBz HLw
  clear hra hrb hz
  have HG0 := Lib.hid HG4.out.drew
  have HS0 := Lib.hid HG0.out.h
  clear HG4
  have Fx1 := Lib.hid (show ∀ w', Held w' [(gk, C, 35), (gx, aggT x, 25), (gy, aggT y, 25)] → (Instr.loadAt 9 (.pointer (some ⟨gx, 0, none⟩))).run Try.prog w' = .ok (.string x.1) w' from fun w' hw => str_load (agg_cells (hw _ (.tail _ (.head _)))).1)
  have Fy2 := Lib.hid (show ∀ w', Held w' [(gk, C, 35), (gx, aggT x, 25), (gy, aggT y, 25)] → (Instr.loadAt 9 (.pointer (some ⟨gy, 1, none⟩))).run Try.prog w' = .ok (.string y.2) w' from fun w' hw => str_load (agg_cells (hw _ (.tail _ (.tail _ (.head _))))).2)
  have Fq := Lib.hid (show ∀ w', Held w' [(gk, C, 35), (gx, aggT x, 25), (gy, aggT y, 25)] → (Instr.loadAt 9 (.pointer (some ⟨gk, 1, none⟩))).run Try.prog w' = .ok (.string q) w' from fun w' hw => str_load ((cell_of_row _ gk 1 _ _ _ (hw _ (.head _))).trans HCv.out.hq))
  refine Code.wp_mono (Q := fun e a' w' => e = .normal ∧ ∃ g9 : Nat, a' = { tmps := List.toArray (List.append [(.slice a0 len0 cap0), undef, (.bool false), (.pointer (some ⟨gx, 0, none⟩)), (.pointer (some ⟨gy, 0, none⟩)), (.string p), (.int .i64 id), (.pointer (some ⟨gk, 0, none⟩)), (.bool true), (.pointer (some ⟨g9, 0, none⟩)), undef, undef, undef, undef, (.slice a0 len0 cap0), (.bool false), (.tuple #[.agg (aggT x), .agg (aggT y), .string p]), (.slice a0 len0 cap0), (.tuple #[.agg (aggT x), .agg (aggT y), .string p]), (.agg (aggT x)), (.agg (aggT y)), (.string p), (.slice a0 len0 cap0), (.int .i64 (len0 : Int)), (.int .i64 ((len0 : Int) % 2)), (.int .i64 id), (.tuple #[.agg C, .bool true]), (.int .i64 id), (.tuple #[.agg C, .bool true]), (.agg C), (.bool true), (.pointer (some ⟨gx, 0, none⟩)), (.string x.1), (.pointer (some ⟨gk, 1, none⟩)), (.string q), (.string ra), (.pointer (some ⟨gy, 1, none⟩)), (.string y.2), (.pointer (some ⟨gk, 1, none⟩)), (.string q)] (List.append [(.string rb), (.agg (aggT z)), undef, undef, undef, undef, undef, undef, undef, undef, undef, undef, undef, undef, undef, undef, undef, undef, undef, undef, undef, undef, undef, undef, undef, undef, undef, undef, undef, undef, undef, undef, undef, undef, undef, undef, undef, undef, undef, undef] [undef, undef, undef, undef, undef, undef, undef, undef, undef, undef, undef, undef, undef, undef, undef, undef, undef, undef, undef, undef, undef, undef, undef, undef, undef])), defers := [] } ∧ Stand w w' ((g9, aggT z, 25) :: [(gk, C, 35), (gx, aggT x, 25), (gy, aggT y, 25)])) ?_ ?_
  rotate_left
  · refine m_begin (S := fun w' => Held w' [(gk, C, 35), (gx, aggT x, 25), (gy, aggT y, 25)]) (by kernel_rfl) 13 (by kernel_rfl) ?_
    change wpM _ _ _ _ _ _ _ _ w4.drew
    generalize w4.drew = w0 at *
    refine m_seq (f := 5) [⟨0, some 31, [3]⟩, ⟨1, some 32, [31]⟩, ⟨0, some 33, [7]⟩, ⟨4, some 34, [33]⟩, ⟨10, some 35, [32, 34]⟩, ⟨0, some 36, [4]⟩, ⟨32, some 37, [36]⟩, ⟨0, some 38, [7]⟩, ⟨128, some 39, [38]⟩, ⟨336, some 40, [37, 39]⟩, ⟨528, some 41, [35, 40]⟩, ⟨0, some 9, []⟩, ⟨4095, none, [9, 41]⟩] [(true, 0), (true, 1), (true, 2), (true, 3), (true, 5), (true, 6), (true, 7), (true, 8)] 495 (by kernel_rfl) (by kernel_rfl) (fun _ _ _ _ _ h => by cases h.1) (by kernel_rfl) (by kernel_rfl) (by kernel_rfl) HS0.out ?_
    refine sq_pure (some 31) (.pointer (some ⟨gx, 0, none⟩)) (by kernel_rfl) (by kernel_rfl) (fun _ => (by kernel_rfl)) ?_
    refine sq_held (some 32) (.string x.1) (by kernel_rfl) (by kernel_rfl) (held_load 9 (.tmp 31) (by kernel_rfl) _ _ (by kernel_rfl) Fx1.out) ?_
    refine sq_pure (some 33) (.pointer (some ⟨gk, 1, none⟩)) (by kernel_rfl) (by kernel_rfl) (fun _ => (by kernel_rfl)) ?_
    refine sq_held (some 34) (.string q) (by kernel_rfl) (by kernel_rfl) (held_load 9 (.tmp 33) (by kernel_rfl) _ _ (by kernel_rfl) Fq.out) ?_
    refine sq_pure (some 36) (.pointer (some ⟨gy, 1, none⟩)) (by kernel_rfl) (by kernel_rfl) (fun _ => (by kernel_rfl)) ?_
    refine sq_held (some 37) (.string y.2) (by kernel_rfl) (by kernel_rfl) (held_load 9 (.tmp 36) (by kernel_rfl) _ _ (by kernel_rfl) Fy2.out) ?_
    refine sq_pure (some 38) (.pointer (some ⟨gk, 1, none⟩)) (by kernel_rfl) (by kernel_rfl) (fun _ => (by kernel_rfl)) ?_
    refine sq_held (some 39) (.string q) (by kernel_rfl) (by kernel_rfl) (held_load 9 (.tmp 38) (by kernel_rfl) _ _ (by kernel_rfl) Fq.out) ?_
    refine sq_done ?_
    refine m_ways (f := 4) [⟨0, some 31, [3]⟩, ⟨1, some 32, [31]⟩, ⟨0, some 33, [7]⟩, ⟨4, some 34, [33]⟩, ⟨10, some 35, [32, 34]⟩, ⟨0, some 36, [4]⟩, ⟨32, some 37, [36]⟩, ⟨0, some 38, [7]⟩, ⟨128, some 39, [38]⟩, ⟨336, some 40, [37, 39]⟩, ⟨528, some 41, [35, 40]⟩, ⟨0, some 9, []⟩, ⟨4095, none, [9, 41]⟩] [4, 11] (by kernel_rfl) (by kernel_rfl) (by kernel_rfl) (by kernel_rfl) ?_
    intro i hi
    rcases (by simpa using hi : i = 4 ∨ i = 11) with rfl | rfl
    · refine sq_fn (some 35) [.string x.1, .string q] Try.func27 (by kernel_rfl) (by kernel_rfl) (by kernel_rfl) (by kernel_rfl) (by kernel_rfl) (by kernel_rfl) ?_
      refine ((CR1.out _)).mono ?_
      rintro e w1 ⟨rfl, bw1⟩
      have HG1 := Lib.hid (HG0.out.on bw1)
      have HS1 := Lib.hid HG1.out.h
      refine ⟨_, rfl, HS1.out, ?_⟩
      refine sq_done ?_
      refine m_mask (M' := 511) (by kernel_rfl) ?_
      refine m_ways (f := 3) [⟨0, some 31, [3]⟩, ⟨1, some 32, [31]⟩, ⟨0, some 33, [7]⟩, ⟨4, some 34, [33]⟩, ⟨10, some 35, [32, 34]⟩, ⟨0, some 36, [4]⟩, ⟨32, some 37, [36]⟩, ⟨0, some 38, [7]⟩, ⟨128, some 39, [38]⟩, ⟨336, some 40, [37, 39]⟩, ⟨528, some 41, [35, 40]⟩, ⟨0, some 9, []⟩, ⟨4095, none, [9, 41]⟩] [9, 11] (by kernel_rfl) (by kernel_rfl) (by kernel_rfl) (by kernel_rfl) ?_
      intro i hi
      rcases (by simpa using hi : i = 9 ∨ i = 11) with rfl | rfl
      · refine sq_fn (some 40) [.string y.2, .string q] Try.func27 (by kernel_rfl) (by kernel_rfl) (by kernel_rfl) (by kernel_rfl) (by kernel_rfl) (by kernel_rfl) ?_
        refine ((CR2.out _)).mono ?_
        rintro e w2 ⟨rfl, bw2⟩
        have HG2 := Lib.hid (HG1.out.on bw2)
        have HS2 := Lib.hid HG2.out.h
        refine ⟨_, rfl, HS2.out, ?_⟩
        refine sq_done ?_
        refine m_mask (M' := 1023) (by kernel_rfl) ?_
        refine m_seq (f := 0) [⟨0, some 31, [3]⟩, ⟨1, some 32, [31]⟩, ⟨0, some 33, [7]⟩, ⟨4, some 34, [33]⟩, ⟨10, some 35, [32, 34]⟩, ⟨0, some 36, [4]⟩, ⟨32, some 37, [36]⟩, ⟨0, some 38, [7]⟩, ⟨128, some 39, [38]⟩, ⟨336, some 40, [37, 39]⟩, ⟨528, some 41, [35, 40]⟩, ⟨0, some 9, []⟩, ⟨4095, none, [9, 41]⟩] [(true, 10), (false, 11), (false, 12)] 8191 (by kernel_rfl) (by kernel_rfl) (fun _ _ _ _ _ h => by cases h.1) (by kernel_rfl) (by kernel_rfl) (by kernel_rfl) HS2.out ?_
        refine sq_pure (some 41) (.agg (aggT z)) (by kernel_rfl) (by kernel_rfl) (held_build 25 #[(0, (.tmp 35)), (1, (.tmp 40))] (by kernel_rfl) _ (by kernel_rfl) _ HBz.out) ?_
        have HG3 := Lib.hid (HG2.out.new #[.string ⟨#[]⟩, .string ⟨#[]⟩] 25)
        have HN := Lib.hid HG2.out.h.apart
        have HLe := Lib.hid HG2.out.b.size
        have HS3 := Lib.hid HG3.out.h.tail
        refine sq_alloc (some 9) 25 #[.string ⟨#[]⟩, .string ⟨#[]⟩] (by kernel_rfl) (by kernel_rfl) (by kernel_rfl) (by kernel_rfl) (zero_pair _) HS3.out ?_
        generalize w2.alloc (.cells #[.string ⟨#[]⟩, .string ⟨#[]⟩] 25) = w3 at *
        refine sq_store 25 (.tmp 9) (.tmp 41) w2.heap.size #[.string ⟨#[]⟩, .string ⟨#[]⟩] (aggT z) (by kernel_rfl) (by kernel_rfl) (by kernel_rfl) (by kernel_rfl) (by kernel_rfl) (by kernel_rfl) (HG3.out.h _ (.head _)) Try.infoP rfl (by simp [aggT, Value.oneCell']) (HS3.out.setRow HN.out) ?_
        refine sq_done ?_
        refine m_done [⟨0, some 31, [3]⟩, ⟨1, some 32, [31]⟩, ⟨0, some 33, [7]⟩, ⟨4, some 34, [33]⟩, ⟨10, some 35, [32, 34]⟩, ⟨0, some 36, [4]⟩, ⟨32, some 37, [36]⟩, ⟨0, some 38, [7]⟩, ⟨128, some 39, [38]⟩, ⟨336, some 40, [37, 39]⟩, ⟨528, some 41, [35, 40]⟩, ⟨0, some 9, []⟩, ⟨4095, none, [9, 41]⟩] (by kernel_rfl) (by kernel_rfl) { tmps := List.toArray (List.append [(.slice a0 len0 cap0), undef, (.bool false), (.pointer (some ⟨gx, 0, none⟩)), (.pointer (some ⟨gy, 0, none⟩)), (.string p), (.int .i64 id), (.pointer (some ⟨gk, 0, none⟩)), (.bool true), (.pointer (some ⟨w2.heap.size, 0, none⟩)), undef, undef, undef, undef, (.slice a0 len0 cap0), (.bool false), (.tuple #[.agg (aggT x), .agg (aggT y), .string p]), (.slice a0 len0 cap0), (.tuple #[.agg (aggT x), .agg (aggT y), .string p]), (.agg (aggT x)), (.agg (aggT y)), (.string p), (.slice a0 len0 cap0), (.int .i64 (len0 : Int)), (.int .i64 ((len0 : Int) % 2)), (.int .i64 id), (.tuple #[.agg C, .bool true]), (.int .i64 id), (.tuple #[.agg C, .bool true]), (.agg C), (.bool true), (.pointer (some ⟨gx, 0, none⟩)), (.string x.1), (.pointer (some ⟨gk, 1, none⟩)), (.string q), (.string ra), (.pointer (some ⟨gy, 1, none⟩)), (.string y.2), (.pointer (some ⟨gk, 1, none⟩)), (.string q)] (List.append [(.string rb), (.agg (aggT z)), undef, undef, undef, undef, undef, undef, undef, undef, undef, undef, undef, undef, undef, undef, undef, undef, undef, undef, undef, undef, undef, undef, undef, undef, undef, undef, undef, undef, undef, undef, undef, undef, undef, undef, undef, undef, undef, undef] [undef, undef, undef, undef, undef, undef, undef, undef, undef, undef, undef, undef, undef, undef, undef, undef, undef, undef, undef, undef, undef, undef, undef, undef, undef])), defers := [] } (by kernel_rfl) ?_
        exact ⟨rfl, w2.heap.size, rfl, HG3.out.putAt HLe.out HN.out (aggT z)⟩
      · have HG2 := Lib.hid (HG1.out.new #[.string ⟨#[]⟩, .string ⟨#[]⟩] 25)
        have HN := Lib.hid HG1.out.h.apart
        have HLe := Lib.hid HG1.out.b.size
        have HS2 := Lib.hid HG2.out.h.tail
        refine sq_alloc (some 9) 25 #[.string ⟨#[]⟩, .string ⟨#[]⟩] (by kernel_rfl) (by kernel_rfl) (by kernel_rfl) (by kernel_rfl) (zero_pair _) HS2.out ?_
        generalize w1.alloc (.cells #[.string ⟨#[]⟩, .string ⟨#[]⟩] 25) = w2 at *
        refine sq_done ?_
        refine m_mask (M' := 2559) (by kernel_rfl) ?_
        refine m_seq (f := 0) [⟨0, some 31, [3]⟩, ⟨1, some 32, [31]⟩, ⟨0, some 33, [7]⟩, ⟨4, some 34, [33]⟩, ⟨10, some 35, [32, 34]⟩, ⟨0, some 36, [4]⟩, ⟨32, some 37, [36]⟩, ⟨0, some 38, [7]⟩, ⟨128, some 39, [38]⟩, ⟨336, some 40, [37, 39]⟩, ⟨528, some 41, [35, 40]⟩, ⟨0, some 9, []⟩, ⟨4095, none, [9, 41]⟩] [(false, 9), (true, 10), (false, 12)] 8191 (by kernel_rfl) (by kernel_rfl) (fun _ _ _ _ _ h => by cases h.1) (by kernel_rfl) (by kernel_rfl) (by kernel_rfl) HS2.out ?_
        refine sq_fn (some 40) [.string y.2, .string q] Try.func27 (by kernel_rfl) (by kernel_rfl) (by kernel_rfl) (by kernel_rfl) (by kernel_rfl) (by kernel_rfl) ?_
        refine ((CR2.out _)).mono ?_
        rintro e w3 ⟨rfl, bw3⟩
        have HG3 := Lib.hid (HG2.out.on bw3)
        have HS3 := Lib.hid HG3.out.h.tail
        refine ⟨_, rfl, HS3.out, ?_⟩
        refine sq_pure (some 41) (.agg (aggT z)) (by kernel_rfl) (by kernel_rfl) (held_build 25 #[(0, (.tmp 35)), (1, (.tmp 40))] (by kernel_rfl) _ (by kernel_rfl) _ HBz.out) ?_
        refine sq_store 25 (.tmp 9) (.tmp 41) w1.heap.size #[.string ⟨#[]⟩, .string ⟨#[]⟩] (aggT z) (by kernel_rfl) (by kernel_rfl) (by kernel_rfl) (by kernel_rfl) (by kernel_rfl) (by kernel_rfl) (HG3.out.h _ (.head _)) Try.infoP rfl (by simp [aggT, Value.oneCell']) (HS3.out.setRow HN.out) ?_
        refine sq_done ?_
        refine m_done [⟨0, some 31, [3]⟩, ⟨1, some 32, [31]⟩, ⟨0, some 33, [7]⟩, ⟨4, some 34, [33]⟩, ⟨10, some 35, [32, 34]⟩, ⟨0, some 36, [4]⟩, ⟨32, some 37, [36]⟩, ⟨0, some 38, [7]⟩, ⟨128, some 39, [38]⟩, ⟨336, some 40, [37, 39]⟩, ⟨528, some 41, [35, 40]⟩, ⟨0, some 9, []⟩, ⟨4095, none, [9, 41]⟩] (by kernel_rfl) (by kernel_rfl) { tmps := List.toArray (List.append [(.slice a0 len0 cap0), undef, (.bool false), (.pointer (some ⟨gx, 0, none⟩)), (.pointer (some ⟨gy, 0, none⟩)), (.string p), (.int .i64 id), (.pointer (some ⟨gk, 0, none⟩)), (.bool true), (.pointer (some ⟨w1.heap.size, 0, none⟩)), undef, undef, undef, undef, (.slice a0 len0 cap0), (.bool false), (.tuple #[.agg (aggT x), .agg (aggT y), .string p]), (.slice a0 len0 cap0), (.tuple #[.agg (aggT x), .agg (aggT y), .string p]), (.agg (aggT x)), (.agg (aggT y)), (.string p), (.slice a0 len0 cap0), (.int .i64 (len0 : Int)), (.int .i64 ((len0 : Int) % 2)), (.int .i64 id), (.tuple #[.agg C, .bool true]), (.int .i64 id), (.tuple #[.agg C, .bool true]), (.agg C), (.bool true), (.pointer (some ⟨gx, 0, none⟩)), (.string x.1), (.pointer (some ⟨gk, 1, none⟩)), (.string q), (.string ra), (.pointer (some ⟨gy, 1, none⟩)), (.string y.2), (.pointer (some ⟨gk, 1, none⟩)), (.string q)] (List.append [(.string rb), (.agg (aggT z)), undef, undef, undef, undef, undef, undef, undef, undef, undef, undef, undef, undef, undef, undef, undef, undef, undef, undef, undef, undef, undef, undef, undef, undef, undef, undef, undef, undef, undef, undef, undef, undef, undef, undef, undef, undef, undef, undef] [undef, undef, undef, undef, undef, undef, undef, undef, undef, undef, undef, undef, undef, undef, undef, undef, undef, undef, undef, undef, undef, undef, undef, undef, undef])), defers := [] } (by kernel_rfl) ?_
        exact ⟨rfl, w1.heap.size, rfl, HG3.out.putAt HLe.out HN.out (aggT z)⟩
    · have HG1 := Lib.hid (HG0.out.new #[.string ⟨#[]⟩, .string ⟨#[]⟩] 25)
      have HN := Lib.hid HG0.out.h.apart
      have HLe := Lib.hid HG0.out.b.size
      have HS1 := Lib.hid HG1.out.h.tail
      refine sq_alloc (some 9) 25 #[.string ⟨#[]⟩, .string ⟨#[]⟩] (by kernel_rfl) (by kernel_rfl) (by kernel_rfl) (by kernel_rfl) (zero_pair _) HS1.out ?_
      generalize w0.alloc (.cells #[.string ⟨#[]⟩, .string ⟨#[]⟩] 25) = w1 at *
      refine sq_done ?_
      refine m_mask (M' := 2543) (by kernel_rfl) ?_
      refine m_seq (f := 0) [⟨0, some 31, [3]⟩, ⟨1, some 32, [31]⟩, ⟨0, some 33, [7]⟩, ⟨4, some 34, [33]⟩, ⟨10, some 35, [32, 34]⟩, ⟨0, some 36, [4]⟩, ⟨32, some 37, [36]⟩, ⟨0, some 38, [7]⟩, ⟨128, some 39, [38]⟩, ⟨336, some 40, [37, 39]⟩, ⟨528, some 41, [35, 40]⟩, ⟨0, some 9, []⟩, ⟨4095, none, [9, 41]⟩] [(false, 4), (false, 9), (true, 10), (false, 12)] 8191 (by kernel_rfl) (by kernel_rfl) (fun _ _ _ _ _ h => by cases h.1) (by kernel_rfl) (by kernel_rfl) (by kernel_rfl) HS1.out ?_
      refine sq_fn (some 35) [.string x.1, .string q] Try.func27 (by kernel_rfl) (by kernel_rfl) (by kernel_rfl) (by kernel_rfl) (by kernel_rfl) (by kernel_rfl) ?_
      refine ((CR1.out _)).mono ?_
      rintro e w2 ⟨rfl, bw2⟩
      have HG2 := Lib.hid (HG1.out.on bw2)
      have HS2 := Lib.hid HG2.out.h.tail
      refine ⟨_, rfl, HS2.out, ?_⟩
      refine sq_fn (some 40) [.string y.2, .string q] Try.func27 (by kernel_rfl) (by kernel_rfl) (by kernel_rfl) (by kernel_rfl) (by kernel_rfl) (by kernel_rfl) ?_
      refine ((CR2.out _)).mono ?_
      rintro e w3 ⟨rfl, bw3⟩
      have HG3 := Lib.hid (HG2.out.on bw3)
      have HS3 := Lib.hid HG3.out.h.tail
      refine ⟨_, rfl, HS3.out, ?_⟩
      refine sq_pure (some 41) (.agg (aggT z)) (by kernel_rfl) (by kernel_rfl) (held_build 25 #[(0, (.tmp 35)), (1, (.tmp 40))] (by kernel_rfl) _ (by kernel_rfl) _ HBz.out) ?_
      refine sq_store 25 (.tmp 9) (.tmp 41) w0.heap.size #[.string ⟨#[]⟩, .string ⟨#[]⟩] (aggT z) (by kernel_rfl) (by kernel_rfl) (by kernel_rfl) (by kernel_rfl) (by kernel_rfl) (by kernel_rfl) (HG3.out.h _ (.head _)) Try.infoP rfl (by simp [aggT, Value.oneCell']) (HS3.out.setRow HN.out) ?_
      refine sq_done ?_
      refine m_done [⟨0, some 31, [3]⟩, ⟨1, some 32, [31]⟩, ⟨0, some 33, [7]⟩, ⟨4, some 34, [33]⟩, ⟨10, some 35, [32, 34]⟩, ⟨0, some 36, [4]⟩, ⟨32, some 37, [36]⟩, ⟨0, some 38, [7]⟩, ⟨128, some 39, [38]⟩, ⟨336, some 40, [37, 39]⟩, ⟨528, some 41, [35, 40]⟩, ⟨0, some 9, []⟩, ⟨4095, none, [9, 41]⟩] (by kernel_rfl) (by kernel_rfl) { tmps := List.toArray (List.append [(.slice a0 len0 cap0), undef, (.bool false), (.pointer (some ⟨gx, 0, none⟩)), (.pointer (some ⟨gy, 0, none⟩)), (.string p), (.int .i64 id), (.pointer (some ⟨gk, 0, none⟩)), (.bool true), (.pointer (some ⟨w0.heap.size, 0, none⟩)), undef, undef, undef, undef, (.slice a0 len0 cap0), (.bool false), (.tuple #[.agg (aggT x), .agg (aggT y), .string p]), (.slice a0 len0 cap0), (.tuple #[.agg (aggT x), .agg (aggT y), .string p]), (.agg (aggT x)), (.agg (aggT y)), (.string p), (.slice a0 len0 cap0), (.int .i64 (len0 : Int)), (.int .i64 ((len0 : Int) % 2)), (.int .i64 id), (.tuple #[.agg C, .bool true]), (.int .i64 id), (.tuple #[.agg C, .bool true]), (.agg C), (.bool true), (.pointer (some ⟨gx, 0, none⟩)), (.string x.1), (.pointer (some ⟨gk, 1, none⟩)), (.string q), (.string ra), (.pointer (some ⟨gy, 1, none⟩)), (.string y.2), (.pointer (some ⟨gk, 1, none⟩)), (.string q)] (List.append [(.string rb), (.agg (aggT z)), undef, undef, undef, undef, undef, undef, undef, undef, undef, undef, undef, undef, undef, undef, undef, undef, undef, undef, undef, undef, undef, undef, undef, undef, undef, undef, undef, undef, undef, undef, undef, undef, undef, undef, undef, undef, undef, undef] [undef, undef, undef, undef, undef, undef, undef, undef, undef, undef, undef, undef, undef, undef, undef, undef, undef, undef, undef, undef, undef, undef, undef, undef, undef])), defers := [] } (by kernel_rfl) ?_
      exact ⟨rfl, w0.heap.size, rfl, HG3.out.putAt HLe.out HN.out (aggT z)⟩
  clear HG0 HS0 Fx1 Fy2 Fq CR1 CR2 HBz
  rintro e a w5 ⟨rfl, g9, rfl, hg⟩
  have HG0 := Lib.hid hg
  have HS0 := Lib.hid HG0.out.h
  clear hg
  have CP := Lib.hid (powPair_i z q q)
  rw [HLw.out.turned] at CP
  have CM := Lib.hid (mulPair_i z (otherPG z q) q)
  rw [HLw.out.norm] at CM
  have CO := Lib.hid (otherPair_i z q)
  have CN := Lib.hid (normOf_i z q)
  have HNone := Lib.hid HLw.out.none
  have CF := Lib.hid (fun (h : z ≠ noP) => show ∀ w, Calls Try.prog 28 #[.agg (aggT z), .string less, .string q] w (fun e w' => e = .returned (.agg (aggT (⟨#[1]⟩, ⟨#[]⟩))) ∧ Below w.heap.size w w') from fun w => HLw.out.full h ▸ powPair_i z less q w)
  obtain ⟨tt, htt⟩ : ∃ t : Pt, otherPG z q = t := ⟨_, rfl⟩
  obtain ⟨nx, hnx⟩ : ∃ t : ByteArray, normG z q = t := ⟨_, rfl⟩
  rw [htt] at CP CM CO HNone
  rw [hnx] at CM CN
  clear htt hnx HLw
  have CMG := Lib.hid (mulGreat_any q q)
  have CSG := Lib.hid (subGreat_any (mulG q q) ⟨#[1]⟩)
  rw [HCv.out.hless] at CSG
  generalize mulG q q = mg at *
  generalize subB mg ⟨#[1]⟩ = sb at *
  have C7 := Lib.hid (powPair_i (⟨#[]⟩, ⟨#[1]⟩) ⟨#[2]⟩ ⟨#[7]⟩)
  rw [pow_seven] at C7
  have HOne := Lib.hid one_fn
  have c5 := (cell_of_row w5 gk 1 _ _ _ (HG0.out.h (gk, C, 35) (.tail _ (.head _)))).trans HCv.out.hq
  have p5 := HG0.out.h (g9, aggT z, 25) (.head _)
  refine (by assumption : ∀ (a : Act) (w_1 : World), Code.wp _ _ _ a w_1 → _) _ _ ?_
  go_wp2_with (first | refine load_p rfl (.tmp 9) rfl g9 z rfl p5 ?_)
  refine (CP.out _).mono ?_
  rintro e w6 ⟨rfl, b6⟩
  clear c5 p5
  have HG6 := Lib.hid (HG0.out.on b6)
  have HN6 := Lib.hid (heap_alloc_new w6 (.cells #[.string ⟨#[]⟩, .string ⟨#[]⟩] 25))
  have HG7 := Lib.hid ((HG6.out.new #[.string ⟨#[]⟩, .string ⟨#[]⟩] 25).putAt HG6.out.b.size HG6.out.h.apart (aggT tt))
  clear b6 HG0 HS0 CP HG6
  go_upto_region 8 with (first | refine store_p rfl (.tmp 10) (.tmp 47) rfl w6.heap.size _ tt rfl rfl HN6.out rfl ?_)
  generalize (w6.alloc (.cells #[.string ⟨#[]⟩, .string ⟨#[]⟩] 25)).setRow w6.heap.size (aggT tt) = w7 at *
  clear HN6
  generalize w6.heap.size = g10 at *
  have c7 := (cell_of_row w7 gk 1 _ _ _ (HG7.out.h (gk, C, 35) (.tail _ (.tail _ (.head _))))).trans HCv.out.hq
  have p7 := HG7.out.h (g9, aggT z, 25) (.tail _ (.head _))
  have t7 := HG7.out.h (g10, aggT tt, 25) (.head _)
  go_wp2_with (first | refine load_p rfl (.tmp 9) rfl g9 z rfl p7 ?_ | refine load_p rfl (.tmp 10) rfl g10 tt rfl t7 ?_)
  refine (CM.out _).mono ?_
  rintro e w8 ⟨rfl, b8⟩
  clear c7 p7 t7
  have HG8 := Lib.hid (HG7.out.on b8)
  have HN8 := Lib.hid (heap_alloc_new w8 (.cells #[.string ⟨#[]⟩, .string ⟨#[]⟩] 25))
  have HG9 := Lib.hid ((HG8.out.new #[.string ⟨#[]⟩, .string ⟨#[]⟩] 25).putAt HG8.out.b.size HG8.out.h.apart (aggT (nx, ⟨#[]⟩)))
  clear b8 HG7 CM HG8
  go_upto_region 9 with (first | refine store_p rfl (.tmp 11) (.tmp 52) rfl w8.heap.size _ (nx, ⟨#[]⟩) rfl rfl HN8.out rfl ?_)
  generalize (w8.alloc (.cells #[.string ⟨#[]⟩, .string ⟨#[]⟩] 25)).setRow w8.heap.size (aggT (nx, ⟨#[]⟩)) = w9 at *
  clear HN8
  generalize w8.heap.size = g11 at *
  have HG0 := Lib.hid HG9.out
  have HS0 := Lib.hid HG0.out.h
  clear HG9
  have F9 := Lib.hid (show ∀ w', Held w' ((g11, aggT (nx, ⟨#[]⟩), 25) :: (g10, aggT tt, 25) :: (g9, aggT z, 25) :: [(gk, C, 35), (gx, aggT x, 25), (gy, aggT y, 25)]) → (Instr.loadAt 25 (.pointer (some ⟨g9, 0, none⟩))).run Try.prog w' = .ok (.agg (aggT z)) w' from fun w' hw => pair_load (hw _ (.tail _ (.tail _ (.head _)))))
  have F10 := Lib.hid (show ∀ w', Held w' ((g11, aggT (nx, ⟨#[]⟩), 25) :: (g10, aggT tt, 25) :: (g9, aggT z, 25) :: [(gk, C, 35), (gx, aggT x, 25), (gy, aggT y, 25)]) → (Instr.loadAt 25 (.pointer (some ⟨g10, 0, none⟩))).run Try.prog w' = .ok (.agg (aggT tt)) w' from fun w' hw => pair_load (hw _ (.tail _ (.head _))))
  have F11 := Lib.hid (show ∀ w', Held w' ((g11, aggT (nx, ⟨#[]⟩), 25) :: (g10, aggT tt, 25) :: (g9, aggT z, 25) :: [(gk, C, 35), (gx, aggT x, 25), (gy, aggT y, 25)]) → (Instr.loadAt 25 (.pointer (some ⟨g11, 0, none⟩))).run Try.prog w' = .ok (.agg (aggT (nx, ⟨#[]⟩))) w' from fun w' hw => pair_load (hw _ (.head _)))
  have Fq := Lib.hid (show ∀ w', Held w' ((g11, aggT (nx, ⟨#[]⟩), 25) :: (g10, aggT tt, 25) :: (g9, aggT z, 25) :: [(gk, C, 35), (gx, aggT x, 25), (gy, aggT y, 25)]) → (Instr.loadAt 9 (.pointer (some ⟨gk, 1, none⟩))).run Try.prog w' = .ok (.string q) w' from fun w' hw => str_load ((cell_of_row _ gk 1 _ _ _ (hw _ (.tail _ (.tail _ (.tail _ (.head _)))))).trans HCv.out.hq))
  generalize w9 = w0 at *
  by_cases hz0 : z = noP
  · have htt := HNone.out hz0
    subst hz0
    subst htt
    clear CO CN CF CMG CSG HNone
    refine wp_region_line (S := fun w' => Held w' ((g11, aggT (nx, ⟨#[]⟩), 25) :: (g10, aggT noP, 25) :: (g9, aggT noP, 25) :: [(gk, C, 35), (gx, aggT x, 25), (gy, aggT y, 25)])) [(true, 0), (true, 1), (true, 2)] (by kernel_rfl) (by kernel_rfl) HS0.out ?_
    refine SQ.out ?_
    refine g_held (some 53) (.agg (aggT noP)) (by kernel_rfl) (by kernel_rfl) (held_load 25 (.tmp 9) (by kernel_rfl) _ _ (by kernel_rfl) F9.out) ?_
    refine g_pure (some 54) (.agg (aggT noP)) (by kernel_rfl) (by kernel_rfl) (held_build 25 #[] (by kernel_rfl) _ (by kernel_rfl) _ built_pair0) ?_
    refine g_take (some 55) (.bool true) (by kernel_rfl) (yields_eqP (by kernel_rfl) (.tmp 53) (.tmp 54) (by kernel_rfl) noP (by kernel_rfl) (by kernel_rfl)) ?_
    refine g_norm { tmps := List.toArray (List.append [(.slice a0 len0 cap0), undef, (.bool false), (.pointer (some ⟨gx, 0, none⟩)), (.pointer (some ⟨gy, 0, none⟩)), (.string p), (.int .i64 id), (.pointer (some ⟨gk, 0, none⟩)), (.bool true), (.pointer (some ⟨g9, 0, none⟩)), (.pointer (some ⟨g10, 0, none⟩)), (.pointer (some ⟨g11, 0, none⟩)), undef, undef, (.slice a0 len0 cap0), (.bool false), (.tuple #[.agg (aggT x), .agg (aggT y), .string p]), (.slice a0 len0 cap0), (.tuple #[.agg (aggT x), .agg (aggT y), .string p]), (.agg (aggT x)), (.agg (aggT y)), (.string p), (.slice a0 len0 cap0), (.int .i64 (len0 : Int)), (.int .i64 ((len0 : Int) % 2)), (.int .i64 id), (.tuple #[.agg C, .bool true]), (.int .i64 id), (.tuple #[.agg C, .bool true]), (.agg C), (.bool true), (.pointer (some ⟨gx, 0, none⟩)), (.string x.1), (.pointer (some ⟨gk, 1, none⟩)), (.string q), (.string ra), (.pointer (some ⟨gy, 1, none⟩)), (.string y.2), (.pointer (some ⟨gk, 1, none⟩)), (.string q)] (List.append [(.string rb), (.agg (aggT noP)), (.agg (aggT noP)), (.pointer (some ⟨gk, 1, none⟩)), (.string q), (.pointer (some ⟨gk, 1, none⟩)), (.string q), (.agg (aggT noP)), (.agg (aggT noP)), (.agg (aggT noP)), (.pointer (some ⟨gk, 1, none⟩)), (.string q), (.agg (aggT (nx, ⟨#[]⟩))), (.agg (aggT noP)), (.agg (aggT noP)), (.bool true), undef, undef, undef, undef, undef, undef, undef, undef, undef, undef, undef, undef, undef, undef, undef, undef, undef, undef, undef, undef, undef, undef, undef, undef] [undef, undef, undef, undef, undef, undef, undef, undef, undef, undef, undef, undef, undef, undef, undef, undef, undef, undef, undef, undef, undef, undef, undef, undef, undef])), defers := [] } (by kernel_rfl) ?_
    refine g_done ?_
    refine (by assumption : ∀ (a : Act) (w_1 : World), Code.wp _ _ _ a w_1 → _) _ _ ?_
    go_upto_region 10 with (fail)
    refine wp_region_line (S := fun w' => Held w' ((g11, aggT (nx, ⟨#[]⟩), 25) :: (g10, aggT noP, 25) :: (g9, aggT noP, 25) :: [(gk, C, 35), (gx, aggT x, 25), (gy, aggT y, 25)])) [(true, 0), (true, 1), (true, 2), (true, 3), (true, 4), (false, 5), (true, 6), (true, 7), (true, 8), (true, 9)] (by kernel_rfl) (by kernel_rfl) HS0.out ?_
    refine SQ.out ?_
    refine g_held (some 56) (.agg (aggT noP)) (by kernel_rfl) (by kernel_rfl) (held_load 25 (.tmp 10) (by kernel_rfl) _ _ (by kernel_rfl) F10.out) ?_
    refine g_held (some 57) (.agg (aggT noP)) (by kernel_rfl) (by kernel_rfl) (held_load 25 (.tmp 9) (by kernel_rfl) _ _ (by kernel_rfl) F9.out) ?_
    refine g_take (some 58) (.bool true) (by kernel_rfl) (yields_eqP (by kernel_rfl) (.tmp 56) (.tmp 57) (by kernel_rfl) noP (by kernel_rfl) (by kernel_rfl)) ?_
    refine g_pure (some 59) (.bool true) (by kernel_rfl) (by kernel_rfl) (fun _ => (by kernel_rfl)) ?_
    refine g_pure (some 60) (.agg (aggT (⟨#[]⟩, ⟨#[1]⟩))) (by kernel_rfl) (wanted_by (g := 3) (b := true) (d := 59) (by kernel_rfl) (by kernel_rfl) (by kernel_rfl) (by kernel_rfl)) (held_build 25 #[(1, .const (.string ⟨#[1]⟩))] (by kernel_rfl) _ (by kernel_rfl) _ (built_pairB ⟨#[1]⟩)) ?_
    refine g_norm { tmps := List.toArray (List.append [(.slice a0 len0 cap0), undef, (.bool false), (.pointer (some ⟨gx, 0, none⟩)), (.pointer (some ⟨gy, 0, none⟩)), (.string p), (.int .i64 id), (.pointer (some ⟨gk, 0, none⟩)), (.bool true), (.pointer (some ⟨g9, 0, none⟩)), (.pointer (some ⟨g10, 0, none⟩)), (.pointer (some ⟨g11, 0, none⟩)), undef, undef, (.slice a0 len0 cap0), (.bool false), (.tuple #[.agg (aggT x), .agg (aggT y), .string p]), (.slice a0 len0 cap0), (.tuple #[.agg (aggT x), .agg (aggT y), .string p]), (.agg (aggT x)), (.agg (aggT y)), (.string p), (.slice a0 len0 cap0), (.int .i64 (len0 : Int)), (.int .i64 ((len0 : Int) % 2)), (.int .i64 id), (.tuple #[.agg C, .bool true]), (.int .i64 id), (.tuple #[.agg C, .bool true]), (.agg C), (.bool true), (.pointer (some ⟨gx, 0, none⟩)), (.string x.1), (.pointer (some ⟨gk, 1, none⟩)), (.string q), (.string ra), (.pointer (some ⟨gy, 1, none⟩)), (.string y.2), (.pointer (some ⟨gk, 1, none⟩)), (.string q)] (List.append [(.string rb), (.agg (aggT noP)), (.agg (aggT noP)), (.pointer (some ⟨gk, 1, none⟩)), (.string q), (.pointer (some ⟨gk, 1, none⟩)), (.string q), (.agg (aggT noP)), (.agg (aggT noP)), (.agg (aggT noP)), (.pointer (some ⟨gk, 1, none⟩)), (.string q), (.agg (aggT (nx, ⟨#[]⟩))), (.agg (aggT noP)), (.agg (aggT noP)), (.bool true), (.agg (aggT noP)), (.agg (aggT noP)), (.bool true), (.bool true), (.agg (aggT (⟨#[]⟩, ⟨#[1]⟩))), undef, undef, undef, undef, undef, undef, undef, undef, undef, undef, undef, undef, undef, undef, undef, undef, undef, undef, undef] [undef, undef, undef, undef, undef, undef, undef, undef, undef, undef, undef, undef, undef, undef, undef, undef, undef, undef, undef, undef, undef, undef, undef, undef, undef])), defers := [] } (by kernel_rfl) ?_
    refine g_fn (some 61) [.agg (aggT (⟨#[]⟩, ⟨#[1]⟩)), .string ⟨#[2]⟩, .string ⟨#[7]⟩] Try.func28 (by kernel_rfl) (by kernel_rfl) (by kernel_rfl) (by kernel_rfl) (wanted_by (g := 3) (b := true) (d := 59) (by kernel_rfl) (by kernel_rfl) (by kernel_rfl) (by kernel_rfl)) (by kernel_rfl) ?_
    refine ((C7.out _)).mono ?_
    rintro e w1 ⟨rfl, bw1⟩
    have HG1 := Lib.hid (HG0.out.on bw1)
    have HS1 := Lib.hid HG1.out.h
    refine ⟨_, rfl, HS1.out, ?_⟩
    refine g_pure (some 62) (.agg (aggT (⟨#[6]⟩, ⟨#[]⟩))) (by kernel_rfl) (wanted_by (g := 3) (b := true) (d := 59) (by kernel_rfl) (by kernel_rfl) (by kernel_rfl) (by kernel_rfl)) (held_build 25 #[(0, .const (.string ⟨#[6]⟩))] (by kernel_rfl) _ (by kernel_rfl) _ (built_pairA ⟨#[6]⟩)) ?_
    refine g_take (some 63) (.bool true) (by kernel_rfl) (yields_eqP (wanted_by (g := 3) (b := true) (d := 59) (by kernel_rfl) (by kernel_rfl) (by kernel_rfl) (by kernel_rfl)) (.tmp 61) (.tmp 62) (by kernel_rfl) (⟨#[6]⟩, ⟨#[]⟩) (by kernel_rfl) (by kernel_rfl)) ?_
    refine g_pure (some 64) (.bool true) (by kernel_rfl) (by kernel_rfl) (fun _ => (by kernel_rfl)) ?_
    refine g_pure (some 2) (.bool true) (by kernel_rfl) (by kernel_rfl) (fun _ => (by kernel_rfl)) ?_
    refine g_done ?_
    refine (by assumption : ∀ (a : Act) (w_1 : World), Code.wp _ Code.ret _ a w_1 → _) _ _ ?_
    refine wp_ret ?_
    exact ret_bool rfl (by kernel_rfl) (by kernel_rfl) ⟨rfl, HG1.out.b⟩
  · have CF2 := Lib.hid (CF.out hz0)
    clear CF HNone C7
    refine wp_region_line (S := fun w' => Held w' ((g11, aggT (nx, ⟨#[]⟩), 25) :: (g10, aggT tt, 25) :: (g9, aggT z, 25) :: [(gk, C, 35), (gx, aggT x, 25), (gy, aggT y, 25)])) [(true, 0), (true, 1), (true, 2)] (by kernel_rfl) (by kernel_rfl) HS0.out ?_
    refine SQ.out ?_
    refine g_held (some 53) (.agg (aggT z)) (by kernel_rfl) (by kernel_rfl) (held_load 25 (.tmp 9) (by kernel_rfl) _ _ (by kernel_rfl) F9.out) ?_
    refine g_pure (some 54) (.agg (aggT noP)) (by kernel_rfl) (by kernel_rfl) (held_build 25 #[] (by kernel_rfl) _ (by kernel_rfl) _ built_pair0) ?_
    refine g_take (some 55) (.bool false) (by kernel_rfl) (yields_neP (by kernel_rfl) (.tmp 53) (.tmp 54) (by kernel_rfl) z (by kernel_rfl) (by kernel_rfl) hz0) ?_
    refine g_norm { tmps := List.toArray (List.append [(.slice a0 len0 cap0), undef, (.bool false), (.pointer (some ⟨gx, 0, none⟩)), (.pointer (some ⟨gy, 0, none⟩)), (.string p), (.int .i64 id), (.pointer (some ⟨gk, 0, none⟩)), (.bool true), (.pointer (some ⟨g9, 0, none⟩)), (.pointer (some ⟨g10, 0, none⟩)), (.pointer (some ⟨g11, 0, none⟩)), undef, undef, (.slice a0 len0 cap0), (.bool false), (.tuple #[.agg (aggT x), .agg (aggT y), .string p]), (.slice a0 len0 cap0), (.tuple #[.agg (aggT x), .agg (aggT y), .string p]), (.agg (aggT x)), (.agg (aggT y)), (.string p), (.slice a0 len0 cap0), (.int .i64 (len0 : Int)), (.int .i64 ((len0 : Int) % 2)), (.int .i64 id), (.tuple #[.agg C, .bool true]), (.int .i64 id), (.tuple #[.agg C, .bool true]), (.agg C), (.bool true), (.pointer (some ⟨gx, 0, none⟩)), (.string x.1), (.pointer (some ⟨gk, 1, none⟩)), (.string q), (.string ra), (.pointer (some ⟨gy, 1, none⟩)), (.string y.2), (.pointer (some ⟨gk, 1, none⟩)), (.string q)] (List.append [(.string rb), (.agg (aggT z)), (.agg (aggT z)), (.pointer (some ⟨gk, 1, none⟩)), (.string q), (.pointer (some ⟨gk, 1, none⟩)), (.string q), (.agg (aggT tt)), (.agg (aggT z)), (.agg (aggT tt)), (.pointer (some ⟨gk, 1, none⟩)), (.string q), (.agg (aggT (nx, ⟨#[]⟩))), (.agg (aggT z)), (.agg (aggT noP)), (.bool false), undef, undef, undef, undef, undef, undef, undef, undef, undef, undef, undef, undef, undef, undef, undef, undef, undef, undef, undef, undef, undef, undef, undef, undef] [undef, undef, undef, undef, undef, undef, undef, undef, undef, undef, undef, undef, undef, undef, undef, undef, undef, undef, undef, undef, undef, undef, undef, undef, undef])), defers := [] } (by kernel_rfl) ?_
    refine g_done ?_
    refine (by assumption : ∀ (a : Act) (w_1 : World), Code.wp _ _ _ a w_1 → _) _ _ ?_
    go_upto_region 11 with (fail)
    refine wp_region_line (S := fun w' => Held w' ((g11, aggT (nx, ⟨#[]⟩), 25) :: (g10, aggT tt, 25) :: (g9, aggT z, 25) :: [(gk, C, 35), (gx, aggT x, 25), (gy, aggT y, 25)])) [(true, 0), (true, 1), (true, 2), (true, 3), (false, 4), (false, 5), (false, 6), (true, 7), (true, 8), (true, 9), (true, 10), (true, 11)] (by kernel_rfl) (by kernel_rfl) HS0.out ?_
    refine SQ.out ?_
    refine g_pure (some 66) (.pointer (some ⟨gk, 1, none⟩)) (by kernel_rfl) (by kernel_rfl) (fun _ => (by kernel_rfl)) ?_
    refine g_held (some 67) (.string q) (by kernel_rfl) (by kernel_rfl) (held_load 9 (.tmp 66) (by kernel_rfl) _ _ (by kernel_rfl) Fq.out) ?_
    refine g_pure (some 68) (.pointer (some ⟨gk, 1, none⟩)) (by kernel_rfl) (by kernel_rfl) (fun _ => (by kernel_rfl)) ?_
    refine g_held (some 69) (.string q) (by kernel_rfl) (by kernel_rfl) (held_load 9 (.tmp 68) (by kernel_rfl) _ _ (by kernel_rfl) Fq.out) ?_
    refine g_norm { tmps := List.toArray (List.append [(.slice a0 len0 cap0), undef, (.bool false), (.pointer (some ⟨gx, 0, none⟩)), (.pointer (some ⟨gy, 0, none⟩)), (.string p), (.int .i64 id), (.pointer (some ⟨gk, 0, none⟩)), (.bool true), (.pointer (some ⟨g9, 0, none⟩)), (.pointer (some ⟨g10, 0, none⟩)), (.pointer (some ⟨g11, 0, none⟩)), undef, undef, (.slice a0 len0 cap0), (.bool false), (.tuple #[.agg (aggT x), .agg (aggT y), .string p]), (.slice a0 len0 cap0), (.tuple #[.agg (aggT x), .agg (aggT y), .string p]), (.agg (aggT x)), (.agg (aggT y)), (.string p), (.slice a0 len0 cap0), (.int .i64 (len0 : Int)), (.int .i64 ((len0 : Int) % 2)), (.int .i64 id), (.tuple #[.agg C, .bool true]), (.int .i64 id), (.tuple #[.agg C, .bool true]), (.agg C), (.bool true), (.pointer (some ⟨gx, 0, none⟩)), (.string x.1), (.pointer (some ⟨gk, 1, none⟩)), (.string q), (.string ra), (.pointer (some ⟨gy, 1, none⟩)), (.string y.2), (.pointer (some ⟨gk, 1, none⟩)), (.string q)] (List.append [(.string rb), (.agg (aggT z)), (.agg (aggT z)), (.pointer (some ⟨gk, 1, none⟩)), (.string q), (.pointer (some ⟨gk, 1, none⟩)), (.string q), (.agg (aggT tt)), (.agg (aggT z)), (.agg (aggT tt)), (.pointer (some ⟨gk, 1, none⟩)), (.string q), (.agg (aggT (nx, ⟨#[]⟩))), (.agg (aggT z)), (.agg (aggT noP)), (.bool false), undef, undef, undef, undef, undef, undef, undef, undef, undef, undef, (.pointer (some ⟨gk, 1, none⟩)), (.string q), (.pointer (some ⟨gk, 1, none⟩)), (.string q), undef, undef, undef, undef, undef, undef, undef, undef, undef, undef] [undef, undef, undef, undef, undef, undef, undef, undef, undef, undef, undef, undef, undef, undef, undef, undef, undef, undef, undef, undef, undef, undef, undef, undef, undef])), defers := [] } (by kernel_rfl) ?_
    refine g_fn (some 70) [.string q, .string q] Try.func30 (by kernel_rfl) (by kernel_rfl) (by kernel_rfl) (by kernel_rfl) (by kernel_rfl) (by kernel_rfl) ?_
    refine ((CMG.out _)).mono ?_
    rintro e w1 ⟨rfl, bw1⟩
    have HG1 := Lib.hid (HG0.out.on bw1)
    have HS1 := Lib.hid HG1.out.h
    refine ⟨_, rfl, HS1.out, ?_⟩
    refine g_norm { tmps := List.toArray (List.append [(.slice a0 len0 cap0), undef, (.bool false), (.pointer (some ⟨gx, 0, none⟩)), (.pointer (some ⟨gy, 0, none⟩)), (.string p), (.int .i64 id), (.pointer (some ⟨gk, 0, none⟩)), (.bool true), (.pointer (some ⟨g9, 0, none⟩)), (.pointer (some ⟨g10, 0, none⟩)), (.pointer (some ⟨g11, 0, none⟩)), undef, undef, (.slice a0 len0 cap0), (.bool false), (.tuple #[.agg (aggT x), .agg (aggT y), .string p]), (.slice a0 len0 cap0), (.tuple #[.agg (aggT x), .agg (aggT y), .string p]), (.agg (aggT x)), (.agg (aggT y)), (.string p), (.slice a0 len0 cap0), (.int .i64 (len0 : Int)), (.int .i64 ((len0 : Int) % 2)), (.int .i64 id), (.tuple #[.agg C, .bool true]), (.int .i64 id), (.tuple #[.agg C, .bool true]), (.agg C), (.bool true), (.pointer (some ⟨gx, 0, none⟩)), (.string x.1), (.pointer (some ⟨gk, 1, none⟩)), (.string q), (.string ra), (.pointer (some ⟨gy, 1, none⟩)), (.string y.2), (.pointer (some ⟨gk, 1, none⟩)), (.string q)] (List.append [(.string rb), (.agg (aggT z)), (.agg (aggT z)), (.pointer (some ⟨gk, 1, none⟩)), (.string q), (.pointer (some ⟨gk, 1, none⟩)), (.string q), (.agg (aggT tt)), (.agg (aggT z)), (.agg (aggT tt)), (.pointer (some ⟨gk, 1, none⟩)), (.string q), (.agg (aggT (nx, ⟨#[]⟩))), (.agg (aggT z)), (.agg (aggT noP)), (.bool false), undef, undef, undef, undef, undef, undef, undef, undef, undef, undef, (.pointer (some ⟨gk, 1, none⟩)), (.string q), (.pointer (some ⟨gk, 1, none⟩)), (.string q), (.string mg), undef, undef, undef, undef, undef, undef, undef, undef, undef] [undef, undef, undef, undef, undef, undef, undef, undef, undef, undef, undef, undef, undef, undef, undef, undef, undef, undef, undef, undef, undef, undef, undef, undef, undef])), defers := [] } (by kernel_rfl) ?_
    refine g_fn (some 71) [] Try.func19 (by kernel_rfl) (by kernel_rfl) (by kernel_rfl) (by kernel_rfl) (by kernel_rfl) (by kernel_rfl) ?_
    refine ((HOne.out _)).mono ?_
    rintro e w2 ⟨rfl, ew2⟩
    have bw2 : Below w1.heap.size w1 w2 := ew2 ▸ Below.refl _ _
    clear ew2
    have HG2 := Lib.hid (HG1.out.on bw2)
    have HS2 := Lib.hid HG2.out.h
    refine ⟨_, rfl, HS2.out, ?_⟩
    refine g_norm { tmps := List.toArray (List.append [(.slice a0 len0 cap0), undef, (.bool false), (.pointer (some ⟨gx, 0, none⟩)), (.pointer (some ⟨gy, 0, none⟩)), (.string p), (.int .i64 id), (.pointer (some ⟨gk, 0, none⟩)), (.bool true), (.pointer (some ⟨g9, 0, none⟩)), (.pointer (some ⟨g10, 0, none⟩)), (.pointer (some ⟨g11, 0, none⟩)), undef, undef, (.slice a0 len0 cap0), (.bool false), (.tuple #[.agg (aggT x), .agg (aggT y), .string p]), (.slice a0 len0 cap0), (.tuple #[.agg (aggT x), .agg (aggT y), .string p]), (.agg (aggT x)), (.agg (aggT y)), (.string p), (.slice a0 len0 cap0), (.int .i64 (len0 : Int)), (.int .i64 ((len0 : Int) % 2)), (.int .i64 id), (.tuple #[.agg C, .bool true]), (.int .i64 id), (.tuple #[.agg C, .bool true]), (.agg C), (.bool true), (.pointer (some ⟨gx, 0, none⟩)), (.string x.1), (.pointer (some ⟨gk, 1, none⟩)), (.string q), (.string ra), (.pointer (some ⟨gy, 1, none⟩)), (.string y.2), (.pointer (some ⟨gk, 1, none⟩)), (.string q)] (List.append [(.string rb), (.agg (aggT z)), (.agg (aggT z)), (.pointer (some ⟨gk, 1, none⟩)), (.string q), (.pointer (some ⟨gk, 1, none⟩)), (.string q), (.agg (aggT tt)), (.agg (aggT z)), (.agg (aggT tt)), (.pointer (some ⟨gk, 1, none⟩)), (.string q), (.agg (aggT (nx, ⟨#[]⟩))), (.agg (aggT z)), (.agg (aggT noP)), (.bool false), undef, undef, undef, undef, undef, undef, undef, undef, undef, undef, (.pointer (some ⟨gk, 1, none⟩)), (.string q), (.pointer (some ⟨gk, 1, none⟩)), (.string q), (.string mg), (.string ⟨#[1]⟩), undef, undef, undef, undef, undef, undef, undef, undef] [undef, undef, undef, undef, undef, undef, undef, undef, undef, undef, undef, undef, undef, undef, undef, undef, undef, undef, undef, undef, undef, undef, undef, undef, undef])), defers := [] } (by kernel_rfl) ?_
    refine g_fn (some 72) [.string mg, .string ⟨#[1]⟩] Try.func29 (by kernel_rfl) (by kernel_rfl) (by kernel_rfl) (by kernel_rfl) (by kernel_rfl) (by kernel_rfl) ?_
    refine ((CSG.out _)).mono ?_
    rintro e w3 ⟨rfl, bw3⟩
    have HG3 := Lib.hid (HG2.out.on bw3)
    have HS3 := Lib.hid HG3.out.h
    refine ⟨_, rfl, HS3.out, ?_⟩
    refine g_pure (some 65) (.tuple #[.string less, .bool sb]) (by kernel_rfl) (by kernel_rfl) (fun _ => (by kernel_rfl)) ?_
    refine g_pure (some 73) (.string less) (by kernel_rfl) (by kernel_rfl) (fun _ => (by kernel_rfl)) ?_
    refine g_pure (some 74) (.bool sb) (by kernel_rfl) (by kernel_rfl) (fun _ => (by kernel_rfl)) ?_
    refine g_pure (some 12) (.string less) (by kernel_rfl) (by kernel_rfl) (fun _ => (by kernel_rfl)) ?_
    refine g_pure (some 13) (.bool sb) (by kernel_rfl) (by kernel_rfl) (fun _ => (by kernel_rfl)) ?_
    refine g_norm { tmps := List.toArray (List.append [(.slice a0 len0 cap0), undef, (.bool false), (.pointer (some ⟨gx, 0, none⟩)), (.pointer (some ⟨gy, 0, none⟩)), (.string p), (.int .i64 id), (.pointer (some ⟨gk, 0, none⟩)), (.bool true), (.pointer (some ⟨g9, 0, none⟩)), (.pointer (some ⟨g10, 0, none⟩)), (.pointer (some ⟨g11, 0, none⟩)), (.string less), (.bool sb), (.slice a0 len0 cap0), (.bool false), (.tuple #[.agg (aggT x), .agg (aggT y), .string p]), (.slice a0 len0 cap0), (.tuple #[.agg (aggT x), .agg (aggT y), .string p]), (.agg (aggT x)), (.agg (aggT y)), (.string p), (.slice a0 len0 cap0), (.int .i64 (len0 : Int)), (.int .i64 ((len0 : Int) % 2)), (.int .i64 id), (.tuple #[.agg C, .bool true]), (.int .i64 id), (.tuple #[.agg C, .bool true]), (.agg C), (.bool true), (.pointer (some ⟨gx, 0, none⟩)), (.string x.1), (.pointer (some ⟨gk, 1, none⟩)), (.string q), (.string ra), (.pointer (some ⟨gy, 1, none⟩)), (.string y.2), (.pointer (some ⟨gk, 1, none⟩)), (.string q)] (List.append [(.string rb), (.agg (aggT z)), (.agg (aggT z)), (.pointer (some ⟨gk, 1, none⟩)), (.string q), (.pointer (some ⟨gk, 1, none⟩)), (.string q), (.agg (aggT tt)), (.agg (aggT z)), (.agg (aggT tt)), (.pointer (some ⟨gk, 1, none⟩)), (.string q), (.agg (aggT (nx, ⟨#[]⟩))), (.agg (aggT z)), (.agg (aggT noP)), (.bool false), undef, undef, undef, undef, undef, undef, undef, undef, undef, (.tuple #[.string less, .bool sb]), (.pointer (some ⟨gk, 1, none⟩)), (.string q), (.pointer (some ⟨gk, 1, none⟩)), (.string q), (.string mg), (.string ⟨#[1]⟩), (.tuple #[.string less, .bool sb]), (.string less), (.bool sb), undef, undef, undef, undef, undef] [undef, undef, undef, undef, undef, undef, undef, undef, undef, undef, undef, undef, undef, undef, undef, undef, undef, undef, undef, undef, undef, undef, undef, undef, undef])), defers := [] } (by kernel_rfl) ?_
    refine g_done ?_
    refine (by assumption : ∀ (a : Act) (w_1 : World), Code.wp _ _ _ a w_1 → _) _ _ ?_
    go_upto_region 12 with (fail)
    have HG4 := Lib.hid HG3.out.drew
    have HS4 := Lib.hid HG4.out.h
    refine wp_region_seq (S := fun w' => Held w' ((g11, aggT (nx, ⟨#[]⟩), 25) :: (g10, aggT tt, 25) :: (g9, aggT z, 25) :: [(gk, C, 35), (gx, aggT x, 25), (gy, aggT y, 25)])) [⟨0, some 75, [5]⟩, ⟨1, some 76, [75]⟩, ⟨2, some 77, [76]⟩, ⟨4, some 78, [77]⟩, ⟨8, some 79, [10, 78]⟩, ⟨8, some 80, [9, 78]⟩, ⟨8, some 81, [7, 78]⟩, ⟨72, some 82, [81, 78]⟩, ⟨168, some 83, [80, 82, 78]⟩, ⟨280, some 84, [79, 83, 78]⟩, ⟨520, some 85, [78, 84]⟩, ⟨1280, some 86, [85]⟩, ⟨2048, some 87, [11, 86]⟩, ⟨2048, some 88, [9, 86]⟩, ⟨2048, some 89, [7, 86]⟩, ⟨18432, some 90, [89, 86]⟩, ⟨43008, some 91, [88, 90, 86]⟩, ⟨67584, some 92, [91, 86]⟩, ⟨137216, some 93, [87, 92, 86]⟩, ⟨264192, some 94, [86, 93]⟩, ⟨589824, some 95, [94]⟩, ⟨1048576, some 96, [9, 95]⟩, ⟨1048576, some 97, [12, 95]⟩, ⟨1048576, some 98, [7, 95]⟩, ⟨9437184, some 99, [98, 95]⟩, ⟨24117248, some 100, [96, 97, 99, 95]⟩, ⟨34603008, some 101, [95]⟩, ⟨68157440, some 102, [101, 95]⟩, ⟨168820736, some 103, [100, 102, 95]⟩, ⟨269484032, some 104, [95, 103]⟩, ⟨1073741823, some 2, [104]⟩] [(true, 0), (true, 1), (true, 2), (true, 3), (true, 4), (true, 5), (true, 6), (true, 7), (false, 8), (true, 9), (true, 10), (true, 11), (true, 12), (true, 13), (true, 14), (true, 15), (false, 16), (true, 17), (true, 18), (true, 19), (true, 20), (true, 21), (true, 22), (true, 23), (true, 24), (false, 25), (false, 26), (true, 27), (true, 28), (true, 29), (true, 30)] (by kernel_rfl) (by kernel_rfl) (by kernel_rfl) (by kernel_rfl) (by kernel_rfl) (by kernel_rfl) (fun d _ _ _ _ h => by cases d <;> exact h) HS4.out ?_
    change seqH _ _ _ _ _ _ _ w3.drew
    generalize w3.drew = w4 at *
    refine SQ.out ?_
    refine g_pure (some 75) (.string p) (by kernel_rfl) (by kernel_rfl) (fun _ => (by kernel_rfl)) ?_
    refine g_pure (some 76) (.int .i64 (p.size : Int)) (by kernel_rfl) (by kernel_rfl) (fun _ => (by kernel_rfl)) ?_
    refine g_take (some 77) (.bool true) (by kernel_rfl) (yields_few (by kernel_rfl) (.tmp 76) (by kernel_rfl) p (by kernel_rfl) HPs.out) ?_
    refine g_pure (some 78) (.bool true) (by kernel_rfl) (by kernel_rfl) (fun _ => (by kernel_rfl)) ?_
    refine g_held (some 79) (.agg (aggT tt)) (by kernel_rfl) (wanted_by (g := 3) (b := true) (d := 78) (by kernel_rfl) (by kernel_rfl) (by kernel_rfl) (by kernel_rfl)) (held_load 25 (.tmp 10) (by kernel_rfl) _ _ (by kernel_rfl) F10.out) ?_
    refine g_held (some 80) (.agg (aggT z)) (by kernel_rfl) (wanted_by (g := 3) (b := true) (d := 78) (by kernel_rfl) (by kernel_rfl) (by kernel_rfl) (by kernel_rfl)) (held_load 25 (.tmp 9) (by kernel_rfl) _ _ (by kernel_rfl) F9.out) ?_
    refine g_pure (some 81) (.pointer (some ⟨gk, 1, none⟩)) (by kernel_rfl) (wanted_by (g := 3) (b := true) (d := 78) (by kernel_rfl) (by kernel_rfl) (by kernel_rfl) (by kernel_rfl)) (fun _ => (by kernel_rfl)) ?_
    refine g_held (some 82) (.string q) (by kernel_rfl) (wanted_by (g := 3) (b := true) (d := 78) (by kernel_rfl) (by kernel_rfl) (by kernel_rfl) (by kernel_rfl)) (held_load 9 (.tmp 81) (by kernel_rfl) _ _ (by kernel_rfl) Fq.out) ?_
    refine g_norm { tmps := List.toArray (List.append [(.slice a0 len0 cap0), undef, (.bool false), (.pointer (some ⟨gx, 0, none⟩)), (.pointer (some ⟨gy, 0, none⟩)), (.string p), (.int .i64 id), (.pointer (some ⟨gk, 0, none⟩)), (.bool true), (.pointer (some ⟨g9, 0, none⟩)), (.pointer (some ⟨g10, 0, none⟩)), (.pointer (some ⟨g11, 0, none⟩)), (.string less), (.bool sb), (.slice a0 len0 cap0), (.bool false), (.tuple #[.agg (aggT x), .agg (aggT y), .string p]), (.slice a0 len0 cap0), (.tuple #[.agg (aggT x), .agg (aggT y), .string p]), (.agg (aggT x)), (.agg (aggT y)), (.string p), (.slice a0 len0 cap0), (.int .i64 (len0 : Int)), (.int .i64 ((len0 : Int) % 2)), (.int .i64 id), (.tuple #[.agg C, .bool true]), (.int .i64 id), (.tuple #[.agg C, .bool true]), (.agg C), (.bool true), (.pointer (some ⟨gx, 0, none⟩)), (.string x.1), (.pointer (some ⟨gk, 1, none⟩)), (.string q), (.string ra), (.pointer (some ⟨gy, 1, none⟩)), (.string y.2), (.pointer (some ⟨gk, 1, none⟩)), (.string q)] (List.append [(.string rb), (.agg (aggT z)), (.agg (aggT z)), (.pointer (some ⟨gk, 1, none⟩)), (.string q), (.pointer (some ⟨gk, 1, none⟩)), (.string q), (.agg (aggT tt)), (.agg (aggT z)), (.agg (aggT tt)), (.pointer (some ⟨gk, 1, none⟩)), (.string q), (.agg (aggT (nx, ⟨#[]⟩))), (.agg (aggT z)), (.agg (aggT noP)), (.bool false), undef, undef, undef, undef, undef, undef, undef, undef, undef, (.tuple #[.string less, .bool sb]), (.pointer (some ⟨gk, 1, none⟩)), (.string q), (.pointer (some ⟨gk, 1, none⟩)), (.string q), (.string mg), (.string ⟨#[1]⟩), (.tuple #[.string less, .bool sb]), (.string less), (.bool sb), (.string p), (.int .i64 (p.size : Int)), (.bool true), (.bool true), (.agg (aggT tt))] [(.agg (aggT z)), (.pointer (some ⟨gk, 1, none⟩)), (.string q), undef, undef, undef, undef, undef, undef, undef, undef, undef, undef, undef, undef, undef, undef, undef, undef, undef, undef, undef, undef, undef, undef])), defers := [] } (by kernel_rfl) ?_
    refine g_fn (some 83) [.agg (aggT z), .string q] Try.func25 (by kernel_rfl) (by kernel_rfl) (by kernel_rfl) (by kernel_rfl) (wanted_by (g := 3) (b := true) (d := 78) (by kernel_rfl) (by kernel_rfl) (by kernel_rfl) (by kernel_rfl)) (by kernel_rfl) ?_
    refine ((CO.out _)).mono ?_
    rintro e w5 ⟨rfl, bw5⟩
    have HG5 := Lib.hid (HG4.out.on bw5)
    have HS5 := Lib.hid HG5.out.h
    refine ⟨_, rfl, HS5.out, ?_⟩
    refine g_take (some 84) (.bool true) (by kernel_rfl) (yields_eqP (wanted_by (g := 3) (b := true) (d := 78) (by kernel_rfl) (by kernel_rfl) (by kernel_rfl) (by kernel_rfl)) (.tmp 79) (.tmp 83) (by kernel_rfl) tt (by kernel_rfl) (by kernel_rfl)) ?_
    refine g_pure (some 85) (.bool true) (by kernel_rfl) (by kernel_rfl) (fun _ => (by kernel_rfl)) ?_
    refine g_pure (some 86) (.bool true) (by kernel_rfl) (by kernel_rfl) (fun _ => (by kernel_rfl)) ?_
    refine g_held (some 87) (.agg (aggT (nx, ⟨#[]⟩))) (by kernel_rfl) (wanted_by (g := 11) (b := true) (d := 86) (by kernel_rfl) (by kernel_rfl) (by kernel_rfl) (by kernel_rfl)) (held_load 25 (.tmp 11) (by kernel_rfl) _ _ (by kernel_rfl) F11.out) ?_
    refine g_held (some 88) (.agg (aggT z)) (by kernel_rfl) (wanted_by (g := 11) (b := true) (d := 86) (by kernel_rfl) (by kernel_rfl) (by kernel_rfl) (by kernel_rfl)) (held_load 25 (.tmp 9) (by kernel_rfl) _ _ (by kernel_rfl) F9.out) ?_
    refine g_pure (some 89) (.pointer (some ⟨gk, 1, none⟩)) (by kernel_rfl) (wanted_by (g := 11) (b := true) (d := 86) (by kernel_rfl) (by kernel_rfl) (by kernel_rfl) (by kernel_rfl)) (fun _ => (by kernel_rfl)) ?_
    refine g_held (some 90) (.string q) (by kernel_rfl) (wanted_by (g := 11) (b := true) (d := 86) (by kernel_rfl) (by kernel_rfl) (by kernel_rfl) (by kernel_rfl)) (held_load 9 (.tmp 89) (by kernel_rfl) _ _ (by kernel_rfl) Fq.out) ?_
    refine g_norm { tmps := List.toArray (List.append [(.slice a0 len0 cap0), undef, (.bool false), (.pointer (some ⟨gx, 0, none⟩)), (.pointer (some ⟨gy, 0, none⟩)), (.string p), (.int .i64 id), (.pointer (some ⟨gk, 0, none⟩)), (.bool true), (.pointer (some ⟨g9, 0, none⟩)), (.pointer (some ⟨g10, 0, none⟩)), (.pointer (some ⟨g11, 0, none⟩)), (.string less), (.bool sb), (.slice a0 len0 cap0), (.bool false), (.tuple #[.agg (aggT x), .agg (aggT y), .string p]), (.slice a0 len0 cap0), (.tuple #[.agg (aggT x), .agg (aggT y), .string p]), (.agg (aggT x)), (.agg (aggT y)), (.string p), (.slice a0 len0 cap0), (.int .i64 (len0 : Int)), (.int .i64 ((len0 : Int) % 2)), (.int .i64 id), (.tuple #[.agg C, .bool true]), (.int .i64 id), (.tuple #[.agg C, .bool true]), (.agg C), (.bool true), (.pointer (some ⟨gx, 0, none⟩)), (.string x.1), (.pointer (some ⟨gk, 1, none⟩)), (.string q), (.string ra), (.pointer (some ⟨gy, 1, none⟩)), (.string y.2), (.pointer (some ⟨gk, 1, none⟩)), (.string q)] (List.append [(.string rb), (.agg (aggT z)), (.agg (aggT z)), (.pointer (some ⟨gk, 1, none⟩)), (.string q), (.pointer (some ⟨gk, 1, none⟩)), (.string q), (.agg (aggT tt)), (.agg (aggT z)), (.agg (aggT tt)), (.pointer (some ⟨gk, 1, none⟩)), (.string q), (.agg (aggT (nx, ⟨#[]⟩))), (.agg (aggT z)), (.agg (aggT noP)), (.bool false), undef, undef, undef, undef, undef, undef, undef, undef, undef, (.tuple #[.string less, .bool sb]), (.pointer (some ⟨gk, 1, none⟩)), (.string q), (.pointer (some ⟨gk, 1, none⟩)), (.string q), (.string mg), (.string ⟨#[1]⟩), (.tuple #[.string less, .bool sb]), (.string less), (.bool sb), (.string p), (.int .i64 (p.size : Int)), (.bool true), (.bool true), (.agg (aggT tt))] [(.agg (aggT z)), (.pointer (some ⟨gk, 1, none⟩)), (.string q), (.agg (aggT tt)), (.bool true), (.bool true), (.bool true), (.agg (aggT (nx, ⟨#[]⟩))), (.agg (aggT z)), (.pointer (some ⟨gk, 1, none⟩)), (.string q), undef, undef, undef, undef, undef, undef, undef, undef, undef, undef, undef, undef, undef, undef])), defers := [] } (by kernel_rfl) ?_
    refine g_fn (some 91) [.agg (aggT z), .string q] Try.func22 (by kernel_rfl) (by kernel_rfl) (by kernel_rfl) (by kernel_rfl) (wanted_by (g := 11) (b := true) (d := 86) (by kernel_rfl) (by kernel_rfl) (by kernel_rfl) (by kernel_rfl)) (by kernel_rfl) ?_
    refine ((CN.out _)).mono ?_
    rintro e w6 ⟨rfl, bw6⟩
    have HG6 := Lib.hid (HG5.out.on bw6)
    have HS6 := Lib.hid HG6.out.h
    refine ⟨_, rfl, HS6.out, ?_⟩
    refine g_pure (some 92) (.agg (aggT (nx, ⟨#[]⟩))) (by kernel_rfl) (wanted_by (g := 11) (b := true) (d := 86) (by kernel_rfl) (by kernel_rfl) (by kernel_rfl) (by kernel_rfl)) (held_build 25 #[(0, .tmp 91)] (by kernel_rfl) _ (by kernel_rfl) _ (built_pairA nx)) ?_
    refine g_take (some 93) (.bool true) (by kernel_rfl) (yields_eqP (wanted_by (g := 11) (b := true) (d := 86) (by kernel_rfl) (by kernel_rfl) (by kernel_rfl) (by kernel_rfl)) (.tmp 87) (.tmp 92) (by kernel_rfl) (nx, ⟨#[]⟩) (by kernel_rfl) (by kernel_rfl)) ?_
    refine g_pure (some 94) (.bool true) (by kernel_rfl) (by kernel_rfl) (fun _ => (by kernel_rfl)) ?_
    refine g_pure (some 95) (.bool true) (by kernel_rfl) (by kernel_rfl) (fun _ => (by kernel_rfl)) ?_
    refine g_held (some 96) (.agg (aggT z)) (by kernel_rfl) (wanted_by (g := 20) (b := true) (d := 95) (by kernel_rfl) (by kernel_rfl) (by kernel_rfl) (by kernel_rfl)) (held_load 25 (.tmp 9) (by kernel_rfl) _ _ (by kernel_rfl) F9.out) ?_
    refine g_pure (some 97) (.string less) (by kernel_rfl) (wanted_by (g := 20) (b := true) (d := 95) (by kernel_rfl) (by kernel_rfl) (by kernel_rfl) (by kernel_rfl)) (fun _ => (by kernel_rfl)) ?_
    refine g_pure (some 98) (.pointer (some ⟨gk, 1, none⟩)) (by kernel_rfl) (wanted_by (g := 20) (b := true) (d := 95) (by kernel_rfl) (by kernel_rfl) (by kernel_rfl) (by kernel_rfl)) (fun _ => (by kernel_rfl)) ?_
    refine g_held (some 99) (.string q) (by kernel_rfl) (wanted_by (g := 20) (b := true) (d := 95) (by kernel_rfl) (by kernel_rfl) (by kernel_rfl) (by kernel_rfl)) (held_load 9 (.tmp 98) (by kernel_rfl) _ _ (by kernel_rfl) Fq.out) ?_
    refine g_norm { tmps := List.toArray (List.append [(.slice a0 len0 cap0), undef, (.bool false), (.pointer (some ⟨gx, 0, none⟩)), (.pointer (some ⟨gy, 0, none⟩)), (.string p), (.int .i64 id), (.pointer (some ⟨gk, 0, none⟩)), (.bool true), (.pointer (some ⟨g9, 0, none⟩)), (.pointer (some ⟨g10, 0, none⟩)), (.pointer (some ⟨g11, 0, none⟩)), (.string less), (.bool sb), (.slice a0 len0 cap0), (.bool false), (.tuple #[.agg (aggT x), .agg (aggT y), .string p]), (.slice a0 len0 cap0), (.tuple #[.agg (aggT x), .agg (aggT y), .string p]), (.agg (aggT x)), (.agg (aggT y)), (.string p), (.slice a0 len0 cap0), (.int .i64 (len0 : Int)), (.int .i64 ((len0 : Int) % 2)), (.int .i64 id), (.tuple #[.agg C, .bool true]), (.int .i64 id), (.tuple #[.agg C, .bool true]), (.agg C), (.bool true), (.pointer (some ⟨gx, 0, none⟩)), (.string x.1), (.pointer (some ⟨gk, 1, none⟩)), (.string q), (.string ra), (.pointer (some ⟨gy, 1, none⟩)), (.string y.2), (.pointer (some ⟨gk, 1, none⟩)), (.string q)] (List.append [(.string rb), (.agg (aggT z)), (.agg (aggT z)), (.pointer (some ⟨gk, 1, none⟩)), (.string q), (.pointer (some ⟨gk, 1, none⟩)), (.string q), (.agg (aggT tt)), (.agg (aggT z)), (.agg (aggT tt)), (.pointer (some ⟨gk, 1, none⟩)), (.string q), (.agg (aggT (nx, ⟨#[]⟩))), (.agg (aggT z)), (.agg (aggT noP)), (.bool false), undef, undef, undef, undef, undef, undef, undef, undef, undef, (.tuple #[.string less, .bool sb]), (.pointer (some ⟨gk, 1, none⟩)), (.string q), (.pointer (some ⟨gk, 1, none⟩)), (.string q), (.string mg), (.string ⟨#[1]⟩), (.tuple #[.string less, .bool sb]), (.string less), (.bool sb), (.string p), (.int .i64 (p.size : Int)), (.bool true), (.bool true), (.agg (aggT tt))] [(.agg (aggT z)), (.pointer (some ⟨gk, 1, none⟩)), (.string q), (.agg (aggT tt)), (.bool true), (.bool true), (.bool true), (.agg (aggT (nx, ⟨#[]⟩))), (.agg (aggT z)), (.pointer (some ⟨gk, 1, none⟩)), (.string q), (.string nx), (.agg (aggT (nx, ⟨#[]⟩))), (.bool true), (.bool true), (.bool true), (.agg (aggT z)), (.string less), (.pointer (some ⟨gk, 1, none⟩)), (.string q), undef, undef, undef, undef, undef])), defers := [] } (by kernel_rfl) ?_
    refine g_fn (some 100) [.agg (aggT z), .string less, .string q] Try.func28 (by kernel_rfl) (by kernel_rfl) (by kernel_rfl) (by kernel_rfl) (wanted_by (g := 20) (b := true) (d := 95) (by kernel_rfl) (by kernel_rfl) (by kernel_rfl) (by kernel_rfl)) (by kernel_rfl) ?_
    refine ((CF2.out _)).mono ?_
    rintro e w7 ⟨rfl, bw7⟩
    have HG7 := Lib.hid (HG6.out.on bw7)
    have HS7 := Lib.hid HG7.out.h
    refine ⟨_, rfl, HS7.out, ?_⟩
    refine g_norm { tmps := List.toArray (List.append [(.slice a0 len0 cap0), undef, (.bool false), (.pointer (some ⟨gx, 0, none⟩)), (.pointer (some ⟨gy, 0, none⟩)), (.string p), (.int .i64 id), (.pointer (some ⟨gk, 0, none⟩)), (.bool true), (.pointer (some ⟨g9, 0, none⟩)), (.pointer (some ⟨g10, 0, none⟩)), (.pointer (some ⟨g11, 0, none⟩)), (.string less), (.bool sb), (.slice a0 len0 cap0), (.bool false), (.tuple #[.agg (aggT x), .agg (aggT y), .string p]), (.slice a0 len0 cap0), (.tuple #[.agg (aggT x), .agg (aggT y), .string p]), (.agg (aggT x)), (.agg (aggT y)), (.string p), (.slice a0 len0 cap0), (.int .i64 (len0 : Int)), (.int .i64 ((len0 : Int) % 2)), (.int .i64 id), (.tuple #[.agg C, .bool true]), (.int .i64 id), (.tuple #[.agg C, .bool true]), (.agg C), (.bool true), (.pointer (some ⟨gx, 0, none⟩)), (.string x.1), (.pointer (some ⟨gk, 1, none⟩)), (.string q), (.string ra), (.pointer (some ⟨gy, 1, none⟩)), (.string y.2), (.pointer (some ⟨gk, 1, none⟩)), (.string q)] (List.append [(.string rb), (.agg (aggT z)), (.agg (aggT z)), (.pointer (some ⟨gk, 1, none⟩)), (.string q), (.pointer (some ⟨gk, 1, none⟩)), (.string q), (.agg (aggT tt)), (.agg (aggT z)), (.agg (aggT tt)), (.pointer (some ⟨gk, 1, none⟩)), (.string q), (.agg (aggT (nx, ⟨#[]⟩))), (.agg (aggT z)), (.agg (aggT noP)), (.bool false), undef, undef, undef, undef, undef, undef, undef, undef, undef, (.tuple #[.string less, .bool sb]), (.pointer (some ⟨gk, 1, none⟩)), (.string q), (.pointer (some ⟨gk, 1, none⟩)), (.string q), (.string mg), (.string ⟨#[1]⟩), (.tuple #[.string less, .bool sb]), (.string less), (.bool sb), (.string p), (.int .i64 (p.size : Int)), (.bool true), (.bool true), (.agg (aggT tt))] [(.agg (aggT z)), (.pointer (some ⟨gk, 1, none⟩)), (.string q), (.agg (aggT tt)), (.bool true), (.bool true), (.bool true), (.agg (aggT (nx, ⟨#[]⟩))), (.agg (aggT z)), (.pointer (some ⟨gk, 1, none⟩)), (.string q), (.string nx), (.agg (aggT (nx, ⟨#[]⟩))), (.bool true), (.bool true), (.bool true), (.agg (aggT z)), (.string less), (.pointer (some ⟨gk, 1, none⟩)), (.string q), (.agg (aggT (⟨#[1]⟩, ⟨#[]⟩))), undef, undef, undef, undef])), defers := [] } (by kernel_rfl) ?_
    refine g_fn (some 101) [] Try.func19 (by kernel_rfl) (by kernel_rfl) (by kernel_rfl) (by kernel_rfl) (wanted_by (g := 20) (b := true) (d := 95) (by kernel_rfl) (by kernel_rfl) (by kernel_rfl) (by kernel_rfl)) (by kernel_rfl) ?_
    refine ((HOne.out _)).mono ?_
    rintro e w8 ⟨rfl, ew8⟩
    have bw8 : Below w7.heap.size w7 w8 := ew8 ▸ Below.refl _ _
    clear ew8
    have HG8 := Lib.hid (HG7.out.on bw8)
    have HS8 := Lib.hid HG8.out.h
    refine ⟨_, rfl, HS8.out, ?_⟩
    refine g_pure (some 102) (.agg (aggT (⟨#[1]⟩, ⟨#[]⟩))) (by kernel_rfl) (wanted_by (g := 20) (b := true) (d := 95) (by kernel_rfl) (by kernel_rfl) (by kernel_rfl) (by kernel_rfl)) (held_build 25 #[(0, .tmp 101)] (by kernel_rfl) _ (by kernel_rfl) _ (built_pairA ⟨#[1]⟩)) ?_
    refine g_take (some 103) (.bool true) (by kernel_rfl) (yields_eqP (wanted_by (g := 20) (b := true) (d := 95) (by kernel_rfl) (by kernel_rfl) (by kernel_rfl) (by kernel_rfl)) (.tmp 100) (.tmp 102) (by kernel_rfl) (⟨#[1]⟩, ⟨#[]⟩) (by kernel_rfl) (by kernel_rfl)) ?_
    refine g_pure (some 104) (.bool true) (by kernel_rfl) (by kernel_rfl) (fun _ => (by kernel_rfl)) ?_
    refine g_pure (some 2) (.bool true) (by kernel_rfl) (by kernel_rfl) (fun _ => (by kernel_rfl)) ?_
    refine g_done ?_
    refine (by assumption : ∀ (a : Act) (w_1 : World), Code.wp _ Code.ret _ a w_1 → _) _ _ ?_
    refine wp_ret ?_
    exact ret_bool rfl (by kernel_rfl) (by kernel_rfl) ⟨rfl, HG8.out.b⟩
end Go.Proofs.Ytflfeepgkcamnaa
