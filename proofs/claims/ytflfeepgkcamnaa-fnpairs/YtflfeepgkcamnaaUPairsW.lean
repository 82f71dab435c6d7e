/-
  The walk of laws.FnPairs.
-/
import Derived.Test.YtflfeepgkcamnaaSeqP
import Derived.Deep.DeepCutAuto
namespace Go.Proofs.Ytflfeepgkcamnaa
open Go.RowKit

theorem mul_seven : mulPG (⟨#[]⟩, ⟨#[1]⟩) (⟨#[]⟩, ⟨#[1]⟩) ⟨#[7]⟩ = (⟨#[6]⟩, ⟨#[]⟩) := by decide +kernel
set_option maxRecDepth 8000 in
set_option maxHeartbeats 8000000 in
theorem pairs_walk (a0 : Option Addr) (len0 cap0 : Nat) (z0 : List Int) (w : World) (w0 : IsRow .u8 w a0 len0 cap0 z0) :
    Calls Try.prog 3 #[.slice a0 len0 cap0] w (Yes w) := by
  have hlen : len0 ≤ maxLen := by rcases w0 with ⟨_, rfl, _⟩ | ⟨_, _, h1, h2, _⟩ <;> unfold maxLen at * <;> omega
  have HBig := Lib.hid (big_g a0 len0 cap0 w hlen)
  by_cases h1 : 1048576 < len0
  · have hd : decide ((1048576 : Int) < (len0 : Int)) = true := by simp; omega
    clear w0 hlen
    go_enter Try.func3, Try.ntmps3
    go_wp2_with fail
    refine HBig.out.mono ?_
    rintro e w' ⟨rfl, rfl⟩
    go_wp2
    go_ret
    exact ⟨rfl, Below.refl _ _⟩
  have hd : decide ((1048576 : Int) < (len0 : Int)) = false := by simp; omega
  have HD := Lib.hid (drawMulPair_c a0 len0 cap0 w (w0.draw (by omega)))
  clear w0 hlen h1
  go_enter Try.func3, Try.ntmps3
  go_wp2_with fail
  refine HBig.out.mono ?_
  rintro e w' ⟨rfl, rfl⟩
  go_wp2_with fail
  refine HD.out.mono ?_
  rintro e w1 ⟨x, y, p, rfl, _, _, _, b1⟩
  have HB1 := Lib.hid b1
  clear HBig HD hd b1
  have HX2 := Lib.hid (heap_alloc2_old w1 (.cells #[.string ⟨#[]⟩, .string ⟨#[]⟩] 25) (.cells #[.string ⟨#[]⟩, .string ⟨#[]⟩] 25))
  have HO2 := Lib.hid (heap_alloc2_new w1 (.cells #[.string ⟨#[]⟩, .string ⟨#[]⟩] 25) (.cells #[.string ⟨#[]⟩, .string ⟨#[]⟩] 25))
  have HL := Lib.hid (two_laid (w := w1) (C' := aggT x) (D' := aggT y) HX2.out HO2.out (((Below.refl w1.heap.size w1).alloc (Nat.le_refl _) (.cells #[.string ⟨#[]⟩, .string ⟨#[]⟩] 25)).alloc (by simp) (.cells #[.string ⟨#[]⟩, .string ⟨#[]⟩] 25)) (Nat.le_refl _))
  have HH := Lib.hid (((Held.none _).cons HL.out.2.2.1).cons HL.out.2.1)
  have HB := Lib.hid (bt HB1.out HL.out.2.2.2)
  have HOk := Lib.hid (pairOk_any x p)
  have HOy := Lib.hid (pairOk_any y p)
  have H7 := Lib.hid (mulPair_i (⟨#[]⟩, ⟨#[1]⟩) (⟨#[]⟩, ⟨#[1]⟩) ⟨#[7]⟩)
  rw [mul_seven] at H7
  have HOne := Lib.hid one_fn
  have HX3 := Lib.hid HX2.out
  have HY3 := Lib.hid HL.out.1
  have HX4 := Lib.hid HL.out.2.1
  have HY4 := Lib.hid HL.out.2.2.1
  clear HX2 HO2 HB1 HL
  by_cases hxy : twoPB x y p = false
  · have HA := Lib.hid (addPair_i x y p)
    have HM := Lib.hid (mulPair_i x y p)
    rw [(pair_no hxy).1] at HA
    rw [(pair_no hxy).2] at HM
    cases hx : pairB x p with
    | false =>
      rw [hx] at HOk
      clear hx hxy
      go_wp2_with (first | refine store_p rfl (.tmp 3) (.tmp 15) rfl w1.heap.size _ x rfl rfl HX3.out rfl ?_ | refine store_p rfl (.tmp 4) (.tmp 16) rfl (w1.heap.size + 1) _ y rfl rfl HY3.out rfl ?_ | refine load_p rfl (.tmp 3) rfl w1.heap.size x rfl HX4.out ?_)
      generalize (((w1.alloc (.cells #[.string ⟨#[]⟩, .string ⟨#[]⟩] 25)).alloc (.cells #[.string ⟨#[]⟩, .string ⟨#[]⟩] 25)).setRow w1.heap.size (aggT x)).setRow (w1.heap.size + 1) (aggT y) = w2 at *
      clear HX3 HY3 HX4 HY4
      generalize w1.heap.size + 1 = gy at *
      generalize w1.heap.size = gx at *
      refine (HOk.out _).mono ?_
      rintro e w3 ⟨rfl, b3⟩
      have HG0 := Lib.hid (Stand.on ⟨HH.out, HB.out⟩ b3)
      clear b3 HH HB
      go_upto_region 5 with (fail)
      clear HOk HOy
      have HS0 := Lib.hid HG0.out.h
      have Fx := Lib.hid (show ∀ w', Held w' [(gx, aggT x, 25), (gy, aggT y, 25)] → (Instr.loadAt 25 (.pointer (some ⟨gx, 0, none⟩))).run Try.prog w' = .ok (.agg (aggT x)) w' from fun w' hw => pair_load (hw _ (.head _)))
      have Fy := Lib.hid (show ∀ w', Held w' [(gx, aggT x, 25), (gy, aggT y, 25)] → (Instr.loadAt 25 (.pointer (some ⟨gy, 0, none⟩))).run Try.prog w' = .ok (.agg (aggT y)) w' from fun w' hw => pair_load (hw _ (.tail _ (.head _))))
      refine wp_region_line (S := fun w' => Held w' [(gx, aggT x, 25), (gy, aggT y, 25)]) [(true, 0), (true, 1), (true, 2), (false, 3), (true, 4), (true, 5), (true, 6), (true, 7), (true, 8), (true, 9), (false, 10), (true, 11), (true, 12), (true, 13), (true, 14), (false, 15), (true, 16), (false, 17), (true, 18), (false, 19), (true, 20), (true, 21), (true, 22), (true, 23)] (by kernel_rfl) (by kernel_rfl) HS0.out ?_
      refine SQ.out ?_
      refine g_held (some 28) (.agg (aggT x)) (by kernel_rfl) (by kernel_rfl) (held_load 25 (.tmp 3) (by kernel_rfl) _ _ (by kernel_rfl) Fx.out) ?_
      refine g_held (some 29) (.agg (aggT y)) (by kernel_rfl) (by kernel_rfl) (held_load 25 (.tmp 4) (by kernel_rfl) _ _ (by kernel_rfl) Fy.out) ?_
      refine g_pure (some 30) (.string p) (by kernel_rfl) (by kernel_rfl) (fun _ => (by kernel_rfl)) ?_
      refine g_norm { tmps := List.toArray (List.append [(.slice a0 len0 cap0), undef, (.bool false), (.pointer (some ⟨gx, 0, none⟩)), (.pointer (some ⟨gy, 0, none⟩)), (.string p), undef, undef, undef, undef, (.slice a0 len0 cap0), (.bool false), (.tuple #[.agg (aggT x), .agg (aggT y), .string p]), (.slice a0 len0 cap0), (.tuple #[.agg (aggT x), .agg (aggT y), .string p]), (.agg (aggT x)), (.agg (aggT y)), (.string p), (.agg (aggT x)), (.string p), (.bool false), (.bool true), (.bool true), undef, undef, undef, undef, (.bool true), (.agg (aggT x)), (.agg (aggT y)), (.string p), undef, undef, undef, undef, undef, undef, undef, undef, undef] (List.append [undef, undef, undef, undef, undef, undef, undef, undef, undef, undef, undef, undef, undef, undef, undef, undef, undef, undef, undef, undef, undef, undef, undef, undef, undef, undef, undef, undef, undef, undef, undef, undef, undef, undef, undef, undef, undef, undef, undef, undef] (List.append [undef, undef, undef, undef, undef, undef, undef, undef, undef, undef, undef, undef, undef, undef, undef, undef, undef, undef, undef, undef, undef, undef, undef, undef, undef, undef, undef, undef, undef, undef, undef, undef, undef, undef, undef, undef, undef, undef, undef, undef] [undef, undef, undef, undef, undef, undef, undef, undef, undef, undef, undef, undef, undef, undef, undef, undef, undef, undef, undef, undef]))), defers := [] } (by kernel_rfl) ?_
      refine g_fn (some 31) [.agg (aggT x), .agg (aggT y), .string p] Try.func17 (by kernel_rfl) (by kernel_rfl) (by kernel_rfl) (by kernel_rfl) (by kernel_rfl) (by kernel_rfl) ?_
      refine ((HA.out _)).mono ?_
      rintro e w1 ⟨rfl, bw1⟩
      have HG1 := Lib.hid (HG0.out.on bw1)
      have HS1 := Lib.hid HG1.out.h
      refine ⟨_, rfl, HS1.out, ?_⟩
      refine g_pure (some 32) (.agg (aggT noP)) (by kernel_rfl) (by kernel_rfl) (held_build 25 #[] (by kernel_rfl) _ (by kernel_rfl) _ built_pair0) ?_
      refine g_take (some 33) (.bool true) (by kernel_rfl) (yields_eqP (by kernel_rfl) (.tmp 31) (.tmp 32) (by kernel_rfl) noP (by kernel_rfl) (by kernel_rfl)) ?_
      refine g_pure (some 34) (.bool true) (by kernel_rfl) (by kernel_rfl) (fun _ => (by kernel_rfl)) ?_
      refine g_held (some 35) (.agg (aggT x)) (by kernel_rfl) (wanted_by (g := 6) (b := true) (d := 34) (by kernel_rfl) (by kernel_rfl) (by kernel_rfl) (by kernel_rfl)) (held_load 25 (.tmp 3) (by kernel_rfl) _ _ (by kernel_rfl) Fx.out) ?_
      refine g_held (some 36) (.agg (aggT y)) (by kernel_rfl) (wanted_by (g := 6) (b := true) (d := 34) (by kernel_rfl) (by kernel_rfl) (by kernel_rfl) (by kernel_rfl)) (held_load 25 (.tmp 4) (by kernel_rfl) _ _ (by kernel_rfl) Fy.out) ?_
      refine g_pure (some 37) (.string p) (by kernel_rfl) (wanted_by (g := 6) (b := true) (d := 34) (by kernel_rfl) (by kernel_rfl) (by kernel_rfl) (by kernel_rfl)) (fun _ => (by kernel_rfl)) ?_
      refine g_norm { tmps := List.toArray (List.append [(.slice a0 len0 cap0), undef, (.bool false), (.pointer (some ⟨gx, 0, none⟩)), (.pointer (some ⟨gy, 0, none⟩)), (.string p), undef, undef, undef, undef, (.slice a0 len0 cap0), (.bool false), (.tuple #[.agg (aggT x), .agg (aggT y), .string p]), (.slice a0 len0 cap0), (.tuple #[.agg (aggT x), .agg (aggT y), .string p]), (.agg (aggT x)), (.agg (aggT y)), (.string p), (.agg (aggT x)), (.string p), (.bool false), (.bool true), (.bool true), undef, undef, undef, undef, (.bool true), (.agg (aggT x)), (.agg (aggT y)), (.string p), (.agg (aggT noP)), (.agg (aggT noP)), (.bool true), (.bool true), (.agg (aggT x)), (.agg (aggT y)), (.string p), undef, undef] (List.append [undef, undef, undef, undef, undef, undef, undef, undef, undef, undef, undef, undef, undef, undef, undef, undef, undef, undef, undef, undef, undef, undef, undef, undef, undef, undef, undef, undef, undef, undef, undef, undef, undef, undef, undef, undef, undef, undef, undef, undef] (List.append [undef, undef, undef, undef, undef, undef, undef, undef, undef, undef, undef, undef, undef, undef, undef, undef, undef, undef, undef, undef, undef, undef, undef, undef, undef, undef, undef, undef, undef, undef, undef, undef, undef, undef, undef, undef, undef, undef, undef, undef] [undef, undef, undef, undef, undef, undef, undef, undef, undef, undef, undef, undef, undef, undef, undef, undef, undef, undef, undef, undef]))), defers := [] } (by kernel_rfl) ?_
      refine g_fn (some 38) [.agg (aggT x), .agg (aggT y), .string p] Try.func18 (by kernel_rfl) (by kernel_rfl) (by kernel_rfl) (by kernel_rfl) (wanted_by (g := 6) (b := true) (d := 34) (by kernel_rfl) (by kernel_rfl) (by kernel_rfl) (by kernel_rfl)) (by kernel_rfl) ?_
      refine ((HM.out _)).mono ?_
      rintro e w2 ⟨rfl, bw2⟩
      have HG2 := Lib.hid (HG1.out.on bw2)
      have HS2 := Lib.hid HG2.out.h
      refine ⟨_, rfl, HS2.out, ?_⟩
      refine g_pure (some 39) (.agg (aggT noP)) (by kernel_rfl) (wanted_by (g := 6) (b := true) (d := 34) (by kernel_rfl) (by kernel_rfl) (by kernel_rfl) (by kernel_rfl)) (held_build 25 #[] (by kernel_rfl) _ (by kernel_rfl) _ built_pair0) ?_
      refine g_take (some 40) (.bool true) (by kernel_rfl) (yields_eqP (wanted_by (g := 6) (b := true) (d := 34) (by kernel_rfl) (by kernel_rfl) (by kernel_rfl) (by kernel_rfl)) (.tmp 38) (.tmp 39) (by kernel_rfl) noP (by kernel_rfl) (by kernel_rfl)) ?_
      refine g_pure (some 41) (.bool true) (by kernel_rfl) (by kernel_rfl) (fun _ => (by kernel_rfl)) ?_
      refine g_pure (some 42) (.bool true) (by kernel_rfl) (by kernel_rfl) (fun _ => (by kernel_rfl)) ?_
      refine g_norm { tmps := List.toArray (List.append [(.slice a0 len0 cap0), undef, (.bool false), (.pointer (some ⟨gx, 0, none⟩)), (.pointer (some ⟨gy, 0, none⟩)), (.string p), undef, undef, undef, undef, (.slice a0 len0 cap0), (.bool false), (.tuple #[.agg (aggT x), .agg (aggT y), .string p]), (.slice a0 len0 cap0), (.tuple #[.agg (aggT x), .agg (aggT y), .string p]), (.agg (aggT x)), (.agg (aggT y)), (.string p), (.agg (aggT x)), (.string p), (.bool false), (.bool true), (.bool true), undef, undef, undef, undef, (.bool true), (.agg (aggT x)), (.agg (aggT y)), (.string p), (.agg (aggT noP)), (.agg (aggT noP)), (.bool true), (.bool true), (.agg (aggT x)), (.agg (aggT y)), (.string p), (.agg (aggT noP)), (.agg (aggT noP))] (List.append [(.bool true), (.bool true), (.bool true), undef, undef, undef, undef, undef, undef, undef, undef, undef, undef, undef, undef, undef, undef, undef, undef, undef, undef, undef, undef, undef, undef, undef, undef, undef, undef, undef, undef, undef, undef, undef, undef, undef, undef, undef, undef, undef] (List.append [undef, undef, undef, undef, undef, undef, undef, undef, undef, undef, undef, undef, undef, undef, undef, undef, undef, undef, undef, undef, undef, undef, undef, undef, undef, undef, undef, undef, undef, undef, undef, undef, undef, undef, undef, undef, undef, undef, undef, undef] [undef, undef, undef, undef, undef, undef, undef, undef, undef, undef, undef, undef, undef, undef, undef, undef, undef, undef, undef, undef]))), defers := [] } (by kernel_rfl) ?_
      refine g_fn (some 43) [] Try.func19 (by kernel_rfl) (by kernel_rfl) (by kernel_rfl) (by kernel_rfl) (wanted_by (g := 14) (b := true) (d := 42) (by kernel_rfl) (by kernel_rfl) (by kernel_rfl) (by kernel_rfl)) (by kernel_rfl) ?_
      refine ((HOne.out _)).mono ?_
      rintro e w3 ⟨rfl, ew3⟩
      have bw3 : Below w2.heap.size w2 w3 := ew3 ▸ Below.refl _ _
      clear ew3
      have HG3 := Lib.hid (HG2.out.on bw3)
      have HS3 := Lib.hid HG3.out.h
      refine ⟨_, rfl, HS3.out, ?_⟩
      refine g_pure (some 44) (.agg (aggT (⟨#[]⟩, ⟨#[1]⟩))) (by kernel_rfl) (wanted_by (g := 14) (b := true) (d := 42) (by kernel_rfl) (by kernel_rfl) (by kernel_rfl) (by kernel_rfl)) (held_build 25 #[(1, .tmp 43)] (by kernel_rfl) _ (by kernel_rfl) _ (built_pairB ⟨#[1]⟩)) ?_
      refine g_norm { tmps := List.toArray (List.append [(.slice a0 len0 cap0), undef, (.bool false), (.pointer (some ⟨gx, 0, none⟩)), (.pointer (some ⟨gy, 0, none⟩)), (.string p), undef, undef, undef, undef, (.slice a0 len0 cap0), (.bool false), (.tuple #[.agg (aggT x), .agg (aggT y), .string p]), (.slice a0 len0 cap0), (.tuple #[.agg (aggT x), .agg (aggT y), .string p]), (.agg (aggT x)), (.agg (aggT y)), (.string p), (.agg (aggT x)), (.string p), (.bool false), (.bool true), (.bool true), undef, undef, undef, undef, (.bool true), (.agg (aggT x)), (.agg (aggT y)), (.string p), (.agg (aggT noP)), (.agg (aggT noP)), (.bool true), (.bool true), (.agg (aggT x)), (.agg (aggT y)), (.string p), (.agg (aggT noP)), (.agg (aggT noP))] (List.append [(.bool true), (.bool true), (.bool true), (.string ⟨#[1]⟩), (.agg (aggT (⟨#[]⟩, ⟨#[1]⟩))), undef, undef, undef, undef, undef, undef, undef, undef, undef, undef, undef, undef, undef, undef, undef, undef, undef, undef, undef, undef, undef, undef, undef, undef, undef, undef, undef, undef, undef, undef, undef, undef, undef, undef, undef] (List.append [undef, undef, undef, undef, undef, undef, undef, undef, undef, undef, undef, undef, undef, undef, undef, undef, undef, undef, undef, undef, undef, undef, undef, undef, undef, undef, undef, undef, undef, undef, undef, undef, undef, undef, undef, undef, undef, undef, undef, undef] [undef, undef, undef, undef, undef, undef, undef, undef, undef, undef, undef, undef, undef, undef, undef, undef, undef, undef, undef, undef]))), defers := [] } (by kernel_rfl) ?_
      refine g_fn (some 45) [] Try.func19 (by kernel_rfl) (by kernel_rfl) (by kernel_rfl) (by kernel_rfl) (wanted_by (g := 14) (b := true) (d := 42) (by kernel_rfl) (by kernel_rfl) (by kernel_rfl) (by kernel_rfl)) (by kernel_rfl) ?_
      refine ((HOne.out _)).mono ?_
      rintro e w4 ⟨rfl, ew4⟩
      have bw4 : Below w3.heap.size w3 w4 := ew4 ▸ Below.refl _ _
      clear ew4
      have HG4 := Lib.hid (HG3.out.on bw4)
      have HS4 := Lib.hid HG4.out.h
      refine ⟨_, rfl, HS4.out, ?_⟩
      refine g_pure (some 46) (.agg (aggT (⟨#[]⟩, ⟨#[1]⟩))) (by kernel_rfl) (wanted_by (g := 14) (b := true) (d := 42) (by kernel_rfl) (by kernel_rfl) (by kernel_rfl) (by kernel_rfl)) (held_build 25 #[(1, .tmp 45)] (by kernel_rfl) _ (by kernel_rfl) _ (built_pairB ⟨#[1]⟩)) ?_
      refine g_norm { tmps := List.toArray (List.append [(.slice a0 len0 cap0), undef, (.bool false), (.pointer (some ⟨gx, 0, none⟩)), (.pointer (some ⟨gy, 0, none⟩)), (.string p), undef, undef, undef, undef, (.slice a0 len0 cap0), (.bool false), (.tuple #[.agg (aggT x), .agg (aggT y), .string p]), (.slice a0 len0 cap0), (.tuple #[.agg (aggT x), .agg (aggT y), .string p]), (.agg (aggT x)), (.agg (aggT y)), (.string p), (.agg (aggT x)), (.string p), (.bool false), (.bool true), (.bool true), undef, undef, undef, undef, (.bool true), (.agg (aggT x)), (.agg (aggT y)), (.string p), (.agg (aggT noP)), (.agg (aggT noP)), (.bool true), (.bool true), (.agg (aggT x)), (.agg (aggT y)), (.string p), (.agg (aggT noP)), (.agg (aggT noP))] (List.append [(.bool true), (.bool true), (.bool true), (.string ⟨#[1]⟩), (.agg (aggT (⟨#[]⟩, ⟨#[1]⟩))), (.string ⟨#[1]⟩), (.agg (aggT (⟨#[]⟩, ⟨#[1]⟩))), undef, undef, undef, undef, undef, undef, undef, undef, undef, undef, undef, undef, undef, undef, undef, undef, undef, undef, undef, undef, undef, undef, undef, undef, undef, undef, undef, undef, undef, undef, undef, undef, undef] (List.append [undef, undef, undef, undef, undef, undef, undef, undef, undef, undef, undef, undef, undef, undef, undef, undef, undef, undef, undef, undef, undef, undef, undef, undef, undef, undef, undef, undef, undef, undef, undef, undef, undef, undef, undef, undef, undef, undef, undef, undef] [undef, undef, undef, undef, undef, undef, undef, undef, undef, undef, undef, undef, undef, undef, undef, undef, undef, undef, undef, undef]))), defers := [] } (by kernel_rfl) ?_
      refine g_fn (some 47) [.agg (aggT (⟨#[]⟩, ⟨#[1]⟩)), .agg (aggT (⟨#[]⟩, ⟨#[1]⟩)), .string ⟨#[7]⟩] Try.func18 (by kernel_rfl) (by kernel_rfl) (by kernel_rfl) (by kernel_rfl) (wanted_by (g := 14) (b := true) (d := 42) (by kernel_rfl) (by kernel_rfl) (by kernel_rfl) (by kernel_rfl)) (by kernel_rfl) ?_
      refine ((H7.out _)).mono ?_
      rintro e w5 ⟨rfl, bw5⟩
      have HG5 := Lib.hid (HG4.out.on bw5)
      have HS5 := Lib.hid HG5.out.h
      refine ⟨_, rfl, HS5.out, ?_⟩
      refine g_pure (some 48) (.agg (aggT (⟨#[6]⟩, ⟨#[]⟩))) (by kernel_rfl) (wanted_by (g := 14) (b := true) (d := 42) (by kernel_rfl) (by kernel_rfl) (by kernel_rfl) (by kernel_rfl)) (held_build 25 #[(0, .const (.string ⟨#[6]⟩))] (by kernel_rfl) _ (by kernel_rfl) _ (built_pairA ⟨#[6]⟩)) ?_
      refine g_take (some 49) (.bool true) (by kernel_rfl) (yields_eqP (wanted_by (g := 14) (b := true) (d := 42) (by kernel_rfl) (by kernel_rfl) (by kernel_rfl) (by kernel_rfl)) (.tmp 47) (.tmp 48) (by kernel_rfl) (⟨#[6]⟩, ⟨#[]⟩) (by kernel_rfl) (by kernel_rfl)) ?_
      refine g_pure (some 50) (.bool true) (by kernel_rfl) (by kernel_rfl) (fun _ => (by kernel_rfl)) ?_
      refine g_pure (some 2) (.bool true) (by kernel_rfl) (by kernel_rfl) (fun _ => (by kernel_rfl)) ?_
      refine g_done ?_
      refine (by assumption : ∀ (a : Act) (w_1 : World), Code.wp _ Code.ret _ a w_1 → _) _ _ ?_
      refine wp_ret ?_
      exact ret_bool rfl (by kernel_rfl) (by kernel_rfl) ⟨rfl, HG5.out.b⟩
    | true =>
      rw [hx] at HOk
      have hy : pairB y p = false := by simpa [twoPB, hx] using hxy
      rw [hy] at HOy
      clear hx hxy hy
      go_wp2_with (first | refine store_p rfl (.tmp 3) (.tmp 15) rfl w1.heap.size _ x rfl rfl HX3.out rfl ?_ | refine store_p rfl (.tmp 4) (.tmp 16) rfl (w1.heap.size + 1) _ y rfl rfl HY3.out rfl ?_ | refine load_p rfl (.tmp 3) rfl w1.heap.size x rfl HX4.out ?_)
      generalize (((w1.alloc (.cells #[.string ⟨#[]⟩, .string ⟨#[]⟩] 25)).alloc (.cells #[.string ⟨#[]⟩, .string ⟨#[]⟩] 25)).setRow w1.heap.size (aggT x)).setRow (w1.heap.size + 1) (aggT y) = w2 at *
      clear HX3 HY3 HX4 HY4
      generalize w1.heap.size + 1 = gy at *
      generalize w1.heap.size = gx at *
      refine (HOk.out _).mono ?_
      rintro e w3 ⟨rfl, b3⟩
      have HG3 := Lib.hid (Stand.on ⟨HH.out, HB.out⟩ b3)
      obtain ⟨cy1, cy2⟩ := agg_cells (HG3.out.h (gy, aggT y, 25) (.tail _ (.head _)))
      clear b3 HH HB
      go_wp2_with fail
      clear cy1 cy2
      refine (HOy.out _).mono ?_
      rintro e w4 ⟨rfl, b4⟩
      have HG0 := Lib.hid (HG3.out.on b4)
      clear b4 HG3
      go_upto_region 5 with (fail)
      clear HOk HOy
      have HS0 := Lib.hid HG0.out.h
      have Fx := Lib.hid (show ∀ w', Held w' [(gx, aggT x, 25), (gy, aggT y, 25)] → (Instr.loadAt 25 (.pointer (some ⟨gx, 0, none⟩))).run Try.prog w' = .ok (.agg (aggT x)) w' from fun w' hw => pair_load (hw _ (.head _)))
      have Fy := Lib.hid (show ∀ w', Held w' [(gx, aggT x, 25), (gy, aggT y, 25)] → (Instr.loadAt 25 (.pointer (some ⟨gy, 0, none⟩))).run Try.prog w' = .ok (.agg (aggT y)) w' from fun w' hw => pair_load (hw _ (.tail _ (.head _))))
      refine wp_region_line (S := fun w' => Held w' [(gx, aggT x, 25), (gy, aggT y, 25)]) [(true, 0), (true, 1), (true, 2), (false, 3), (true, 4), (true, 5), (true, 6), (true, 7), (true, 8), (true, 9), (false, 10), (true, 11), (true, 12), (true, 13), (true, 14), (false, 15), (true, 16), (false, 17), (true, 18), (false, 19), (true, 20), (true, 21), (true, 22), (true, 23)] (by kernel_rfl) (by kernel_rfl) HS0.out ?_
      refine SQ.out ?_
      refine g_held (some 28) (.agg (aggT x)) (by kernel_rfl) (by kernel_rfl) (held_load 25 (.tmp 3) (by kernel_rfl) _ _ (by kernel_rfl) Fx.out) ?_
      refine g_held (some 29) (.agg (aggT y)) (by kernel_rfl) (by kernel_rfl) (held_load 25 (.tmp 4) (by kernel_rfl) _ _ (by kernel_rfl) Fy.out) ?_
      refine g_pure (some 30) (.string p) (by kernel_rfl) (by kernel_rfl) (fun _ => (by kernel_rfl)) ?_
      refine g_norm { tmps := List.toArray (List.append [(.slice a0 len0 cap0), undef, (.bool false), (.pointer (some ⟨gx, 0, none⟩)), (.pointer (some ⟨gy, 0, none⟩)), (.string p), undef, undef, undef, undef, (.slice a0 len0 cap0), (.bool false), (.tuple #[.agg (aggT x), .agg (aggT y), .string p]), (.slice a0 len0 cap0), (.tuple #[.agg (aggT x), .agg (aggT y), .string p]), (.agg (aggT x)), (.agg (aggT y)), (.string p), (.agg (aggT x)), (.string p), (.bool true), (.bool false), (.bool false), (.agg (aggT y)), (.string p), (.bool false), (.bool true), (.bool true), (.agg (aggT x)), (.agg (aggT y)), (.string p), undef, undef, undef, undef, undef, undef, undef, undef, undef] (List.append [undef, undef, undef, undef, undef, undef, undef, undef, undef, undef, undef, undef, undef, undef, undef, undef, undef, undef, undef, undef, undef, undef, undef, undef, undef, undef, undef, undef, undef, undef, undef, undef, undef, undef, undef, undef, undef, undef, undef, undef] (List.append [undef, undef, undef, undef, undef, undef, undef, undef, undef, undef, undef, undef, undef, undef, undef, undef, undef, undef, undef, undef, undef, undef, undef, undef, undef, undef, undef, undef, undef, undef, undef, undef, undef, undef, undef, undef, undef, undef, undef, undef] [undef, undef, undef, undef, undef, undef, undef, undef, undef, undef, undef, undef, undef, undef, undef, undef, undef, undef, undef, undef]))), defers := [] } (by kernel_rfl) ?_
      refine g_fn (some 31) [.agg (aggT x), .agg (aggT y), .string p] Try.func17 (by kernel_rfl) (by kernel_rfl) (by kernel_rfl) (by kernel_rfl) (by kernel_rfl) (by kernel_rfl) ?_
      refine ((HA.out _)).mono ?_
      rintro e w1 ⟨rfl, bw1⟩
      have HG1 := Lib.hid (HG0.out.on bw1)
      have HS1 := Lib.hid HG1.out.h
      refine ⟨_, rfl, HS1.out, ?_⟩
      refine g_pure (some 32) (.agg (aggT noP)) (by kernel_rfl) (by kernel_rfl) (held_build 25 #[] (by kernel_rfl) _ (by kernel_rfl) _ built_pair0) ?_
      refine g_take (some 33) (.bool true) (by kernel_rfl) (yields_eqP (by kernel_rfl) (.tmp 31) (.tmp 32) (by kernel_rfl) noP (by kernel_rfl) (by kernel_rfl)) ?_
      refine g_pure (some 34) (.bool true) (by kernel_rfl) (by kernel_rfl) (fun _ => (by kernel_rfl)) ?_
      refine g_held (some 35) (.agg (aggT x)) (by kernel_rfl) (wanted_by (g := 6) (b := true) (d := 34) (by kernel_rfl) (by kernel_rfl) (by kernel_rfl) (by kernel_rfl)) (held_load 25 (.tmp 3) (by kernel_rfl) _ _ (by kernel_rfl) Fx.out) ?_
      refine g_held (some 36) (.agg (aggT y)) (by kernel_rfl) (wanted_by (g := 6) (b := true) (d := 34) (by kernel_rfl) (by kernel_rfl) (by kernel_rfl) (by kernel_rfl)) (held_load 25 (.tmp 4) (by kernel_rfl) _ _ (by kernel_rfl) Fy.out) ?_
      refine g_pure (some 37) (.string p) (by kernel_rfl) (wanted_by (g := 6) (b := true) (d := 34) (by kernel_rfl) (by kernel_rfl) (by kernel_rfl) (by kernel_rfl)) (fun _ => (by kernel_rfl)) ?_
      refine g_norm { tmps := List.toArray (List.append [(.slice a0 len0 cap0), undef, (.bool false), (.pointer (some ⟨gx, 0, none⟩)), (.pointer (some ⟨gy, 0, none⟩)), (.string p), undef, undef, undef, undef, (.slice a0 len0 cap0), (.bool false), (.tuple #[.agg (aggT x), .agg (aggT y), .string p]), (.slice a0 len0 cap0), (.tuple #[.agg (aggT x), .agg (aggT y), .string p]), (.agg (aggT x)), (.agg (aggT y)), (.string p), (.agg (aggT x)), (.string p), (.bool true), (.bool false), (.bool false), (.agg (aggT y)), (.string p), (.bool false), (.bool true), (.bool true), (.agg (aggT x)), (.agg (aggT y)), (.string p), (.agg (aggT noP)), (.agg (aggT noP)), (.bool true), (.bool true), (.agg (aggT x)), (.agg (aggT y)), (.string p), undef, undef] (List.append [undef, undef, undef, undef, undef, undef, undef, undef, undef, undef, undef, undef, undef, undef, undef, undef, undef, undef, undef, undef, undef, undef, undef, undef, undef, undef, undef, undef, undef, undef, undef, undef, undef, undef, undef, undef, undef, undef, undef, undef] (List.append [undef, undef, undef, undef, undef, undef, undef, undef, undef, undef, undef, undef, undef, undef, undef, undef, undef, undef, undef, undef, undef, undef, undef, undef, undef, undef, undef, undef, undef, undef, undef, undef, undef, undef, undef, undef, undef, undef, undef, undef] [undef, undef, undef, undef, undef, undef, undef, undef, undef, undef, undef, undef, undef, undef, undef, undef, undef, undef, undef, undef]))), defers := [] } (by kernel_rfl) ?_
      refine g_fn (some 38) [.agg (aggT x), .agg (aggT y), .string p] Try.func18 (by kernel_rfl) (by kernel_rfl) (by kernel_rfl) (by kernel_rfl) (wanted_by (g := 6) (b := true) (d := 34) (by kernel_rfl) (by kernel_rfl) (by kernel_rfl) (by kernel_rfl)) (by kernel_rfl) ?_
      refine ((HM.out _)).mono ?_
      rintro e w2 ⟨rfl, bw2⟩
      have HG2 := Lib.hid (HG1.out.on bw2)
      have HS2 := Lib.hid HG2.out.h
      refine ⟨_, rfl, HS2.out, ?_⟩
      refine g_pure (some 39) (.agg (aggT noP)) (by kernel_rfl) (wanted_by (g := 6) (b := true) (d := 34) (by kernel_rfl) (by kernel_rfl) (by kernel_rfl) (by kernel_rfl)) (held_build 25 #[] (by kernel_rfl) _ (by kernel_rfl) _ built_pair0) ?_
      refine g_take (some 40) (.bool true) (by kernel_rfl) (yields_eqP (wanted_by (g := 6) (b := true) (d := 34) (by kernel_rfl) (by kernel_rfl) (by kernel_rfl) (by kernel_rfl)) (.tmp 38) (.tmp 39) (by kernel_rfl) noP (by kernel_rfl) (by kernel_rfl)) ?_
      refine g_pure (some 41) (.bool true) (by kernel_rfl) (by kernel_rfl) (fun _ => (by kernel_rfl)) ?_
      refine g_pure (some 42) (.bool true) (by kernel_rfl) (by kernel_rfl) (fun _ => (by kernel_rfl)) ?_
      refine g_norm { tmps := List.toArray (List.append [(.slice a0 len0 cap0), undef, (.bool false), (.pointer (some ⟨gx, 0, none⟩)), (.pointer (some ⟨gy, 0, none⟩)), (.string p), undef, undef, undef, undef, (.slice a0 len0 cap0), (.bool false), (.tuple #[.agg (aggT x), .agg (aggT y), .string p]), (.slice a0 len0 cap0), (.tuple #[.agg (aggT x), .agg (aggT y), .string p]), (.agg (aggT x)), (.agg (aggT y)), (.string p), (.agg (aggT x)), (.string p), (.bool true), (.bool false), (.bool false), (.agg (aggT y)), (.string p), (.bool false), (.bool true), (.bool true), (.agg (aggT x)), (.agg (aggT y)), (.string p), (.agg (aggT noP)), (.agg (aggT noP)), (.bool true), (.bool true), (.agg (aggT x)), (.agg (aggT y)), (.string p), (.agg (aggT noP)), (.agg (aggT noP))] (List.append [(.bool true), (.bool true), (.bool true), undef, undef, undef, undef, undef, undef, undef, undef, undef, undef, undef, undef, undef, undef, undef, undef, undef, undef, undef, undef, undef, undef, undef, undef, undef, undef, undef, undef, undef, undef, undef, undef, undef, undef, undef, undef, undef] (List.append [undef, undef, undef, undef, undef, undef, undef, undef, undef, undef, undef, undef, undef, undef, undef, undef, undef, undef, undef, undef, undef, undef, undef, undef, undef, undef, undef, undef, undef, undef, undef, undef, undef, undef, undef, undef, undef, undef, undef, undef] [undef, undef, undef, undef, undef, undef, undef, undef, undef, undef, undef, undef, undef, undef, undef, undef, undef, undef, undef, undef]))), defers := [] } (by kernel_rfl) ?_
      refine g_fn (some 43) [] Try.func19 (by kernel_rfl) (by kernel_rfl) (by kernel_rfl) (by kernel_rfl) (wanted_by (g := 14) (b := true) (d := 42) (by kernel_rfl) (by kernel_rfl) (by kernel_rfl) (by kernel_rfl)) (by kernel_rfl) ?_
      refine ((HOne.out _)).mono ?_
      rintro e w3 ⟨rfl, ew3⟩
      have bw3 : Below w2.heap.size w2 w3 := ew3 ▸ Below.refl _ _
      clear ew3
      have HG3 := Lib.hid (HG2.out.on bw3)
      have HS3 := Lib.hid HG3.out.h
      refine ⟨_, rfl, HS3.out, ?_⟩
      refine g_pure (some 44) (.agg (aggT (⟨#[]⟩, ⟨#[1]⟩))) (by kernel_rfl) (wanted_by (g := 14) (b := true) (d := 42) (by kernel_rfl) (by kernel_rfl) (by kernel_rfl) (by kernel_rfl)) (held_build 25 #[(1, .tmp 43)] (by kernel_rfl) _ (by kernel_rfl) _ (built_pairB ⟨#[1]⟩)) ?_
      refine g_norm { tmps := List.toArray (List.append [(.slice a0 len0 cap0), undef, (.bool false), (.pointer (some ⟨gx, 0, none⟩)), (.pointer (some ⟨gy, 0, none⟩)), (.string p), undef, undef, undef, undef, (.slice a0 len0 cap0), (.bool false), (.tuple #[.agg (aggT x), .agg (aggT y), .string p]), (.slice a0 len0 cap0), (.tuple #[.agg (aggT x), .agg (aggT y), .string p]), (.agg (aggT x)), (.agg (aggT y)), (.string p), (.agg (aggT x)), (.string p), (.bool true), (.bool false), (.bool false), (.agg (aggT y)), (.string p), (.bool false), (.bool true), (.bool true), (.agg (aggT x)), (.agg (aggT y)), (.string p), (.agg (aggT noP)), (.agg (aggT noP)), (.bool true), (.bool true), (.agg (aggT x)), (.agg (aggT y)), (.string p), (.agg (aggT noP)), (.agg (aggT noP))] (List.append [(.bool true), (.bool true), (.bool true), (.string ⟨#[1]⟩), (.agg (aggT (⟨#[]⟩, ⟨#[1]⟩))), undef, undef, undef, undef, undef, undef, undef, undef, undef, undef, undef, undef, undef, undef, undef, undef, undef, undef, undef, undef, undef, undef, undef, undef, undef, undef, undef, undef, undef, undef, undef, undef, undef, undef, undef] (List.append [undef, undef, undef, undef, undef, undef, undef, undef, undef, undef, undef, undef, undef, undef, undef, undef, undef, undef, undef, undef, undef, undef, undef, undef, undef, undef, undef, undef, undef, undef, undef, undef, undef, undef, undef, undef, undef, undef, undef, undef] [undef, undef, undef, undef, undef, undef, undef, undef, undef, undef, undef, undef, undef, undef, undef, undef, undef, undef, undef, undef]))), defers := [] } (by kernel_rfl) ?_
      refine g_fn (some 45) [] Try.func19 (by kernel_rfl) (by kernel_rfl) (by kernel_rfl) (by kernel_rfl) (wanted_by (g := 14) (b := true) (d := 42) (by kernel_rfl) (by kernel_rfl) (by kernel_rfl) (by kernel_rfl)) (by kernel_rfl) ?_
      refine ((HOne.out _)).mono ?_
      rintro e w4 ⟨rfl, ew4⟩
      have bw4 : Below w3.heap.size w3 w4 := ew4 ▸ Below.refl _ _
      clear ew4
      have HG4 := Lib.hid (HG3.out.on bw4)
      have HS4 := Lib.hid HG4.out.h
      refine ⟨_, rfl, HS4.out, ?_⟩
      refine g_pure (some 46) (.agg (aggT (⟨#[]⟩, ⟨#[1]⟩))) (by kernel_rfl) (wanted_by (g := 14) (b := true) (d := 42) (by kernel_rfl) (by kernel_rfl) (by kernel_rfl) (by kernel_rfl)) (held_build 25 #[(1, .tmp 45)] (by kernel_rfl) _ (by kernel_rfl) _ (built_pairB ⟨#[1]⟩)) ?_
      refine g_norm { tmps := List.toArray (List.append [(.slice a0 len0 cap0), undef, (.bool false), (.pointer (some ⟨gx, 0, none⟩)), (.pointer (some ⟨gy, 0, none⟩)), (.string p), undef, undef, undef, undef, (.slice a0 len0 cap0), (.bool false), (.tuple #[.agg (aggT x), .agg (aggT y), .string p]), (.slice a0 len0 cap0), (.tuple #[.agg (aggT x), .agg (aggT y), .string p]), (.agg (aggT x)), (.agg (aggT y)), (.string p), (.agg (aggT x)), (.string p), (.bool true), (.bool false), (.bool false), (.agg (aggT y)), (.string p), (.bool false), (.bool true), (.bool true), (.agg (aggT x)), (.agg (aggT y)), (.string p), (.agg (aggT noP)), (.agg (aggT noP)), (.bool true), (.bool true), (.agg (aggT x)), (.agg (aggT y)), (.string p), (.agg (aggT noP)), (.agg (aggT noP))] (List.append [(.bool true), (.bool true), (.bool true), (.string ⟨#[1]⟩), (.agg (aggT (⟨#[]⟩, ⟨#[1]⟩))), (.string ⟨#[1]⟩), (.agg (aggT (⟨#[]⟩, ⟨#[1]⟩))), undef, undef, undef, undef, undef, undef, undef, undef, undef, undef, undef, undef, undef, undef, undef, undef, undef, undef, undef, undef, undef, undef, undef, undef, undef, undef, undef, undef, undef, undef, undef, undef, undef] (List.append [undef, undef, undef, undef, undef, undef, undef, undef, undef, undef, undef, undef, undef, undef, undef, undef, undef, undef, undef, undef, undef, undef, undef, undef, undef, undef, undef, undef, undef, undef, undef, undef, undef, undef, undef, undef, undef, undef, undef, undef] [undef, undef, undef, undef, undef, undef, undef, undef, undef, undef, undef, undef, undef, undef, undef, undef, undef, undef, undef, undef]))), defers := [] } (by kernel_rfl) ?_
      refine g_fn (some 47) [.agg (aggT (⟨#[]⟩, ⟨#[1]⟩)), .agg (aggT (⟨#[]⟩, ⟨#[1]⟩)), .string ⟨#[7]⟩] Try.func18 (by kernel_rfl) (by kernel_rfl) (by kernel_rfl) (by kernel_rfl) (wanted_by (g := 14) (b := true) (d := 42) (by kernel_rfl) (by kernel_rfl) (by kernel_rfl) (by kernel_rfl)) (by kernel_rfl) ?_
      refine ((H7.out _)).mono ?_
      rintro e w5 ⟨rfl, bw5⟩
      have HG5 := Lib.hid (HG4.out.on bw5)
      have HS5 := Lib.hid HG5.out.h
      refine ⟨_, rfl, HS5.out, ?_⟩
      refine g_pure (some 48) (.agg (aggT (⟨#[6]⟩, ⟨#[]⟩))) (by kernel_rfl) (wanted_by (g := 14) (b := true) (d := 42) (by kernel_rfl) (by kernel_rfl) (by kernel_rfl) (by kernel_rfl)) (held_build 25 #[(0, .const (.string ⟨#[6]⟩))] (by kernel_rfl) _ (by kernel_rfl) _ (built_pairA ⟨#[6]⟩)) ?_
      refine g_take (some 49) (.bool true) (by kernel_rfl) (yields_eqP (wanted_by (g := 14) (b := true) (d := 42) (by kernel_rfl) (by kernel_rfl) (by kernel_rfl) (by kernel_rfl)) (.tmp 47) (.tmp 48) (by kernel_rfl) (⟨#[6]⟩, ⟨#[]⟩) (by kernel_rfl) (by kernel_rfl)) ?_
      refine g_pure (some 50) (.bool true) (by kernel_rfl) (by kernel_rfl) (fun _ => (by kernel_rfl)) ?_
      refine g_pure (some 2) (.bool true) (by kernel_rfl) (by kernel_rfl) (fun _ => (by kernel_rfl)) ?_
      refine g_done ?_
      refine (by assumption : ∀ (a : Act) (w_1 : World), Code.wp _ Code.ret _ a w_1 → _) _ _ ?_
      refine wp_ret ?_
      exact ret_bool rfl (by kernel_rfl) (by kernel_rfl) ⟨rfl, HG5.out.b⟩
  · have hxy' : twoPB x y p = true := by cases h : twoPB x y p with | true => rfl | false => exact absurd h hxy
    obtain ⟨hx, hy⟩ := (by simpa [twoPB] using hxy' : pairB x p = true ∧ pairB y p = true)
    have L := pair_laws hx hy
    rw [hx] at HOk
    rw [hy] at HOy
    have Cok := Lib.hid (pairOk_i x p)
    rw [hx] at Cok
    have Cm := Lib.hid (mulPair_i x y p)
    have Cs := Lib.hid (addPair_i x y p)
    have Cl := Lib.hid (mulPair_i x (addPG x y p) p)
    have Cxx := Lib.hid (mulPair_i x x p)
    have Crr := Lib.hid (addPair_i (mulPG x x p) (mulPG x y p) p)
    rw [← L.left] at Crr
    have Cyx := Lib.hid (mulPair_i y x p)
    rw [L.comm] at Cyx
    have Csub := Lib.hid (subPair_i (addPG x y p) y p)
    rw [L.sub] at Csub
    have Cnm := Lib.hid (normOf_i (mulPG x y p) p)
    have Cnx := Lib.hid (normOf_i x p)
    have Cny := Lib.hid (normOf_i y p)
    have Cmr := Lib.hid (mulRest_i (normG x p) (normG y p) p)
    rw [← L.norm] at Cmr
    have Cneg := Lib.hid (negPair_i x p)
    have Can := Lib.hid (addPair_i x (negPG x p) p)
    rw [L.neg] at Can
    have Coth := Lib.hid (otherPair_i x p)
    have Cxo := Lib.hid (mulPair_i x (otherPG x p) p)
    rw [L.other] at Cxo
    clear L hx hy hxy hxy'
    generalize mulPG x (addPG x y p) p = l at *
    generalize addPG x y p = s at *
    generalize normG (mulPG x y p) p = nm at *
    generalize mulPG x y p = m at *
    generalize mulPG x x p = xx at *
    generalize normG x p = nx at *
    generalize normG y p = ny at *
    generalize negPG x p = ng at *
    generalize otherPG x p = ot at *
    go_wp2_with (first | refine store_p rfl (.tmp 3) (.tmp 15) rfl w1.heap.size _ x rfl rfl HX3.out rfl ?_ | refine store_p rfl (.tmp 4) (.tmp 16) rfl (w1.heap.size + 1) _ y rfl rfl HY3.out rfl ?_ | refine load_p rfl (.tmp 3) rfl w1.heap.size x rfl HX4.out ?_)
    generalize (((w1.alloc (.cells #[.string ⟨#[]⟩, .string ⟨#[]⟩] 25)).alloc (.cells #[.string ⟨#[]⟩, .string ⟨#[]⟩] 25)).setRow w1.heap.size (aggT x)).setRow (w1.heap.size + 1) (aggT y) = w2 at *
    clear HX3 HY3 HX4 HY4
    generalize w1.heap.size + 1 = gy at *
    generalize w1.heap.size = gx at *
    refine (HOk.out _).mono ?_
    rintro e w3 ⟨rfl, b3⟩
    have HH3 := Lib.hid (HH.out.on b3)
    have HB3 := Lib.hid (bt HB.out b3)
    obtain ⟨cy1, cy2⟩ := agg_cells (HH3.out (gy, aggT y, 25) (by simp))
    clear HH HB b3 HOk
    go_wp2_with fail
    refine (HOy.out _).mono ?_
    rintro e w4 ⟨rfl, b4⟩
    have HH4 := Lib.hid (HH3.out.on b4)
    have HB4 := Lib.hid (bt HB3.out b4)
    clear HH3 HB3 b4 HOy cy1 cy2
    go_wp2_with (first | refine load_p rfl (.tmp 3) rfl gx x rfl (HH4.out _ (.head _)) ?_ | refine load_p rfl (.tmp 4) rfl gy y rfl (HH4.out _ (.tail _ (.head _))) ?_)
    refine (Cm.out _).mono ?_
    rintro e w5 ⟨rfl, b5⟩
    have HH5 := Lib.hid (HH4.out.on b5)
    have HB5 := Lib.hid (bt HB4.out b5)
    have HA5 := Lib.hid (heap_alloc_new w5 (.cells #[.string ⟨#[]⟩, .string ⟨#[]⟩] 25))
    have HN5 := Lib.hid (HH5.out.new #[.string ⟨#[]⟩, .string ⟨#[]⟩] (aggT m) 25)
    have HC5 := Lib.hid (bt HB5.out HN5.out.2)
    clear HH4 HB4 b5 Cm HH5 HB5
    go_wp2_with (first | refine store_p rfl (.tmp 6) (.tmp 54) rfl w5.heap.size _ m rfl rfl HA5.out rfl ?_ | refine load_p rfl (.tmp 3) rfl gx x rfl (HN5.out.1 _ (.tail _ (.head _))) ?_ | refine load_p rfl (.tmp 4) rfl gy y rfl (HN5.out.1 _ (.tail _ (.tail _ (.head _)))) ?_)
    generalize (w5.alloc (.cells #[.string ⟨#[]⟩, .string ⟨#[]⟩] 25)).setRow w5.heap.size (aggT m) = w6 at *
    generalize w5.heap.size = gm at *
    refine (Cs.out _).mono ?_
    rintro e w7 ⟨rfl, b7⟩
    have HH7 := Lib.hid (HN5.out.1.on b7)
    have HB7 := Lib.hid (bt HC5.out b7)
    have HA7 := Lib.hid (heap_alloc_new w7 (.cells #[.string ⟨#[]⟩, .string ⟨#[]⟩] 25))
    have HN7 := Lib.hid (HH7.out.new #[.string ⟨#[]⟩, .string ⟨#[]⟩] (aggT s) 25)
    have HC7 := Lib.hid (bt HB7.out HN7.out.2)
    clear HA5 HN5 HC5 b7 Cs HH7 HB7
    go_wp2_with (first | refine store_p rfl (.tmp 7) (.tmp 58) rfl w7.heap.size _ s rfl rfl HA7.out rfl ?_ | refine load_p rfl (.tmp 3) rfl gx x rfl (HN7.out.1 _ (.tail _ (.tail _ (.head _)))) ?_ | refine load_p rfl (.tmp 7) rfl w7.heap.size s rfl (HN7.out.1 _ (.head _)) ?_)
    generalize (w7.alloc (.cells #[.string ⟨#[]⟩, .string ⟨#[]⟩] 25)).setRow w7.heap.size (aggT s) = w8 at *
    generalize w7.heap.size = gs at *
    refine (Cl.out _).mono ?_
    rintro e w9 ⟨rfl, b9⟩
    have HH9 := Lib.hid (HN7.out.1.on b9)
    have HB9 := Lib.hid (bt HC7.out b9)
    have HA9 := Lib.hid (heap_alloc_new w9 (.cells #[.string ⟨#[]⟩, .string ⟨#[]⟩] 25))
    have HN9 := Lib.hid (HH9.out.new #[.string ⟨#[]⟩, .string ⟨#[]⟩] (aggT l) 25)
    have HB := Lib.hid (bt HB9.out HN9.out.2)
    have HH := Lib.hid HN9.out.1
    clear HA7 HN7 HC7 b9 Cl HH9 HB9 HN9
    go_upto_region 9 with (first | refine store_p rfl (.tmp 8) (.tmp 62) rfl w9.heap.size _ l rfl rfl HA9.out rfl ?_)
    generalize (w9.alloc (.cells #[.string ⟨#[]⟩, .string ⟨#[]⟩] 25)).setRow w9.heap.size (aggT l) = wa at *
    generalize w9.heap.size = gl at *
    clear HA9
    obtain ⟨LL, hLL⟩ : ∃ LL, [(gl, aggT l, 25), (gs, aggT s, 25), (gm, aggT m, 25), (gx, aggT x, 25), (gy, aggT y, 25)] = LL := ⟨_, rfl⟩
    have HMx : Hid ((gx, aggT x, 25) ∈ LL) := by rw [← hLL]; exact .tail _ (.tail _ (.tail _ (.head _)))
    have HMy : Hid ((gy, aggT y, 25) ∈ LL) := by rw [← hLL]; exact .tail _ (.tail _ (.tail _ (.tail _ (.head _))))
    have HMm : Hid ((gm, aggT m, 25) ∈ LL) := by rw [← hLL]; exact .tail _ (.tail _ (.head _))
    have HMs : Hid ((gs, aggT s, 25) ∈ LL) := by rw [← hLL]; exact .tail _ (.head _)
    have HMl : Hid ((gl, aggT l, 25) ∈ LL) := by rw [← hLL]; exact .head _
    rw [hLL] at HH
    clear hLL
    have HG0 := Lib.hid (Stand.drew ⟨HH.out, HB.out⟩)
    have HS0 := Lib.hid HG0.out.h
    clear HH HB
    have Fx := Lib.hid (show ∀ w', Held w' LL → (Instr.loadAt 25 (.pointer (some ⟨gx, 0, none⟩))).run Try.prog w' = .ok (.agg (aggT x)) w' from fun w' hw => pair_load (hw _ HMx.out))
    have Fy := Lib.hid (show ∀ w', Held w' LL → (Instr.loadAt 25 (.pointer (some ⟨gy, 0, none⟩))).run Try.prog w' = .ok (.agg (aggT y)) w' from fun w' hw => pair_load (hw _ HMy.out))
    have Fm := Lib.hid (show ∀ w', Held w' LL → (Instr.loadAt 25 (.pointer (some ⟨gm, 0, none⟩))).run Try.prog w' = .ok (.agg (aggT m)) w' from fun w' hw => pair_load (hw _ HMm.out))
    have Fs := Lib.hid (show ∀ w', Held w' LL → (Instr.loadAt 25 (.pointer (some ⟨gs, 0, none⟩))).run Try.prog w' = .ok (.agg (aggT s)) w' from fun w' hw => pair_load (hw _ HMs.out))
    have Fl := Lib.hid (show ∀ w', Held w' LL → (Instr.loadAt 25 (.pointer (some ⟨gl, 0, none⟩))).run Try.prog w' = .ok (.agg (aggT l)) w' from fun w' hw => pair_load (hw _ HMl.out))
    refine Code.wp_mono (Q := fun e a' w' => e = .normal ∧ ∃ ga : Nat, a' = { tmps := List.toArray (List.append [(.slice a0 len0 cap0), undef, (.bool false), (.pointer (some ⟨gx, 0, none⟩)), (.pointer (some ⟨gy, 0, none⟩)), (.string p), (.pointer (some ⟨gm, 0, none⟩)), (.pointer (some ⟨gs, 0, none⟩)), (.pointer (some ⟨gl, 0, none⟩)), (.pointer (some ⟨ga, 0, none⟩)), (.slice a0 len0 cap0), (.bool false), (.tuple #[.agg (aggT x), .agg (aggT y), .string p]), (.slice a0 len0 cap0), (.tuple #[.agg (aggT x), .agg (aggT y), .string p]), (.agg (aggT x)), (.agg (aggT y)), (.string p), (.agg (aggT x)), (.string p), (.bool true), (.bool false), (.bool false), (.agg (aggT y)), (.string p), (.bool true), (.bool false), (.bool false), undef, undef, undef, undef, undef, undef, undef, undef, undef, undef, undef, undef] (List.append [undef, undef, undef, undef, undef, undef, undef, undef, undef, undef, undef, (.agg (aggT x)), (.agg (aggT y)), (.string p), (.agg (aggT m)), (.agg (aggT x)), (.agg (aggT y)), (.string p), (.agg (aggT s)), (.agg (aggT x)), (.agg (aggT s)), (.string p), (.agg (aggT l)), (.agg (aggT x)), (.agg (aggT x)), (.string p), (.agg (aggT xx)), (.agg (aggT m)), (.string p), (.agg (aggT l)), undef, undef, undef, undef, undef, undef, undef, undef, undef, undef] (List.append [undef, undef, undef, undef, undef, undef, undef, undef, undef, undef, undef, undef, undef, undef, undef, undef, undef, undef, undef, undef, undef, undef, undef, undef, undef, undef, undef, undef, undef, undef, undef, undef, undef, undef, undef, undef, undef, undef, undef, undef] [undef, undef, undef, undef, undef, undef, undef, undef, undef, undef, undef, undef, undef, undef, undef, undef, undef, undef, undef, undef]))), defers := [] } ∧ Stand w w' ((ga, aggT l, 25) :: LL)) ?_ ?_
    rotate_left
    · refine m_begin (S := fun w' => Held w' LL) (by kernel_rfl) 9 (by kernel_rfl) ?_
      change wpM _ _ _ _ _ _ _ _ wa.drew
      generalize wa.drew = w0 at *
      refine m_seq (f := 4) [⟨0, some 63, [3]⟩, ⟨0, some 64, [3]⟩, ⟨0, some 65, [5]⟩, ⟨7, some 66, [63, 64, 65]⟩, ⟨0, some 67, [6]⟩, ⟨0, some 68, [5]⟩, ⟨56, some 69, [66, 67, 68]⟩, ⟨0, some 9, []⟩, ⟨255, none, [9, 69]⟩] [(true, 0), (true, 1), (true, 2), (true, 4), (true, 5)] 55 (by kernel_rfl) (by kernel_rfl) (fun _ _ _ _ _ h => by cases h.1) (by kernel_rfl) (by kernel_rfl) (by kernel_rfl) HS0.out ?_
      refine sq_held (some 63) (.agg (aggT x)) (by kernel_rfl) (by kernel_rfl) (held_load 25 (.tmp 3) (by kernel_rfl) _ _ (by kernel_rfl) Fx.out) ?_
      refine sq_held (some 64) (.agg (aggT x)) (by kernel_rfl) (by kernel_rfl) (held_load 25 (.tmp 3) (by kernel_rfl) _ _ (by kernel_rfl) Fx.out) ?_
      refine sq_pure (some 65) (.string p) (by kernel_rfl) (by kernel_rfl) (fun _ => (by kernel_rfl)) ?_
      refine sq_held (some 67) (.agg (aggT m)) (by kernel_rfl) (by kernel_rfl) (held_load 25 (.tmp 6) (by kernel_rfl) _ _ (by kernel_rfl) Fm.out) ?_
      refine sq_pure (some 68) (.string p) (by kernel_rfl) (by kernel_rfl) (fun _ => (by kernel_rfl)) ?_
      refine sq_done ?_
      refine m_ways (f := 3) [⟨0, some 63, [3]⟩, ⟨0, some 64, [3]⟩, ⟨0, some 65, [5]⟩, ⟨7, some 66, [63, 64, 65]⟩, ⟨0, some 67, [6]⟩, ⟨0, some 68, [5]⟩, ⟨56, some 69, [66, 67, 68]⟩, ⟨0, some 9, []⟩, ⟨255, none, [9, 69]⟩] [3, 7] (by kernel_rfl) (by kernel_rfl) (by kernel_rfl) (by kernel_rfl) ?_
      intro i hi
      rcases (by simpa using hi : i = 3 ∨ i = 7) with rfl | rfl
      · refine sq_fn (some 66) [.agg (aggT x), .agg (aggT x), .string p] Try.func18 (by kernel_rfl) (by kernel_rfl) (by kernel_rfl) (by kernel_rfl) (by kernel_rfl) (by kernel_rfl) ?_
        refine ((Cxx.out _)).mono ?_
        rintro e w1 ⟨rfl, bw1⟩
        have HG1 := Lib.hid (HG0.out.on bw1)
        have HS1 := Lib.hid HG1.out.h
        refine ⟨_, rfl, HS1.out, ?_⟩
        refine sq_done ?_
        refine m_mask (M' := 63) (by kernel_rfl) ?_
        refine m_ways (f := 2) [⟨0, some 63, [3]⟩, ⟨0, some 64, [3]⟩, ⟨0, some 65, [5]⟩, ⟨7, some 66, [63, 64, 65]⟩, ⟨0, some 67, [6]⟩, ⟨0, some 68, [5]⟩, ⟨56, some 69, [66, 67, 68]⟩, ⟨0, some 9, []⟩, ⟨255, none, [9, 69]⟩] [6, 7] (by kernel_rfl) (by kernel_rfl) (by kernel_rfl) (by kernel_rfl) ?_
        intro i hi
        rcases (by simpa using hi : i = 6 ∨ i = 7) with rfl | rfl
        · refine sq_fn (some 69) [.agg (aggT xx), .agg (aggT m), .string p] Try.func17 (by kernel_rfl) (by kernel_rfl) (by kernel_rfl) (by kernel_rfl) (by kernel_rfl) (by kernel_rfl) ?_
          refine ((Crr.out _)).mono ?_
          rintro e w2 ⟨rfl, bw2⟩
          have HG2 := Lib.hid (HG1.out.on bw2)
          have HS2 := Lib.hid HG2.out.h
          refine ⟨_, rfl, HS2.out, ?_⟩
          refine sq_done ?_
          refine m_mask (M' := 127) (by kernel_rfl) ?_
          refine m_seq (f := 0) [⟨0, some 63, [3]⟩, ⟨0, some 64, [3]⟩, ⟨0, some 65, [5]⟩, ⟨7, some 66, [63, 64, 65]⟩, ⟨0, some 67, [6]⟩, ⟨0, some 68, [5]⟩, ⟨56, some 69, [66, 67, 68]⟩, ⟨0, some 9, []⟩, ⟨255, none, [9, 69]⟩] [(false, 7), (false, 8)] 511 (by kernel_rfl) (by kernel_rfl) (fun _ _ _ _ _ h => by cases h.1) (by kernel_rfl) (by kernel_rfl) (by kernel_rfl) HS2.out ?_
          have HG3 := Lib.hid (HG2.out.new #[.string ⟨#[]⟩, .string ⟨#[]⟩] 25)
          have HN := Lib.hid HG2.out.h.apart
          have HLe := Lib.hid HG2.out.b.size
          have HS3 := Lib.hid HG3.out.h.tail
          refine sq_alloc (some 9) 25 #[.string ⟨#[]⟩, .string ⟨#[]⟩] (by kernel_rfl) (by kernel_rfl) (by kernel_rfl) (by kernel_rfl) (zero_pair _) HS3.out ?_
          generalize w2.alloc (.cells #[.string ⟨#[]⟩, .string ⟨#[]⟩] 25) = w3 at *
          refine sq_store 25 (.tmp 9) (.tmp 69) w2.heap.size #[.string ⟨#[]⟩, .string ⟨#[]⟩] (aggT l) (by kernel_rfl) (by kernel_rfl) (by kernel_rfl) (by kernel_rfl) (by kernel_rfl) (by kernel_rfl) (HG3.out.h _ (.head _)) Try.infoP rfl (by simp [aggT, Value.oneCell']) (HS3.out.setRow HN.out) ?_
          refine sq_done ?_
          refine m_done [⟨0, some 63, [3]⟩, ⟨0, some 64, [3]⟩, ⟨0, some 65, [5]⟩, ⟨7, some 66, [63, 64, 65]⟩, ⟨0, some 67, [6]⟩, ⟨0, some 68, [5]⟩, ⟨56, some 69, [66, 67, 68]⟩, ⟨0, some 9, []⟩, ⟨255, none, [9, 69]⟩] (by kernel_rfl) (by kernel_rfl) { tmps := List.toArray (List.append [(.slice a0 len0 cap0), undef, (.bool false), (.pointer (some ⟨gx, 0, none⟩)), (.pointer (some ⟨gy, 0, none⟩)), (.string p), (.pointer (some ⟨gm, 0, none⟩)), (.pointer (some ⟨gs, 0, none⟩)), (.pointer (some ⟨gl, 0, none⟩)), (.pointer (some ⟨w2.heap.size, 0, none⟩)), (.slice a0 len0 cap0), (.bool false), (.tuple #[.agg (aggT x), .agg (aggT y), .string p]), (.slice a0 len0 cap0), (.tuple #[.agg (aggT x), .agg (aggT y), .string p]), (.agg (aggT x)), (.agg (aggT y)), (.string p), (.agg (aggT x)), (.string p), (.bool true), (.bool false), (.bool false), (.agg (aggT y)), (.string p), (.bool true), (.bool false), (.bool false), undef, undef, undef, undef, undef, undef, undef, undef, undef, undef, undef, undef] (List.append [undef, undef, undef, undef, undef, undef, undef, undef, undef, undef, undef, (.agg (aggT x)), (.agg (aggT y)), (.string p), (.agg (aggT m)), (.agg (aggT x)), (.agg (aggT y)), (.string p), (.agg (aggT s)), (.agg (aggT x)), (.agg (aggT s)), (.string p), (.agg (aggT l)), (.agg (aggT x)), (.agg (aggT x)), (.string p), (.agg (aggT xx)), (.agg (aggT m)), (.string p), (.agg (aggT l)), undef, undef, undef, undef, undef, undef, undef, undef, undef, undef] (List.append [undef, undef, undef, undef, undef, undef, undef, undef, undef, undef, undef, undef, undef, undef, undef, undef, undef, undef, undef, undef, undef, undef, undef, undef, undef, undef, undef, undef, undef, undef, undef, undef, undef, undef, undef, undef, undef, undef, undef, undef] [undef, undef, undef, undef, undef, undef, undef, undef, undef, undef, undef, undef, undef, undef, undef, undef, undef, undef, undef, undef]))), defers := [] } (by kernel_rfl) ?_
          exact ⟨rfl, w2.heap.size, rfl, HG3.out.putAt HLe.out HN.out (aggT l)⟩
        · have HG2 := Lib.hid (HG1.out.new #[.string ⟨#[]⟩, .string ⟨#[]⟩] 25)
          have HN := Lib.hid HG1.out.h.apart
          have HLe := Lib.hid HG1.out.b.size
          have HS2 := Lib.hid HG2.out.h.tail
          refine sq_alloc (some 9) 25 #[.string ⟨#[]⟩, .string ⟨#[]⟩] (by kernel_rfl) (by kernel_rfl) (by kernel_rfl) (by kernel_rfl) (zero_pair _) HS2.out ?_
          generalize w1.alloc (.cells #[.string ⟨#[]⟩, .string ⟨#[]⟩] 25) = w2 at *
          refine sq_done ?_
          refine m_mask (M' := 191) (by kernel_rfl) ?_
          refine m_seq (f := 0) [⟨0, some 63, [3]⟩, ⟨0, some 64, [3]⟩, ⟨0, some 65, [5]⟩, ⟨7, some 66, [63, 64, 65]⟩, ⟨0, some 67, [6]⟩, ⟨0, some 68, [5]⟩, ⟨56, some 69, [66, 67, 68]⟩, ⟨0, some 9, []⟩, ⟨255, none, [9, 69]⟩] [(false, 6), (false, 8)] 511 (by kernel_rfl) (by kernel_rfl) (fun _ _ _ _ _ h => by cases h.1) (by kernel_rfl) (by kernel_rfl) (by kernel_rfl) HS2.out ?_
          refine sq_fn (some 69) [.agg (aggT xx), .agg (aggT m), .string p] Try.func17 (by kernel_rfl) (by kernel_rfl) (by kernel_rfl) (by kernel_rfl) (by kernel_rfl) (by kernel_rfl) ?_
          refine ((Crr.out _)).mono ?_
          rintro e w3 ⟨rfl, bw3⟩
          have HG3 := Lib.hid (HG2.out.on bw3)
          have HS3 := Lib.hid HG3.out.h.tail
          refine ⟨_, rfl, HS3.out, ?_⟩
          refine sq_store 25 (.tmp 9) (.tmp 69) w1.heap.size #[.string ⟨#[]⟩, .string ⟨#[]⟩] (aggT l) (by kernel_rfl) (by kernel_rfl) (by kernel_rfl) (by kernel_rfl) (by kernel_rfl) (by kernel_rfl) (HG3.out.h _ (.head _)) Try.infoP rfl (by simp [aggT, Value.oneCell']) (HS3.out.setRow HN.out) ?_
          refine sq_done ?_
          refine m_done [⟨0, some 63, [3]⟩, ⟨0, some 64, [3]⟩, ⟨0, some 65, [5]⟩, ⟨7, some 66, [63, 64, 65]⟩, ⟨0, some 67, [6]⟩, ⟨0, some 68, [5]⟩, ⟨56, some 69, [66, 67, 68]⟩, ⟨0, some 9, []⟩, ⟨255, none, [9, 69]⟩] (by kernel_rfl) (by kernel_rfl) { tmps := List.toArray (List.append [(.slice a0 len0 cap0), undef, (.bool false), (.pointer (some ⟨gx, 0, none⟩)), (.pointer (some ⟨gy, 0, none⟩)), (.string p), (.pointer (some ⟨gm, 0, none⟩)), (.pointer (some ⟨gs, 0, none⟩)), (.pointer (some ⟨gl, 0, none⟩)), (.pointer (some ⟨w1.heap.size, 0, none⟩)), (.slice a0 len0 cap0), (.bool false), (.tuple #[.agg (aggT x), .agg (aggT y), .string p]), (.slice a0 len0 cap0), (.tuple #[.agg (aggT x), .agg (aggT y), .string p]), (.agg (aggT x)), (.agg (aggT y)), (.string p), (.agg (aggT x)), (.string p), (.bool true), (.bool false), (.bool false), (.agg (aggT y)), (.string p), (.bool true), (.bool false), (.bool false), undef, undef, undef, undef, undef, undef, undef, undef, undef, undef, undef, undef] (List.append [undef, undef, undef, undef, undef, undef, undef, undef, undef, undef, undef, (.agg (aggT x)), (.agg (aggT y)), (.string p), (.agg (aggT m)), (.agg (aggT x)), (.agg (aggT y)), (.string p), (.agg (aggT s)), (.agg (aggT x)), (.agg (aggT s)), (.string p), (.agg (aggT l)), (.agg (aggT x)), (.agg (aggT x)), (.string p), (.agg (aggT xx)), (.agg (aggT m)), (.string p), (.agg (aggT l)), undef, undef, undef, undef, undef, undef, undef, undef, undef, undef] (List.append [undef, undef, undef, undef, undef, undef, undef, undef, undef, undef, undef, undef, undef, undef, undef, undef, undef, undef, undef, undef, undef, undef, undef, undef, undef, undef, undef, undef, undef, undef, undef, undef, undef, undef, undef, undef, undef, undef, undef, undef] [undef, undef, undef, undef, undef, undef, undef, undef, undef, undef, undef, undef, undef, undef, undef, undef, undef, undef, undef, undef]))), defers := [] } (by kernel_rfl) ?_
          exact ⟨rfl, w1.heap.size, rfl, HG3.out.putAt HLe.out HN.out (aggT l)⟩
      · have HG1 := Lib.hid (HG0.out.new #[.string ⟨#[]⟩, .string ⟨#[]⟩] 25)
        have HN := Lib.hid HG0.out.h.apart
        have HLe := Lib.hid HG0.out.b.size
        have HS1 := Lib.hid HG1.out.h.tail
        refine sq_alloc (some 9) 25 #[.string ⟨#[]⟩, .string ⟨#[]⟩] (by kernel_rfl) (by kernel_rfl) (by kernel_rfl) (by kernel_rfl) (zero_pair _) HS1.out ?_
        generalize w0.alloc (.cells #[.string ⟨#[]⟩, .string ⟨#[]⟩] 25) = w1 at *
        refine sq_done ?_
        refine m_mask (M' := 183) (by kernel_rfl) ?_
        refine m_seq (f := 0) [⟨0, some 63, [3]⟩, ⟨0, some 64, [3]⟩, ⟨0, some 65, [5]⟩, ⟨7, some 66, [63, 64, 65]⟩, ⟨0, some 67, [6]⟩, ⟨0, some 68, [5]⟩, ⟨56, some 69, [66, 67, 68]⟩, ⟨0, some 9, []⟩, ⟨255, none, [9, 69]⟩] [(false, 3), (false, 6), (false, 8)] 511 (by kernel_rfl) (by kernel_rfl) (fun _ _ _ _ _ h => by cases h.1) (by kernel_rfl) (by kernel_rfl) (by kernel_rfl) HS1.out ?_
        refine sq_fn (some 66) [.agg (aggT x), .agg (aggT x), .string p] Try.func18 (by kernel_rfl) (by kernel_rfl) (by kernel_rfl) (by kernel_rfl) (by kernel_rfl) (by kernel_rfl) ?_
        refine ((Cxx.out _)).mono ?_
        rintro e w2 ⟨rfl, bw2⟩
        have HG2 := Lib.hid (HG1.out.on bw2)
        have HS2 := Lib.hid HG2.out.h.tail
        refine ⟨_, rfl, HS2.out, ?_⟩
        refine sq_fn (some 69) [.agg (aggT xx), .agg (aggT m), .string p] Try.func17 (by kernel_rfl) (by kernel_rfl) (by kernel_rfl) (by kernel_rfl) (by kernel_rfl) (by kernel_rfl) ?_
        refine ((Crr.out _)).mono ?_
        rintro e w3 ⟨rfl, bw3⟩
        have HG3 := Lib.hid (HG2.out.on bw3)
        have HS3 := Lib.hid HG3.out.h.tail
        refine ⟨_, rfl, HS3.out, ?_⟩
        refine sq_store 25 (.tmp 9) (.tmp 69) w0.heap.size #[.string ⟨#[]⟩, .string ⟨#[]⟩] (aggT l) (by kernel_rfl) (by kernel_rfl) (by kernel_rfl) (by kernel_rfl) (by kernel_rfl) (by kernel_rfl) (HG3.out.h _ (.head _)) Try.infoP rfl (by simp [aggT, Value.oneCell']) (HS3.out.setRow HN.out) ?_
        refine sq_done ?_
        refine m_done [⟨0, some 63, [3]⟩, ⟨0, some 64, [3]⟩, ⟨0, some 65, [5]⟩, ⟨7, some 66, [63, 64, 65]⟩, ⟨0, some 67, [6]⟩, ⟨0, some 68, [5]⟩, ⟨56, some 69, [66, 67, 68]⟩, ⟨0, some 9, []⟩, ⟨255, none, [9, 69]⟩] (by kernel_rfl) (by kernel_rfl) { tmps := List.toArray (List.append [(.slice a0 len0 cap0), undef, (.bool false), (.pointer (some ⟨gx, 0, none⟩)), (.pointer (some ⟨gy, 0, none⟩)), (.string p), (.pointer (some ⟨gm, 0, none⟩)), (.pointer (some ⟨gs, 0, none⟩)), (.pointer (some ⟨gl, 0, none⟩)), (.pointer (some ⟨w0.heap.size, 0, none⟩)), (.slice a0 len0 cap0), (.bool false), (.tuple #[.agg (aggT x), .agg (aggT y), .string p]), (.slice a0 len0 cap0), (.tuple #[.agg (aggT x), .agg (aggT y), .string p]), (.agg (aggT x)), (.agg (aggT y)), (.string p), (.agg (aggT x)), (.string p), (.bool true), (.bool false), (.bool false), (.agg (aggT y)), (.string p), (.bool true), (.bool false), (.bool false), undef, undef, undef, undef, undef, undef, undef, undef, undef, undef, undef, undef] (List.append [undef, undef, undef, undef, undef, undef, undef, undef, undef, undef, undef, (.agg (aggT x)), (.agg (aggT y)), (.string p), (.agg (aggT m)), (.agg (aggT x)), (.agg (aggT y)), (.string p), (.agg (aggT s)), (.agg (aggT x)), (.agg (aggT s)), (.string p), (.agg (aggT l)), (.agg (aggT x)), (.agg (aggT x)), (.string p), (.agg (aggT xx)), (.agg (aggT m)), (.string p), (.agg (aggT l)), undef, undef, undef, undef, undef, undef, undef, undef, undef, undef] (List.append [undef, undef, undef, undef, undef, undef, undef, undef, undef, undef, undef, undef, undef, undef, undef, undef, undef, undef, undef, undef, undef, undef, undef, undef, undef, undef, undef, undef, undef, undef, undef, undef, undef, undef, undef, undef, undef, undef, undef, undef] [undef, undef, undef, undef, undef, undef, undef, undef, undef, undef, undef, undef, undef, undef, undef, undef, undef, undef, undef, undef]))), defers := [] } (by kernel_rfl) ?_
        exact ⟨rfl, w0.heap.size, rfl, HG3.out.putAt HLe.out HN.out (aggT l)⟩
    clear HG0 HS0 Fx Fy Fm Fs Fl Cxx Crr
    rintro e a wb ⟨rfl, ga, rfl, hg⟩
    obtain ⟨L2, hL2⟩ : ∃ L2, (ga, aggT l, 25) :: LL = L2 := ⟨_, rfl⟩
    have HMr : Hid ((ga, aggT l, 25) ∈ L2) := by rw [← hL2]; exact .head _
    replace HMx : Hid ((gx, aggT x, 25) ∈ L2) := by rw [← hL2]; exact .tail _ HMx.out
    replace HMy : Hid ((gy, aggT y, 25) ∈ L2) := by rw [← hL2]; exact .tail _ HMy.out
    replace HMm : Hid ((gm, aggT m, 25) ∈ L2) := by rw [← hL2]; exact .tail _ HMm.out
    replace HMs : Hid ((gs, aggT s, 25) ∈ L2) := by rw [← hL2]; exact .tail _ HMs.out
    replace HMl : Hid ((gl, aggT l, 25) ∈ L2) := by rw [← hL2]; exact .tail _ HMl.out
    rw [hL2] at hg
    have HG0 := Lib.hid hg.drew
    clear hL2 hg
    have HS0 := Lib.hid HG0.out.h
    have Fx := Lib.hid (show ∀ w', Held w' L2 → (Instr.loadAt 25 (.pointer (some ⟨gx, 0, none⟩))).run Try.prog w' = .ok (.agg (aggT x)) w' from fun w' hw => pair_load (hw _ HMx.out))
    have Fy := Lib.hid (show ∀ w', Held w' L2 → (Instr.loadAt 25 (.pointer (some ⟨gy, 0, none⟩))).run Try.prog w' = .ok (.agg (aggT y)) w' from fun w' hw => pair_load (hw _ HMy.out))
    have Fm := Lib.hid (show ∀ w', Held w' L2 → (Instr.loadAt 25 (.pointer (some ⟨gm, 0, none⟩))).run Try.prog w' = .ok (.agg (aggT m)) w' from fun w' hw => pair_load (hw _ HMm.out))
    have Fs := Lib.hid (show ∀ w', Held w' L2 → (Instr.loadAt 25 (.pointer (some ⟨gs, 0, none⟩))).run Try.prog w' = .ok (.agg (aggT s)) w' from fun w' hw => pair_load (hw _ HMs.out))
    have Fl := Lib.hid (show ∀ w', Held w' L2 → (Instr.loadAt 25 (.pointer (some ⟨gl, 0, none⟩))).run Try.prog w' = .ok (.agg (aggT l)) w' from fun w' hw => pair_load (hw _ HMl.out))
    have Fr := Lib.hid (show ∀ w', Held w' L2 → (Instr.loadAt 25 (.pointer (some ⟨ga, 0, none⟩))).run Try.prog w' = .ok (.agg (aggT l)) w' from fun w' hw => pair_load (hw _ HMr.out))
    refine (by assumption : ∀ (a : Act) (w_1 : World), Code.wp _ _ _ a w_1 → _) _ _ ?_
    go_step
    refine wp_region_seq (S := fun w' => Held w' L2) [⟨0, some 70, [3]⟩, ⟨0, some 71, [5]⟩, ⟨3, some 72, [70, 71]⟩, ⟨4, some 73, [72]⟩, ⟨8, some 74, [6, 73]⟩, ⟨8, some 75, [4, 73]⟩, ⟨8, some 76, [3, 73]⟩, ⟨8, some 77, [5, 73]⟩, ⟨232, some 78, [75, 76, 77, 73]⟩, ⟨280, some 79, [74, 78, 73]⟩, ⟨520, some 80, [73, 79]⟩, ⟨1280, some 81, [80]⟩, ⟨2048, some 82, [8, 81]⟩, ⟨2048, some 83, [9, 81]⟩, ⟨14336, some 84, [82, 83, 81]⟩, ⟨18432, some 85, [81, 84]⟩, ⟨34816, some 86, [85]⟩, ⟨65536, some 87, [7, 86]⟩, ⟨65536, some 88, [4, 86]⟩, ⟨65536, some 89, [5, 86]⟩, ⟨983040, some 90, [87, 88, 89, 86]⟩, ⟨65536, some 91, [3, 86]⟩, ⟨3211264, some 92, [90, 91, 86]⟩, ⟨4259840, some 93, [86, 92]⟩, ⟨9437184, some 94, [93]⟩, ⟨16777216, some 95, [6, 94]⟩, ⟨16777216, some 96, [5, 94]⟩, ⟨117440512, some 97, [95, 96, 94]⟩, ⟨16777216, some 98, [3, 94]⟩, ⟨16777216, some 99, [5, 94]⟩, ⟨956301312, some 100, [98, 99, 94]⟩, ⟨16777216, some 101, [4, 94]⟩, ⟨16777216, some 102, [5, 94]⟩, ⟨7532969984, some 103, [101, 102, 94]⟩, ⟨16777216, some 104, [5, 94]⟩, ⟨26860322816, some 105, [100, 103, 104, 94]⟩, ⟨34510733312, some 106, [97, 105, 94]⟩, ⟨68736253952, some 107, [94, 106]⟩, ⟨171798691840, some 108, [107]⟩, ⟨274877906944, some 109, [3, 108]⟩, ⟨274877906944, some 110, [3, 108]⟩, ⟨274877906944, some 111, [5, 108]⟩, ⟨3573412790272, some 112, [110, 111, 108]⟩, ⟨274877906944, some 113, [5, 108]⟩, ⟨14018773254144, some 114, [109, 112, 113, 108]⟩, ⟨274877906944, some 115, [108]⟩, ⟨53051436040192, some 116, [114, 115, 108]⟩, ⟨70643622084608, some 117, [108, 116]⟩, ⟨158329674399744, some 118, [117]⟩, ⟨281474976710656, some 119, [3, 118]⟩, ⟨281474976710656, some 120, [3, 118]⟩, ⟨281474976710656, some 121, [5, 118]⟩, ⟨3659174697238528, some 122, [120, 121, 118]⟩, ⟨281474976710656, some 123, [5, 118]⟩, ⟨14355223812243456, some 124, [119, 122, 123, 118]⟩, ⟨281474976710656, some 125, [3, 118]⟩, ⟨281474976710656, some 126, [5, 118]⟩, ⟨126382264543084544, some 127, [125, 126, 118]⟩, ⟨144396663052566528, some 128, [127, 118]⟩, ⟨306526249637904384, some 129, [124, 128, 118]⟩, ⟨576742227280134144, some 130, [118, 129]⟩, ⟨1297036692682702848, some 131, [130]⟩, ⟨2305843009213693952, some 132, [131]⟩, ⟨6917529027641081856, some 133, [132, 131]⟩, ⟨6917529027641081856, some 134, [131]⟩, ⟨20752587082923245568, some 135, [134, 131]⟩, ⟨66869447267197124608, some 136, [133, 135, 131]⟩, ⟨2305843009213693952, some 137, [131]⟩, ⟨223666771893728313344, some 138, [136, 137, 131]⟩, ⟨297453748188566519808, some 139, [131, 138]⟩, ⟨1180591620717411303423, some 2, [139]⟩] [(true, 0), (true, 1), (false, 2), (true, 3), (true, 4), (true, 5), (true, 6), (true, 7), (false, 8), (true, 9), (true, 10), (true, 11), (true, 12), (true, 13), (true, 14), (true, 15), (true, 16), (true, 17), (true, 18), (true, 19), (true, 21), (false, 20), (true, 22), (true, 23), (true, 24), (true, 25), (true, 26), (true, 28), (true, 29), (true, 31), (true, 32), (true, 34), (false, 27), (false, 30), (false, 33), (false, 35), (true, 36), (true, 37), (true, 38), (true, 39), (true, 40), (true, 41), (true, 43), (true, 45), (false, 42), (false, 44), (true, 46), (true, 47), (true, 48), (true, 49), (true, 50), (true, 51), (true, 53), (true, 55), (true, 56), (false, 52), (false, 54), (false, 57), (true, 58), (true, 59), (true, 60), (true, 61), (true, 67), (false, 62), (true, 63), (false, 64), (true, 65), (false, 66), (true, 68), (true, 69), (true, 70)] (by kernel_rfl) (by kernel_rfl) (by kernel_rfl) (by kernel_rfl) (by kernel_rfl) (by kernel_rfl) (fun d _ _ _ _ h => by cases d <;> exact h) HS0.out ?_
    change seqH _ _ _ _ _ _ _ wb.drew
    generalize wb.drew = w0 at *
    refine SQ.out ?_
    refine g_held (some 70) (.agg (aggT x)) (by kernel_rfl) (by kernel_rfl) (held_load 25 (.tmp 3) (by kernel_rfl) _ _ (by kernel_rfl) Fx.out) ?_
    refine g_pure (some 71) (.string p) (by kernel_rfl) (by kernel_rfl) (fun _ => (by kernel_rfl)) ?_
    refine g_norm { tmps := List.toArray (List.append [(.slice a0 len0 cap0), undef, (.bool false), (.pointer (some ⟨gx, 0, none⟩)), (.pointer (some ⟨gy, 0, none⟩)), (.string p), (.pointer (some ⟨gm, 0, none⟩)), (.pointer (some ⟨gs, 0, none⟩)), (.pointer (some ⟨gl, 0, none⟩)), (.pointer (some ⟨ga, 0, none⟩)), (.slice a0 len0 cap0), (.bool false), (.tuple #[.agg (aggT x), .agg (aggT y), .string p]), (.slice a0 len0 cap0), (.tuple #[.agg (aggT x), .agg (aggT y), .string p]), (.agg (aggT x)), (.agg (aggT y)), (.string p), (.agg (aggT x)), (.string p), (.bool true), (.bool false), (.bool false), (.agg (aggT y)), (.string p), (.bool true), (.bool false), (.bool false), undef, undef, undef, undef, undef, undef, undef, undef, undef, undef, undef, undef] (List.append [undef, undef, undef, undef, undef, undef, undef, undef, undef, undef, undef, (.agg (aggT x)), (.agg (aggT y)), (.string p), (.agg (aggT m)), (.agg (aggT x)), (.agg (aggT y)), (.string p), (.agg (aggT s)), (.agg (aggT x)), (.agg (aggT s)), (.string p), (.agg (aggT l)), (.agg (aggT x)), (.agg (aggT x)), (.string p), (.agg (aggT xx)), (.agg (aggT m)), (.string p), (.agg (aggT l)), (.agg (aggT x)), (.string p), undef, undef, undef, undef, undef, undef, undef, undef] (List.append [undef, undef, undef, undef, undef, undef, undef, undef, undef, undef, undef, undef, undef, undef, undef, undef, undef, undef, undef, undef, undef, undef, undef, undef, undef, undef, undef, undef, undef, undef, undef, undef, undef, undef, undef, undef, undef, undef, undef, undef] [undef, undef, undef, undef, undef, undef, undef, undef, undef, undef, undef, undef, undef, undef, undef, undef, undef, undef, undef, undef]))), defers := [] } (by kernel_rfl) ?_
    refine g_fn (some 72) [.agg (aggT x), .string p] Try.func20 (by kernel_rfl) (by kernel_rfl) (by kernel_rfl) (by kernel_rfl) (by kernel_rfl) (by kernel_rfl) ?_
    refine ((Cok.out _)).mono ?_
    rintro e w1 ⟨rfl, bw1⟩
    have HG1 := Lib.hid (HG0.out.on bw1)
    have HS1 := Lib.hid HG1.out.h
    refine ⟨_, rfl, HS1.out, ?_⟩
    refine g_pure (some 73) (.bool true) (by kernel_rfl) (by kernel_rfl) (fun _ => (by kernel_rfl)) ?_
    refine g_held (some 74) (.agg (aggT m)) (by kernel_rfl) (wanted_by (g := 3) (b := true) (d := 73) (by kernel_rfl) (by kernel_rfl) (by kernel_rfl) (by kernel_rfl)) (held_load 25 (.tmp 6) (by kernel_rfl) _ _ (by kernel_rfl) Fm.out) ?_
    refine g_held (some 75) (.agg (aggT y)) (by kernel_rfl) (wanted_by (g := 3) (b := true) (d := 73) (by kernel_rfl) (by kernel_rfl) (by kernel_rfl) (by kernel_rfl)) (held_load 25 (.tmp 4) (by kernel_rfl) _ _ (by kernel_rfl) Fy.out) ?_
    refine g_held (some 76) (.agg (aggT x)) (by kernel_rfl) (wanted_by (g := 3) (b := true) (d := 73) (by kernel_rfl) (by kernel_rfl) (by kernel_rfl) (by kernel_rfl)) (held_load 25 (.tmp 3) (by kernel_rfl) _ _ (by kernel_rfl) Fx.out) ?_
    refine g_pure (some 77) (.string p) (by kernel_rfl) (wanted_by (g := 3) (b := true) (d := 73) (by kernel_rfl) (by kernel_rfl) (by kernel_rfl) (by kernel_rfl)) (fun _ => (by kernel_rfl)) ?_
    refine g_norm { tmps := List.toArray (List.append [(.slice a0 len0 cap0), undef, (.bool false), (.pointer (some ⟨gx, 0, none⟩)), (.pointer (some ⟨gy, 0, none⟩)), (.string p), (.pointer (some ⟨gm, 0, none⟩)), (.pointer (some ⟨gs, 0, none⟩)), (.pointer (some ⟨gl, 0, none⟩)), (.pointer (some ⟨ga, 0, none⟩)), (.slice a0 len0 cap0), (.bool false), (.tuple #[.agg (aggT x), .agg (aggT y), .string p]), (.slice a0 len0 cap0), (.tuple #[.agg (aggT x), .agg (aggT y), .string p]), (.agg (aggT x)), (.agg (aggT y)), (.string p), (.agg (aggT x)), (.string p), (.bool true), (.bool false), (.bool false), (.agg (aggT y)), (.string p), (.bool true), (.bool false), (.bool false), undef, undef, undef, undef, undef, undef, undef, undef, undef, undef, undef, undef] (List.append [undef, undef, undef, undef, undef, undef, undef, undef, undef, undef, undef, (.agg (aggT x)), (.agg (aggT y)), (.string p), (.agg (aggT m)), (.agg (aggT x)), (.agg (aggT y)), (.string p), (.agg (aggT s)), (.agg (aggT x)), (.agg (aggT s)), (.string p), (.agg (aggT l)), (.agg (aggT x)), (.agg (aggT x)), (.string p), (.agg (aggT xx)), (.agg (aggT m)), (.string p), (.agg (aggT l)), (.agg (aggT x)), (.string p), (.bool true), (.bool true), (.agg (aggT m)), (.agg (aggT y)), (.agg (aggT x)), (.string p), undef, undef] (List.append [undef, undef, undef, undef, undef, undef, undef, undef, undef, undef, undef, undef, undef, undef, undef, undef, undef, undef, undef, undef, undef, undef, undef, undef, undef, undef, undef, undef, undef, undef, undef, undef, undef, undef, undef, undef, undef, undef, undef, undef] [undef, undef, undef, undef, undef, undef, undef, undef, undef, undef, undef, undef, undef, undef, undef, undef, undef, undef, undef, undef]))), defers := [] } (by kernel_rfl) ?_
    refine g_fn (some 78) [.agg (aggT y), .agg (aggT x), .string p] Try.func18 (by kernel_rfl) (by kernel_rfl) (by kernel_rfl) (by kernel_rfl) (wanted_by (g := 3) (b := true) (d := 73) (by kernel_rfl) (by kernel_rfl) (by kernel_rfl) (by kernel_rfl)) (by kernel_rfl) ?_
    refine ((Cyx.out _)).mono ?_
    rintro e w2 ⟨rfl, bw2⟩
    have HG2 := Lib.hid (HG1.out.on bw2)
    have HS2 := Lib.hid HG2.out.h
    refine ⟨_, rfl, HS2.out, ?_⟩
    refine g_take (some 79) (.bool true) (by kernel_rfl) (yields_eqP (wanted_by (g := 3) (b := true) (d := 73) (by kernel_rfl) (by kernel_rfl) (by kernel_rfl) (by kernel_rfl)) (.tmp 74) (.tmp 78) (by kernel_rfl) m (by kernel_rfl) (by kernel_rfl)) ?_
    refine g_pure (some 80) (.bool true) (by kernel_rfl) (by kernel_rfl) (fun _ => (by kernel_rfl)) ?_
    refine g_pure (some 81) (.bool true) (by kernel_rfl) (by kernel_rfl) (fun _ => (by kernel_rfl)) ?_
    refine g_held (some 82) (.agg (aggT l)) (by kernel_rfl) (wanted_by (g := 11) (b := true) (d := 81) (by kernel_rfl) (by kernel_rfl) (by kernel_rfl) (by kernel_rfl)) (held_load 25 (.tmp 8) (by kernel_rfl) _ _ (by kernel_rfl) Fl.out) ?_
    refine g_held (some 83) (.agg (aggT l)) (by kernel_rfl) (wanted_by (g := 11) (b := true) (d := 81) (by kernel_rfl) (by kernel_rfl) (by kernel_rfl) (by kernel_rfl)) (held_load 25 (.tmp 9) (by kernel_rfl) _ _ (by kernel_rfl) Fr.out) ?_
    refine g_take (some 84) (.bool true) (by kernel_rfl) (yields_eqP (wanted_by (g := 11) (b := true) (d := 81) (by kernel_rfl) (by kernel_rfl) (by kernel_rfl) (by kernel_rfl)) (.tmp 82) (.tmp 83) (by kernel_rfl) l (by kernel_rfl) (by kernel_rfl)) ?_
    refine g_pure (some 85) (.bool true) (by kernel_rfl) (by kernel_rfl) (fun _ => (by kernel_rfl)) ?_
    refine g_pure (some 86) (.bool true) (by kernel_rfl) (by kernel_rfl) (fun _ => (by kernel_rfl)) ?_
    refine g_held (some 87) (.agg (aggT s)) (by kernel_rfl) (wanted_by (g := 16) (b := true) (d := 86) (by kernel_rfl) (by kernel_rfl) (by kernel_rfl) (by kernel_rfl)) (held_load 25 (.tmp 7) (by kernel_rfl) _ _ (by kernel_rfl) Fs.out) ?_
    refine g_held (some 88) (.agg (aggT y)) (by kernel_rfl) (wanted_by (g := 16) (b := true) (d := 86) (by kernel_rfl) (by kernel_rfl) (by kernel_rfl) (by kernel_rfl)) (held_load 25 (.tmp 4) (by kernel_rfl) _ _ (by kernel_rfl) Fy.out) ?_
    refine g_pure (some 89) (.string p) (by kernel_rfl) (wanted_by (g := 16) (b := true) (d := 86) (by kernel_rfl) (by kernel_rfl) (by kernel_rfl) (by kernel_rfl)) (fun _ => (by kernel_rfl)) ?_
    refine g_held (some 91) (.agg (aggT x)) (by kernel_rfl) (wanted_by (g := 16) (b := true) (d := 86) (by kernel_rfl) (by kernel_rfl) (by kernel_rfl) (by kernel_rfl)) (held_load 25 (.tmp 3) (by kernel_rfl) _ _ (by kernel_rfl) Fx.out) ?_
    refine g_norm { tmps := List.toArray (List.append [(.slice a0 len0 cap0), undef, (.bool false), (.pointer (some ⟨gx, 0, none⟩)), (.pointer (some ⟨gy, 0, none⟩)), (.string p), (.pointer (some ⟨gm, 0, none⟩)), (.pointer (some ⟨gs, 0, none⟩)), (.pointer (some ⟨gl, 0, none⟩)), (.pointer (some ⟨ga, 0, none⟩)), (.slice a0 len0 cap0), (.bool false), (.tuple #[.agg (aggT x), .agg (aggT y), .string p]), (.slice a0 len0 cap0), (.tuple #[.agg (aggT x), .agg (aggT y), .string p]), (.agg (aggT x)), (.agg (aggT y)), (.string p), (.agg (aggT x)), (.string p), (.bool true), (.bool false), (.bool false), (.agg (aggT y)), (.string p), (.bool true), (.bool false), (.bool false), undef, undef, undef, undef, undef, undef, undef, undef, undef, undef, undef, undef] (List.append [undef, undef, undef, undef, undef, undef, undef, undef, undef, undef, undef, (.agg (aggT x)), (.agg (aggT y)), (.string p), (.agg (aggT m)), (.agg (aggT x)), (.agg (aggT y)), (.string p), (.agg (aggT s)), (.agg (aggT x)), (.agg (aggT s)), (.string p), (.agg (aggT l)), (.agg (aggT x)), (.agg (aggT x)), (.string p), (.agg (aggT xx)), (.agg (aggT m)), (.string p), (.agg (aggT l)), (.agg (aggT x)), (.string p), (.bool true), (.bool true), (.agg (aggT m)), (.agg (aggT y)), (.agg (aggT x)), (.string p), (.agg (aggT m)), (.bool true)] (List.append [(.bool true), (.bool true), (.agg (aggT l)), (.agg (aggT l)), (.bool true), (.bool true), (.bool true), (.agg (aggT s)), (.agg (aggT y)), (.string p), undef, (.agg (aggT x)), undef, undef, undef, undef, undef, undef, undef, undef, undef, undef, undef, undef, undef, undef, undef, undef, undef, undef, undef, undef, undef, undef, undef, undef, undef, undef, undef, undef] [undef, undef, undef, undef, undef, undef, undef, undef, undef, undef, undef, undef, undef, undef, undef, undef, undef, undef, undef, undef]))), defers := [] } (by kernel_rfl) ?_
    refine g_fn (some 90) [.agg (aggT s), .agg (aggT y), .string p] Try.func21 (by kernel_rfl) (by kernel_rfl) (by kernel_rfl) (by kernel_rfl) (wanted_by (g := 16) (b := true) (d := 86) (by kernel_rfl) (by kernel_rfl) (by kernel_rfl) (by kernel_rfl)) (by kernel_rfl) ?_
    refine ((Csub.out _)).mono ?_
    rintro e w3 ⟨rfl, bw3⟩
    have HG3 := Lib.hid (HG2.out.on bw3)
    have HS3 := Lib.hid HG3.out.h
    refine ⟨_, rfl, HS3.out, ?_⟩
    refine g_take (some 92) (.bool true) (by kernel_rfl) (yields_eqP (wanted_by (g := 16) (b := true) (d := 86) (by kernel_rfl) (by kernel_rfl) (by kernel_rfl) (by kernel_rfl)) (.tmp 90) (.tmp 91) (by kernel_rfl) x (by kernel_rfl) (by kernel_rfl)) ?_
    refine g_pure (some 93) (.bool true) (by kernel_rfl) (by kernel_rfl) (fun _ => (by kernel_rfl)) ?_
    refine g_pure (some 94) (.bool true) (by kernel_rfl) (by kernel_rfl) (fun _ => (by kernel_rfl)) ?_
    refine g_held (some 95) (.agg (aggT m)) (by kernel_rfl) (wanted_by (g := 24) (b := true) (d := 94) (by kernel_rfl) (by kernel_rfl) (by kernel_rfl) (by kernel_rfl)) (held_load 25 (.tmp 6) (by kernel_rfl) _ _ (by kernel_rfl) Fm.out) ?_
    refine g_pure (some 96) (.string p) (by kernel_rfl) (wanted_by (g := 24) (b := true) (d := 94) (by kernel_rfl) (by kernel_rfl) (by kernel_rfl) (by kernel_rfl)) (fun _ => (by kernel_rfl)) ?_
    refine g_held (some 98) (.agg (aggT x)) (by kernel_rfl) (wanted_by (g := 24) (b := true) (d := 94) (by kernel_rfl) (by kernel_rfl) (by kernel_rfl) (by kernel_rfl)) (held_load 25 (.tmp 3) (by kernel_rfl) _ _ (by kernel_rfl) Fx.out) ?_
    refine g_pure (some 99) (.string p) (by kernel_rfl) (wanted_by (g := 24) (b := true) (d := 94) (by kernel_rfl) (by kernel_rfl) (by kernel_rfl) (by kernel_rfl)) (fun _ => (by kernel_rfl)) ?_
    refine g_held (some 101) (.agg (aggT y)) (by kernel_rfl) (wanted_by (g := 24) (b := true) (d := 94) (by kernel_rfl) (by kernel_rfl) (by kernel_rfl) (by kernel_rfl)) (held_load 25 (.tmp 4) (by kernel_rfl) _ _ (by kernel_rfl) Fy.out) ?_
    refine g_pure (some 102) (.string p) (by kernel_rfl) (wanted_by (g := 24) (b := true) (d := 94) (by kernel_rfl) (by kernel_rfl) (by kernel_rfl) (by kernel_rfl)) (fun _ => (by kernel_rfl)) ?_
    refine g_pure (some 104) (.string p) (by kernel_rfl) (wanted_by (g := 24) (b := true) (d := 94) (by kernel_rfl) (by kernel_rfl) (by kernel_rfl) (by kernel_rfl)) (fun _ => (by kernel_rfl)) ?_
    refine g_norm { tmps := List.toArray (List.append [(.slice a0 len0 cap0), undef, (.bool false), (.pointer (some ⟨gx, 0, none⟩)), (.pointer (some ⟨gy, 0, none⟩)), (.string p), (.pointer (some ⟨gm, 0, none⟩)), (.pointer (some ⟨gs, 0, none⟩)), (.pointer (some ⟨gl, 0, none⟩)), (.pointer (some ⟨ga, 0, none⟩)), (.slice a0 len0 cap0), (.bool false), (.tuple #[.agg (aggT x), .agg (aggT y), .string p]), (.slice a0 len0 cap0), (.tuple #[.agg (aggT x), .agg (aggT y), .string p]), (.agg (aggT x)), (.agg (aggT y)), (.string p), (.agg (aggT x)), (.string p), (.bool true), (.bool false), (.bool false), (.agg (aggT y)), (.string p), (.bool true), (.bool false), (.bool false), undef, undef, undef, undef, undef, undef, undef, undef, undef, undef, undef, undef] (List.append [undef, undef, undef, undef, undef, undef, undef, undef, undef, undef, undef, (.agg (aggT x)), (.agg (aggT y)), (.string p), (.agg (aggT m)), (.agg (aggT x)), (.agg (aggT y)), (.string p), (.agg (aggT s)), (.agg (aggT x)), (.agg (aggT s)), (.string p), (.agg (aggT l)), (.agg (aggT x)), (.agg (aggT x)), (.string p), (.agg (aggT xx)), (.agg (aggT m)), (.string p), (.agg (aggT l)), (.agg (aggT x)), (.string p), (.bool true), (.bool true), (.agg (aggT m)), (.agg (aggT y)), (.agg (aggT x)), (.string p), (.agg (aggT m)), (.bool true)] (List.append [(.bool true), (.bool true), (.agg (aggT l)), (.agg (aggT l)), (.bool true), (.bool true), (.bool true), (.agg (aggT s)), (.agg (aggT y)), (.string p), (.agg (aggT x)), (.agg (aggT x)), (.bool true), (.bool true), (.bool true), (.agg (aggT m)), (.string p), undef, (.agg (aggT x)), (.string p), undef, (.agg (aggT y)), (.string p), undef, (.string p), undef, undef, undef, undef, undef, undef, undef, undef, undef, undef, undef, undef, undef, undef, undef] [undef, undef, undef, undef, undef, undef, undef, undef, undef, undef, undef, undef, undef, undef, undef, undef, undef, undef, undef, undef]))), defers := [] } (by kernel_rfl) ?_
    refine g_fn (some 97) [.agg (aggT m), .string p] Try.func22 (by kernel_rfl) (by kernel_rfl) (by kernel_rfl) (by kernel_rfl) (wanted_by (g := 24) (b := true) (d := 94) (by kernel_rfl) (by kernel_rfl) (by kernel_rfl) (by kernel_rfl)) (by kernel_rfl) ?_
    refine ((Cnm.out _)).mono ?_
    rintro e w4 ⟨rfl, bw4⟩
    have HG4 := Lib.hid (HG3.out.on bw4)
    have HS4 := Lib.hid HG4.out.h
    refine ⟨_, rfl, HS4.out, ?_⟩
    refine g_norm { tmps := List.toArray (List.append [(.slice a0 len0 cap0), undef, (.bool false), (.pointer (some ⟨gx, 0, none⟩)), (.pointer (some ⟨gy, 0, none⟩)), (.string p), (.pointer (some ⟨gm, 0, none⟩)), (.pointer (some ⟨gs, 0, none⟩)), (.pointer (some ⟨gl, 0, none⟩)), (.pointer (some ⟨ga, 0, none⟩)), (.slice a0 len0 cap0), (.bool false), (.tuple #[.agg (aggT x), .agg (aggT y), .string p]), (.slice a0 len0 cap0), (.tuple #[.agg (aggT x), .agg (aggT y), .string p]), (.agg (aggT x)), (.agg (aggT y)), (.string p), (.agg (aggT x)), (.string p), (.bool true), (.bool false), (.bool false), (.agg (aggT y)), (.string p), (.bool true), (.bool false), (.bool false), undef, undef, undef, undef, undef, undef, undef, undef, undef, undef, undef, undef] (List.append [undef, undef, undef, undef, undef, undef, undef, undef, undef, undef, undef, (.agg (aggT x)), (.agg (aggT y)), (.string p), (.agg (aggT m)), (.agg (aggT x)), (.agg (aggT y)), (.string p), (.agg (aggT s)), (.agg (aggT x)), (.agg (aggT s)), (.string p), (.agg (aggT l)), (.agg (aggT x)), (.agg (aggT x)), (.string p), (.agg (aggT xx)), (.agg (aggT m)), (.string p), (.agg (aggT l)), (.agg (aggT x)), (.string p), (.bool true), (.bool true), (.agg (aggT m)), (.agg (aggT y)), (.agg (aggT x)), (.string p), (.agg (aggT m)), (.bool true)] (List.append [(.bool true), (.bool true), (.agg (aggT l)), (.agg (aggT l)), (.bool true), (.bool true), (.bool true), (.agg (aggT s)), (.agg (aggT y)), (.string p), (.agg (aggT x)), (.agg (aggT x)), (.bool true), (.bool true), (.bool true), (.agg (aggT m)), (.string p), (.string nm), (.agg (aggT x)), (.string p), undef, (.agg (aggT y)), (.string p), undef, (.string p), undef, undef, undef, undef, undef, undef, undef, undef, undef, undef, undef, undef, undef, undef, undef] [undef, undef, undef, undef, undef, undef, undef, undef, undef, undef, undef, undef, undef, undef, undef, undef, undef, undef, undef, undef]))), defers := [] } (by kernel_rfl) ?_
    refine g_fn (some 100) [.agg (aggT x), .string p] Try.func22 (by kernel_rfl) (by kernel_rfl) (by kernel_rfl) (by kernel_rfl) (wanted_by (g := 24) (b := true) (d := 94) (by kernel_rfl) (by kernel_rfl) (by kernel_rfl) (by kernel_rfl)) (by kernel_rfl) ?_
    refine ((Cnx.out _)).mono ?_
    rintro e w5 ⟨rfl, bw5⟩
    have HG5 := Lib.hid (HG4.out.on bw5)
    have HS5 := Lib.hid HG5.out.h
    refine ⟨_, rfl, HS5.out, ?_⟩
    refine g_norm { tmps := List.toArray (List.append [(.slice a0 len0 cap0), undef, (.bool false), (.pointer (some ⟨gx, 0, none⟩)), (.pointer (some ⟨gy, 0, none⟩)), (.string p), (.pointer (some ⟨gm, 0, none⟩)), (.pointer (some ⟨gs, 0, none⟩)), (.pointer (some ⟨gl, 0, none⟩)), (.pointer (some ⟨ga, 0, none⟩)), (.slice a0 len0 cap0), (.bool false), (.tuple #[.agg (aggT x), .agg (aggT y), .string p]), (.slice a0 len0 cap0), (.tuple #[.agg (aggT x), .agg (aggT y), .string p]), (.agg (aggT x)), (.agg (aggT y)), (.string p), (.agg (aggT x)), (.string p), (.bool true), (.bool false), (.bool false), (.agg (aggT y)), (.string p), (.bool true), (.bool false), (.bool false), undef, undef, undef, undef, undef, undef, undef, undef, undef, undef, undef, undef] (List.append [undef, undef, undef, undef, undef, undef, undef, undef, undef, undef, undef, (.agg (aggT x)), (.agg (aggT y)), (.string p), (.agg (aggT m)), (.agg (aggT x)), (.agg (aggT y)), (.string p), (.agg (aggT s)), (.agg (aggT x)), (.agg (aggT s)), (.string p), (.agg (aggT l)), (.agg (aggT x)), (.agg (aggT x)), (.string p), (.agg (aggT xx)), (.agg (aggT m)), (.string p), (.agg (aggT l)), (.agg (aggT x)), (.string p), (.bool true), (.bool true), (.agg (aggT m)), (.agg (aggT y)), (.agg (aggT x)), (.string p), (.agg (aggT m)), (.bool true)] (List.append [(.bool true), (.bool true), (.agg (aggT l)), (.agg (aggT l)), (.bool true), (.bool true), (.bool true), (.agg (aggT s)), (.agg (aggT y)), (.string p), (.agg (aggT x)), (.agg (aggT x)), (.bool true), (.bool true), (.bool true), (.agg (aggT m)), (.string p), (.string nm), (.agg (aggT x)), (.string p), (.string nx), (.agg (aggT y)), (.string p), undef, (.string p), undef, undef, undef, undef, undef, undef, undef, undef, undef, undef, undef, undef, undef, undef, undef] [undef, undef, undef, undef, undef, undef, undef, undef, undef, undef, undef, undef, undef, undef, undef, undef, undef, undef, undef, undef]))), defers := [] } (by kernel_rfl) ?_
    refine g_fn (some 103) [.agg (aggT y), .string p] Try.func22 (by kernel_rfl) (by kernel_rfl) (by kernel_rfl) (by kernel_rfl) (wanted_by (g := 24) (b := true) (d := 94) (by kernel_rfl) (by kernel_rfl) (by kernel_rfl) (by kernel_rfl)) (by kernel_rfl) ?_
    refine ((Cny.out _)).mono ?_
    rintro e w6 ⟨rfl, bw6⟩
    have HG6 := Lib.hid (HG5.out.on bw6)
    have HS6 := Lib.hid HG6.out.h
    refine ⟨_, rfl, HS6.out, ?_⟩
    refine g_norm { tmps := List.toArray (List.append [(.slice a0 len0 cap0), undef, (.bool false), (.pointer (some ⟨gx, 0, none⟩)), (.pointer (some ⟨gy, 0, none⟩)), (.string p), (.pointer (some ⟨gm, 0, none⟩)), (.pointer (some ⟨gs, 0, none⟩)), (.pointer (some ⟨gl, 0, none⟩)), (.pointer (some ⟨ga, 0, none⟩)), (.slice a0 len0 cap0), (.bool false), (.tuple #[.agg (aggT x), .agg (aggT y), .string p]), (.slice a0 len0 cap0), (.tuple #[.agg (aggT x), .agg (aggT y), .string p]), (.agg (aggT x)), (.agg (aggT y)), (.string p), (.agg (aggT x)), (.string p), (.bool true), (.bool false), (.bool false), (.agg (aggT y)), (.string p), (.bool true), (.bool false), (.bool false), undef, undef, undef, undef, undef, undef, undef, undef, undef, undef, undef, undef] (List.append [undef, undef, undef, undef, undef, undef, undef, undef, undef, undef, undef, (.agg (aggT x)), (.agg (aggT y)), (.string p), (.agg (aggT m)), (.agg (aggT x)), (.agg (aggT y)), (.string p), (.agg (aggT s)), (.agg (aggT x)), (.agg (aggT s)), (.string p), (.agg (aggT l)), (.agg (aggT x)), (.agg (aggT x)), (.string p), (.agg (aggT xx)), (.agg (aggT m)), (.string p), (.agg (aggT l)), (.agg (aggT x)), (.string p), (.bool true), (.bool true), (.agg (aggT m)), (.agg (aggT y)), (.agg (aggT x)), (.string p), (.agg (aggT m)), (.bool true)] (List.append [(.bool true), (.bool true), (.agg (aggT l)), (.agg (aggT l)), (.bool true), (.bool true), (.bool true), (.agg (aggT s)), (.agg (aggT y)), (.string p), (.agg (aggT x)), (.agg (aggT x)), (.bool true), (.bool true), (.bool true), (.agg (aggT m)), (.string p), (.string nm), (.agg (aggT x)), (.string p), (.string nx), (.agg (aggT y)), (.string p), (.string ny), (.string p), undef, undef, undef, undef, undef, undef, undef, undef, undef, undef, undef, undef, undef, undef, undef] [undef, undef, undef, undef, undef, undef, undef, undef, undef, undef, undef, undef, undef, undef, undef, undef, undef, undef, undef, undef]))), defers := [] } (by kernel_rfl) ?_
    refine g_fn (some 105) [.string nx, .string ny, .string p] Try.func23 (by kernel_rfl) (by kernel_rfl) (by kernel_rfl) (by kernel_rfl) (wanted_by (g := 24) (b := true) (d := 94) (by kernel_rfl) (by kernel_rfl) (by kernel_rfl) (by kernel_rfl)) (by kernel_rfl) ?_
    refine ((Cmr.out _)).mono ?_
    rintro e w7 ⟨rfl, bw7⟩
    have HG7 := Lib.hid (HG6.out.on bw7)
    have HS7 := Lib.hid HG7.out.h
    refine ⟨_, rfl, HS7.out, ?_⟩
    refine g_take (some 106) (.bool true) (by kernel_rfl) (yields_eqT (wanted_by (g := 24) (b := true) (d := 94) (by kernel_rfl) (by kernel_rfl) (by kernel_rfl) (by kernel_rfl)) (.tmp 97) (.tmp 105) (by kernel_rfl) nm (by kernel_rfl) (by kernel_rfl)) ?_
    refine g_pure (some 107) (.bool true) (by kernel_rfl) (by kernel_rfl) (fun _ => (by kernel_rfl)) ?_
    refine g_pure (some 108) (.bool true) (by kernel_rfl) (by kernel_rfl) (fun _ => (by kernel_rfl)) ?_
    refine g_held (some 109) (.agg (aggT x)) (by kernel_rfl) (wanted_by (g := 38) (b := true) (d := 108) (by kernel_rfl) (by kernel_rfl) (by kernel_rfl) (by kernel_rfl)) (held_load 25 (.tmp 3) (by kernel_rfl) _ _ (by kernel_rfl) Fx.out) ?_
    refine g_held (some 110) (.agg (aggT x)) (by kernel_rfl) (wanted_by (g := 38) (b := true) (d := 108) (by kernel_rfl) (by kernel_rfl) (by kernel_rfl) (by kernel_rfl)) (held_load 25 (.tmp 3) (by kernel_rfl) _ _ (by kernel_rfl) Fx.out) ?_
    refine g_pure (some 111) (.string p) (by kernel_rfl) (wanted_by (g := 38) (b := true) (d := 108) (by kernel_rfl) (by kernel_rfl) (by kernel_rfl) (by kernel_rfl)) (fun _ => (by kernel_rfl)) ?_
    refine g_pure (some 113) (.string p) (by kernel_rfl) (wanted_by (g := 38) (b := true) (d := 108) (by kernel_rfl) (by kernel_rfl) (by kernel_rfl) (by kernel_rfl)) (fun _ => (by kernel_rfl)) ?_
    refine g_pure (some 115) (.agg (aggT noP)) (by kernel_rfl) (wanted_by (g := 38) (b := true) (d := 108) (by kernel_rfl) (by kernel_rfl) (by kernel_rfl) (by kernel_rfl)) (held_build 25 #[] (by kernel_rfl) _ (by kernel_rfl) _ built_pair0) ?_
    refine g_norm { tmps := List.toArray (List.append [(.slice a0 len0 cap0), undef, (.bool false), (.pointer (some ⟨gx, 0, none⟩)), (.pointer (some ⟨gy, 0, none⟩)), (.string p), (.pointer (some ⟨gm, 0, none⟩)), (.pointer (some ⟨gs, 0, none⟩)), (.pointer (some ⟨gl, 0, none⟩)), (.pointer (some ⟨ga, 0, none⟩)), (.slice a0 len0 cap0), (.bool false), (.tuple #[.agg (aggT x), .agg (aggT y), .string p]), (.slice a0 len0 cap0), (.tuple #[.agg (aggT x), .agg (aggT y), .string p]), (.agg (aggT x)), (.agg (aggT y)), (.string p), (.agg (aggT x)), (.string p), (.bool true), (.bool false), (.bool false), (.agg (aggT y)), (.string p), (.bool true), (.bool false), (.bool false), undef, undef, undef, undef, undef, undef, undef, undef, undef, undef, undef, undef] (List.append [undef, undef, undef, undef, undef, undef, undef, undef, undef, undef, undef, (.agg (aggT x)), (.agg (aggT y)), (.string p), (.agg (aggT m)), (.agg (aggT x)), (.agg (aggT y)), (.string p), (.agg (aggT s)), (.agg (aggT x)), (.agg (aggT s)), (.string p), (.agg (aggT l)), (.agg (aggT x)), (.agg (aggT x)), (.string p), (.agg (aggT xx)), (.agg (aggT m)), (.string p), (.agg (aggT l)), (.agg (aggT x)), (.string p), (.bool true), (.bool true), (.agg (aggT m)), (.agg (aggT y)), (.agg (aggT x)), (.string p), (.agg (aggT m)), (.bool true)] (List.append [(.bool true), (.bool true), (.agg (aggT l)), (.agg (aggT l)), (.bool true), (.bool true), (.bool true), (.agg (aggT s)), (.agg (aggT y)), (.string p), (.agg (aggT x)), (.agg (aggT x)), (.bool true), (.bool true), (.bool true), (.agg (aggT m)), (.string p), (.string nm), (.agg (aggT x)), (.string p), (.string nx), (.agg (aggT y)), (.string p), (.string ny), (.string p), (.string nm), (.bool true), (.bool true), (.bool true), (.agg (aggT x)), (.agg (aggT x)), (.string p), undef, (.string p), undef, (.agg (aggT noP)), undef, undef, undef, undef] [undef, undef, undef, undef, undef, undef, undef, undef, undef, undef, undef, undef, undef, undef, undef, undef, undef, undef, undef, undef]))), defers := [] } (by kernel_rfl) ?_
    refine g_fn (some 112) [.agg (aggT x), .string p] Try.func24 (by kernel_rfl) (by kernel_rfl) (by kernel_rfl) (by kernel_rfl) (wanted_by (g := 38) (b := true) (d := 108) (by kernel_rfl) (by kernel_rfl) (by kernel_rfl) (by kernel_rfl)) (by kernel_rfl) ?_
    refine ((Cneg.out _)).mono ?_
    rintro e w8 ⟨rfl, bw8⟩
    have HG8 := Lib.hid (HG7.out.on bw8)
    have HS8 := Lib.hid HG8.out.h
    refine ⟨_, rfl, HS8.out, ?_⟩
    refine g_norm { tmps := List.toArray (List.append [(.slice a0 len0 cap0), undef, (.bool false), (.pointer (some ⟨gx, 0, none⟩)), (.pointer (some ⟨gy, 0, none⟩)), (.string p), (.pointer (some ⟨gm, 0, none⟩)), (.pointer (some ⟨gs, 0, none⟩)), (.pointer (some ⟨gl, 0, none⟩)), (.pointer (some ⟨ga, 0, none⟩)), (.slice a0 len0 cap0), (.bool false), (.tuple #[.agg (aggT x), .agg (aggT y), .string p]), (.slice a0 len0 cap0), (.tuple #[.agg (aggT x), .agg (aggT y), .string p]), (.agg (aggT x)), (.agg (aggT y)), (.string p), (.agg (aggT x)), (.string p), (.bool true), (.bool false), (.bool false), (.agg (aggT y)), (.string p), (.bool true), (.bool false), (.bool false), undef, undef, undef, undef, undef, undef, undef, undef, undef, undef, undef, undef] (List.append [undef, undef, undef, undef, undef, undef, undef, undef, undef, undef, undef, (.agg (aggT x)), (.agg (aggT y)), (.string p), (.agg (aggT m)), (.agg (aggT x)), (.agg (aggT y)), (.string p), (.agg (aggT s)), (.agg (aggT x)), (.agg (aggT s)), (.string p), (.agg (aggT l)), (.agg (aggT x)), (.agg (aggT x)), (.string p), (.agg (aggT xx)), (.agg (aggT m)), (.string p), (.agg (aggT l)), (.agg (aggT x)), (.string p), (.bool true), (.bool true), (.agg (aggT m)), (.agg (aggT y)), (.agg (aggT x)), (.string p), (.agg (aggT m)), (.bool true)] (List.append [(.bool true), (.bool true), (.agg (aggT l)), (.agg (aggT l)), (.bool true), (.bool true), (.bool true), (.agg (aggT s)), (.agg (aggT y)), (.string p), (.agg (aggT x)), (.agg (aggT x)), (.bool true), (.bool true), (.bool true), (.agg (aggT m)), (.string p), (.string nm), (.agg (aggT x)), (.string p), (.string nx), (.agg (aggT y)), (.string p), (.string ny), (.string p), (.string nm), (.bool true), (.bool true), (.bool true), (.agg (aggT x)), (.agg (aggT x)), (.string p), (.agg (aggT ng)), (.string p), undef, (.agg (aggT noP)), undef, undef, undef, undef] [undef, undef, undef, undef, undef, undef, undef, undef, undef, undef, undef, undef, undef, undef, undef, undef, undef, undef, undef, undef]))), defers := [] } (by kernel_rfl) ?_
    refine g_fn (some 114) [.agg (aggT x), .agg (aggT ng), .string p] Try.func17 (by kernel_rfl) (by kernel_rfl) (by kernel_rfl) (by kernel_rfl) (wanted_by (g := 38) (b := true) (d := 108) (by kernel_rfl) (by kernel_rfl) (by kernel_rfl) (by kernel_rfl)) (by kernel_rfl) ?_
    refine ((Can.out _)).mono ?_
    rintro e w9 ⟨rfl, bw9⟩
    have HG9 := Lib.hid (HG8.out.on bw9)
    have HS9 := Lib.hid HG9.out.h
    refine ⟨_, rfl, HS9.out, ?_⟩
    refine g_take (some 116) (.bool true) (by kernel_rfl) (yields_eqP (wanted_by (g := 38) (b := true) (d := 108) (by kernel_rfl) (by kernel_rfl) (by kernel_rfl) (by kernel_rfl)) (.tmp 114) (.tmp 115) (by kernel_rfl) noP (by kernel_rfl) (by kernel_rfl)) ?_
    refine g_pure (some 117) (.bool true) (by kernel_rfl) (by kernel_rfl) (fun _ => (by kernel_rfl)) ?_
    refine g_pure (some 118) (.bool true) (by kernel_rfl) (by kernel_rfl) (fun _ => (by kernel_rfl)) ?_
    refine g_held (some 119) (.agg (aggT x)) (by kernel_rfl) (wanted_by (g := 48) (b := true) (d := 118) (by kernel_rfl) (by kernel_rfl) (by kernel_rfl) (by kernel_rfl)) (held_load 25 (.tmp 3) (by kernel_rfl) _ _ (by kernel_rfl) Fx.out) ?_
    refine g_held (some 120) (.agg (aggT x)) (by kernel_rfl) (wanted_by (g := 48) (b := true) (d := 118) (by kernel_rfl) (by kernel_rfl) (by kernel_rfl) (by kernel_rfl)) (held_load 25 (.tmp 3) (by kernel_rfl) _ _ (by kernel_rfl) Fx.out) ?_
    refine g_pure (some 121) (.string p) (by kernel_rfl) (wanted_by (g := 48) (b := true) (d := 118) (by kernel_rfl) (by kernel_rfl) (by kernel_rfl) (by kernel_rfl)) (fun _ => (by kernel_rfl)) ?_
    refine g_pure (some 123) (.string p) (by kernel_rfl) (wanted_by (g := 48) (b := true) (d := 118) (by kernel_rfl) (by kernel_rfl) (by kernel_rfl) (by kernel_rfl)) (fun _ => (by kernel_rfl)) ?_
    refine g_held (some 125) (.agg (aggT x)) (by kernel_rfl) (wanted_by (g := 48) (b := true) (d := 118) (by kernel_rfl) (by kernel_rfl) (by kernel_rfl) (by kernel_rfl)) (held_load 25 (.tmp 3) (by kernel_rfl) _ _ (by kernel_rfl) Fx.out) ?_
    refine g_pure (some 126) (.string p) (by kernel_rfl) (wanted_by (g := 48) (b := true) (d := 118) (by kernel_rfl) (by kernel_rfl) (by kernel_rfl) (by kernel_rfl)) (fun _ => (by kernel_rfl)) ?_
    refine g_norm { tmps := List.toArray (List.append [(.slice a0 len0 cap0), undef, (.bool false), (.pointer (some ⟨gx, 0, none⟩)), (.pointer (some ⟨gy, 0, none⟩)), (.string p), (.pointer (some ⟨gm, 0, none⟩)), (.pointer (some ⟨gs, 0, none⟩)), (.pointer (some ⟨gl, 0, none⟩)), (.pointer (some ⟨ga, 0, none⟩)), (.slice a0 len0 cap0), (.bool false), (.tuple #[.agg (aggT x), .agg (aggT y), .string p]), (.slice a0 len0 cap0), (.tuple #[.agg (aggT x), .agg (aggT y), .string p]), (.agg (aggT x)), (.agg (aggT y)), (.string p), (.agg (aggT x)), (.string p), (.bool true), (.bool false), (.bool false), (.agg (aggT y)), (.string p), (.bool true), (.bool false), (.bool false), undef, undef, undef, undef, undef, undef, undef, undef, undef, undef, undef, undef] (List.append [undef, undef, undef, undef, undef, undef, undef, undef, undef, undef, undef, (.agg (aggT x)), (.agg (aggT y)), (.string p), (.agg (aggT m)), (.agg (aggT x)), (.agg (aggT y)), (.string p), (.agg (aggT s)), (.agg (aggT x)), (.agg (aggT s)), (.string p), (.agg (aggT l)), (.agg (aggT x)), (.agg (aggT x)), (.string p), (.agg (aggT xx)), (.agg (aggT m)), (.string p), (.agg (aggT l)), (.agg (aggT x)), (.string p), (.bool true), (.bool true), (.agg (aggT m)), (.agg (aggT y)), (.agg (aggT x)), (.string p), (.agg (aggT m)), (.bool true)] (List.append [(.bool true), (.bool true), (.agg (aggT l)), (.agg (aggT l)), (.bool true), (.bool true), (.bool true), (.agg (aggT s)), (.agg (aggT y)), (.string p), (.agg (aggT x)), (.agg (aggT x)), (.bool true), (.bool true), (.bool true), (.agg (aggT m)), (.string p), (.string nm), (.agg (aggT x)), (.string p), (.string nx), (.agg (aggT y)), (.string p), (.string ny), (.string p), (.string nm), (.bool true), (.bool true), (.bool true), (.agg (aggT x)), (.agg (aggT x)), (.string p), (.agg (aggT ng)), (.string p), (.agg (aggT noP)), (.agg (aggT noP)), (.bool true), (.bool true), (.bool true), (.agg (aggT x))] [(.agg (aggT x)), (.string p), undef, (.string p), undef, (.agg (aggT x)), (.string p), undef, undef, undef, undef, undef, undef, undef, undef, undef, undef, undef, undef, undef]))), defers := [] } (by kernel_rfl) ?_
    refine g_fn (some 122) [.agg (aggT x), .string p] Try.func25 (by kernel_rfl) (by kernel_rfl) (by kernel_rfl) (by kernel_rfl) (wanted_by (g := 48) (b := true) (d := 118) (by kernel_rfl) (by kernel_rfl) (by kernel_rfl) (by kernel_rfl)) (by kernel_rfl) ?_
    refine ((Coth.out _)).mono ?_
    rintro e w10 ⟨rfl, bw10⟩
    have HG10 := Lib.hid (HG9.out.on bw10)
    have HS10 := Lib.hid HG10.out.h
    refine ⟨_, rfl, HS10.out, ?_⟩
    refine g_norm { tmps := List.toArray (List.append [(.slice a0 len0 cap0), undef, (.bool false), (.pointer (some ⟨gx, 0, none⟩)), (.pointer (some ⟨gy, 0, none⟩)), (.string p), (.pointer (some ⟨gm, 0, none⟩)), (.pointer (some ⟨gs, 0, none⟩)), (.pointer (some ⟨gl, 0, none⟩)), (.pointer (some ⟨ga, 0, none⟩)), (.slice a0 len0 cap0), (.bool false), (.tuple #[.agg (aggT x), .agg (aggT y), .string p]), (.slice a0 len0 cap0), (.tuple #[.agg (aggT x), .agg (aggT y), .string p]), (.agg (aggT x)), (.agg (aggT y)), (.string p), (.agg (aggT x)), (.string p), (.bool true), (.bool false), (.bool false), (.agg (aggT y)), (.string p), (.bool true), (.bool false), (.bool false), undef, undef, undef, undef, undef, undef, undef, undef, undef, undef, undef, undef] (List.append [undef, undef, undef, undef, undef, undef, undef, undef, undef, undef, undef, (.agg (aggT x)), (.agg (aggT y)), (.string p), (.agg (aggT m)), (.agg (aggT x)), (.agg (aggT y)), (.string p), (.agg (aggT s)), (.agg (aggT x)), (.agg (aggT s)), (.string p), (.agg (aggT l)), (.agg (aggT x)), (.agg (aggT x)), (.string p), (.agg (aggT xx)), (.agg (aggT m)), (.string p), (.agg (aggT l)), (.agg (aggT x)), (.string p), (.bool true), (.bool true), (.agg (aggT m)), (.agg (aggT y)), (.agg (aggT x)), (.string p), (.agg (aggT m)), (.bool true)] (List.append [(.bool true), (.bool true), (.agg (aggT l)), (.agg (aggT l)), (.bool true), (.bool true), (.bool true), (.agg (aggT s)), (.agg (aggT y)), (.string p), (.agg (aggT x)), (.agg (aggT x)), (.bool true), (.bool true), (.bool true), (.agg (aggT m)), (.string p), (.string nm), (.agg (aggT x)), (.string p), (.string nx), (.agg (aggT y)), (.string p), (.string ny), (.string p), (.string nm), (.bool true), (.bool true), (.bool true), (.agg (aggT x)), (.agg (aggT x)), (.string p), (.agg (aggT ng)), (.string p), (.agg (aggT noP)), (.agg (aggT noP)), (.bool true), (.bool true), (.bool true), (.agg (aggT x))] [(.agg (aggT x)), (.string p), (.agg (aggT ot)), (.string p), undef, (.agg (aggT x)), (.string p), undef, undef, undef, undef, undef, undef, undef, undef, undef, undef, undef, undef, undef]))), defers := [] } (by kernel_rfl) ?_
    refine g_fn (some 124) [.agg (aggT x), .agg (aggT ot), .string p] Try.func18 (by kernel_rfl) (by kernel_rfl) (by kernel_rfl) (by kernel_rfl) (wanted_by (g := 48) (b := true) (d := 118) (by kernel_rfl) (by kernel_rfl) (by kernel_rfl) (by kernel_rfl)) (by kernel_rfl) ?_
    refine ((Cxo.out _)).mono ?_
    rintro e w11 ⟨rfl, bw11⟩
    have HG11 := Lib.hid (HG10.out.on bw11)
    have HS11 := Lib.hid HG11.out.h
    refine ⟨_, rfl, HS11.out, ?_⟩
    refine g_norm { tmps := List.toArray (List.append [(.slice a0 len0 cap0), undef, (.bool false), (.pointer (some ⟨gx, 0, none⟩)), (.pointer (some ⟨gy, 0, none⟩)), (.string p), (.pointer (some ⟨gm, 0, none⟩)), (.pointer (some ⟨gs, 0, none⟩)), (.pointer (some ⟨gl, 0, none⟩)), (.pointer (some ⟨ga, 0, none⟩)), (.slice a0 len0 cap0), (.bool false), (.tuple #[.agg (aggT x), .agg (aggT y), .string p]), (.slice a0 len0 cap0), (.tuple #[.agg (aggT x), .agg (aggT y), .string p]), (.agg (aggT x)), (.agg (aggT y)), (.string p), (.agg (aggT x)), (.string p), (.bool true), (.bool false), (.bool false), (.agg (aggT y)), (.string p), (.bool true), (.bool false), (.bool false), undef, undef, undef, undef, undef, undef, undef, undef, undef, undef, undef, undef] (List.append [undef, undef, undef, undef, undef, undef, undef, undef, undef, undef, undef, (.agg (aggT x)), (.agg (aggT y)), (.string p), (.agg (aggT m)), (.agg (aggT x)), (.agg (aggT y)), (.string p), (.agg (aggT s)), (.agg (aggT x)), (.agg (aggT s)), (.string p), (.agg (aggT l)), (.agg (aggT x)), (.agg (aggT x)), (.string p), (.agg (aggT xx)), (.agg (aggT m)), (.string p), (.agg (aggT l)), (.agg (aggT x)), (.string p), (.bool true), (.bool true), (.agg (aggT m)), (.agg (aggT y)), (.agg (aggT x)), (.string p), (.agg (aggT m)), (.bool true)] (List.append [(.bool true), (.bool true), (.agg (aggT l)), (.agg (aggT l)), (.bool true), (.bool true), (.bool true), (.agg (aggT s)), (.agg (aggT y)), (.string p), (.agg (aggT x)), (.agg (aggT x)), (.bool true), (.bool true), (.bool true), (.agg (aggT m)), (.string p), (.string nm), (.agg (aggT x)), (.string p), (.string nx), (.agg (aggT y)), (.string p), (.string ny), (.string p), (.string nm), (.bool true), (.bool true), (.bool true), (.agg (aggT x)), (.agg (aggT x)), (.string p), (.agg (aggT ng)), (.string p), (.agg (aggT noP)), (.agg (aggT noP)), (.bool true), (.bool true), (.bool true), (.agg (aggT x))] [(.agg (aggT x)), (.string p), (.agg (aggT ot)), (.string p), (.agg (aggT (nx, ⟨#[]⟩))), (.agg (aggT x)), (.string p), undef, undef, undef, undef, undef, undef, undef, undef, undef, undef, undef, undef, undef]))), defers := [] } (by kernel_rfl) ?_
    refine g_fn (some 127) [.agg (aggT x), .string p] Try.func22 (by kernel_rfl) (by kernel_rfl) (by kernel_rfl) (by kernel_rfl) (wanted_by (g := 48) (b := true) (d := 118) (by kernel_rfl) (by kernel_rfl) (by kernel_rfl) (by kernel_rfl)) (by kernel_rfl) ?_
    refine ((Cnx.out _)).mono ?_
    rintro e w12 ⟨rfl, bw12⟩
    have HG12 := Lib.hid (HG11.out.on bw12)
    have HS12 := Lib.hid HG12.out.h
    refine ⟨_, rfl, HS12.out, ?_⟩
    refine g_pure (some 128) (.agg (aggT (nx, ⟨#[]⟩))) (by kernel_rfl) (wanted_by (g := 48) (b := true) (d := 118) (by kernel_rfl) (by kernel_rfl) (by kernel_rfl) (by kernel_rfl)) (held_build 25 #[(0, .tmp 127)] (by kernel_rfl) _ (by kernel_rfl) _ (built_pairA nx)) ?_
    refine g_take (some 129) (.bool true) (by kernel_rfl) (yields_eqP (wanted_by (g := 48) (b := true) (d := 118) (by kernel_rfl) (by kernel_rfl) (by kernel_rfl) (by kernel_rfl)) (.tmp 124) (.tmp 128) (by kernel_rfl) (nx, ⟨#[]⟩) (by kernel_rfl) (by kernel_rfl)) ?_
    refine g_pure (some 130) (.bool true) (by kernel_rfl) (by kernel_rfl) (fun _ => (by kernel_rfl)) ?_
    refine g_pure (some 131) (.bool true) (by kernel_rfl) (by kernel_rfl) (fun _ => (by kernel_rfl)) ?_
    refine g_pure (some 137) (.agg (aggT (⟨#[6]⟩, ⟨#[]⟩))) (by kernel_rfl) (wanted_by (g := 61) (b := true) (d := 131) (by kernel_rfl) (by kernel_rfl) (by kernel_rfl) (by kernel_rfl)) (held_build 25 #[(0, .const (.string ⟨#[6]⟩))] (by kernel_rfl) _ (by kernel_rfl) _ (built_pairA ⟨#[6]⟩)) ?_
    refine g_norm { tmps := List.toArray (List.append [(.slice a0 len0 cap0), undef, (.bool false), (.pointer (some ⟨gx, 0, none⟩)), (.pointer (some ⟨gy, 0, none⟩)), (.string p), (.pointer (some ⟨gm, 0, none⟩)), (.pointer (some ⟨gs, 0, none⟩)), (.pointer (some ⟨gl, 0, none⟩)), (.pointer (some ⟨ga, 0, none⟩)), (.slice a0 len0 cap0), (.bool false), (.tuple #[.agg (aggT x), .agg (aggT y), .string p]), (.slice a0 len0 cap0), (.tuple #[.agg (aggT x), .agg (aggT y), .string p]), (.agg (aggT x)), (.agg (aggT y)), (.string p), (.agg (aggT x)), (.string p), (.bool true), (.bool false), (.bool false), (.agg (aggT y)), (.string p), (.bool true), (.bool false), (.bool false), undef, undef, undef, undef, undef, undef, undef, undef, undef, undef, undef, undef] (List.append [undef, undef, undef, undef, undef, undef, undef, undef, undef, undef, undef, (.agg (aggT x)), (.agg (aggT y)), (.string p), (.agg (aggT m)), (.agg (aggT x)), (.agg (aggT y)), (.string p), (.agg (aggT s)), (.agg (aggT x)), (.agg (aggT s)), (.string p), (.agg (aggT l)), (.agg (aggT x)), (.agg (aggT x)), (.string p), (.agg (aggT xx)), (.agg (aggT m)), (.string p), (.agg (aggT l)), (.agg (aggT x)), (.string p), (.bool true), (.bool true), (.agg (aggT m)), (.agg (aggT y)), (.agg (aggT x)), (.string p), (.agg (aggT m)), (.bool true)] (List.append [(.bool true), (.bool true), (.agg (aggT l)), (.agg (aggT l)), (.bool true), (.bool true), (.bool true), (.agg (aggT s)), (.agg (aggT y)), (.string p), (.agg (aggT x)), (.agg (aggT x)), (.bool true), (.bool true), (.bool true), (.agg (aggT m)), (.string p), (.string nm), (.agg (aggT x)), (.string p), (.string nx), (.agg (aggT y)), (.string p), (.string ny), (.string p), (.string nm), (.bool true), (.bool true), (.bool true), (.agg (aggT x)), (.agg (aggT x)), (.string p), (.agg (aggT ng)), (.string p), (.agg (aggT noP)), (.agg (aggT noP)), (.bool true), (.bool true), (.bool true), (.agg (aggT x))] [(.agg (aggT x)), (.string p), (.agg (aggT ot)), (.string p), (.agg (aggT (nx, ⟨#[]⟩))), (.agg (aggT x)), (.string p), (.string nx), (.agg (aggT (nx, ⟨#[]⟩))), (.bool true), (.bool true), (.bool true), undef, undef, undef, undef, undef, (.agg (aggT (⟨#[6]⟩, ⟨#[]⟩))), undef, undef]))), defers := [] } (by kernel_rfl) ?_
    refine g_fn (some 132) [] Try.func19 (by kernel_rfl) (by kernel_rfl) (by kernel_rfl) (by kernel_rfl) (wanted_by (g := 61) (b := true) (d := 131) (by kernel_rfl) (by kernel_rfl) (by kernel_rfl) (by kernel_rfl)) (by kernel_rfl) ?_
    refine ((HOne.out _)).mono ?_
    rintro e w13 ⟨rfl, ew13⟩
    have bw13 : Below w12.heap.size w12 w13 := ew13 ▸ Below.refl _ _
    clear ew13
    have HG13 := Lib.hid (HG12.out.on bw13)
    have HS13 := Lib.hid HG13.out.h
    refine ⟨_, rfl, HS13.out, ?_⟩
    refine g_pure (some 133) (.agg (aggT (⟨#[]⟩, ⟨#[1]⟩))) (by kernel_rfl) (wanted_by (g := 61) (b := true) (d := 131) (by kernel_rfl) (by kernel_rfl) (by kernel_rfl) (by kernel_rfl)) (held_build 25 #[(1, .tmp 132)] (by kernel_rfl) _ (by kernel_rfl) _ (built_pairB ⟨#[1]⟩)) ?_
    refine g_norm { tmps := List.toArray (List.append [(.slice a0 len0 cap0), undef, (.bool false), (.pointer (some ⟨gx, 0, none⟩)), (.pointer (some ⟨gy, 0, none⟩)), (.string p), (.pointer (some ⟨gm, 0, none⟩)), (.pointer (some ⟨gs, 0, none⟩)), (.pointer (some ⟨gl, 0, none⟩)), (.pointer (some ⟨ga, 0, none⟩)), (.slice a0 len0 cap0), (.bool false), (.tuple #[.agg (aggT x), .agg (aggT y), .string p]), (.slice a0 len0 cap0), (.tuple #[.agg (aggT x), .agg (aggT y), .string p]), (.agg (aggT x)), (.agg (aggT y)), (.string p), (.agg (aggT x)), (.string p), (.bool true), (.bool false), (.bool false), (.agg (aggT y)), (.string p), (.bool true), (.bool false), (.bool false), undef, undef, undef, undef, undef, undef, undef, undef, undef, undef, undef, undef] (List.append [undef, undef, undef, undef, undef, undef, undef, undef, undef, undef, undef, (.agg (aggT x)), (.agg (aggT y)), (.string p), (.agg (aggT m)), (.agg (aggT x)), (.agg (aggT y)), (.string p), (.agg (aggT s)), (.agg (aggT x)), (.agg (aggT s)), (.string p), (.agg (aggT l)), (.agg (aggT x)), (.agg (aggT x)), (.string p), (.agg (aggT xx)), (.agg (aggT m)), (.string p), (.agg (aggT l)), (.agg (aggT x)), (.string p), (.bool true), (.bool true), (.agg (aggT m)), (.agg (aggT y)), (.agg (aggT x)), (.string p), (.agg (aggT m)), (.bool true)] (List.append [(.bool true), (.bool true), (.agg (aggT l)), (.agg (aggT l)), (.bool true), (.bool true), (.bool true), (.agg (aggT s)), (.agg (aggT y)), (.string p), (.agg (aggT x)), (.agg (aggT x)), (.bool true), (.bool true), (.bool true), (.agg (aggT m)), (.string p), (.string nm), (.agg (aggT x)), (.string p), (.string nx), (.agg (aggT y)), (.string p), (.string ny), (.string p), (.string nm), (.bool true), (.bool true), (.bool true), (.agg (aggT x)), (.agg (aggT x)), (.string p), (.agg (aggT ng)), (.string p), (.agg (aggT noP)), (.agg (aggT noP)), (.bool true), (.bool true), (.bool true), (.agg (aggT x))] [(.agg (aggT x)), (.string p), (.agg (aggT ot)), (.string p), (.agg (aggT (nx, ⟨#[]⟩))), (.agg (aggT x)), (.string p), (.string nx), (.agg (aggT (nx, ⟨#[]⟩))), (.bool true), (.bool true), (.bool true), (.string ⟨#[1]⟩), (.agg (aggT (⟨#[]⟩, ⟨#[1]⟩))), undef, undef, undef, (.agg (aggT (⟨#[6]⟩, ⟨#[]⟩))), undef, undef]))), defers := [] } (by kernel_rfl) ?_
    refine g_fn (some 134) [] Try.func19 (by kernel_rfl) (by kernel_rfl) (by kernel_rfl) (by kernel_rfl) (wanted_by (g := 61) (b := true) (d := 131) (by kernel_rfl) (by kernel_rfl) (by kernel_rfl) (by kernel_rfl)) (by kernel_rfl) ?_
    refine ((HOne.out _)).mono ?_
    rintro e w14 ⟨rfl, ew14⟩
    have bw14 : Below w13.heap.size w13 w14 := ew14 ▸ Below.refl _ _
    clear ew14
    have HG14 := Lib.hid (HG13.out.on bw14)
    have HS14 := Lib.hid HG14.out.h
    refine ⟨_, rfl, HS14.out, ?_⟩
    refine g_pure (some 135) (.agg (aggT (⟨#[]⟩, ⟨#[1]⟩))) (by kernel_rfl) (wanted_by (g := 61) (b := true) (d := 131) (by kernel_rfl) (by kernel_rfl) (by kernel_rfl) (by kernel_rfl)) (held_build 25 #[(1, .tmp 134)] (by kernel_rfl) _ (by kernel_rfl) _ (built_pairB ⟨#[1]⟩)) ?_
    refine g_norm { tmps := List.toArray (List.append [(.slice a0 len0 cap0), undef, (.bool false), (.pointer (some ⟨gx, 0, none⟩)), (.pointer (some ⟨gy, 0, none⟩)), (.string p), (.pointer (some ⟨gm, 0, none⟩)), (.pointer (some ⟨gs, 0, none⟩)), (.pointer (some ⟨gl, 0, none⟩)), (.pointer (some ⟨ga, 0, none⟩)), (.slice a0 len0 cap0), (.bool false), (.tuple #[.agg (aggT x), .agg (aggT y), .string p]), (.slice a0 len0 cap0), (.tuple #[.agg (aggT x), .agg (aggT y), .string p]), (.agg (aggT x)), (.agg (aggT y)), (.string p), (.agg (aggT x)), (.string p), (.bool true), (.bool false), (.bool false), (.agg (aggT y)), (.string p), (.bool true), (.bool false), (.bool false), undef, undef, undef, undef, undef, undef, undef, undef, undef, undef, undef, undef] (List.append [undef, undef, undef, undef, undef, undef, undef, undef, undef, undef, undef, (.agg (aggT x)), (.agg (aggT y)), (.string p), (.agg (aggT m)), (.agg (aggT x)), (.agg (aggT y)), (.string p), (.agg (aggT s)), (.agg (aggT x)), (.agg (aggT s)), (.string p), (.agg (aggT l)), (.agg (aggT x)), (.agg (aggT x)), (.string p), (.agg (aggT xx)), (.agg (aggT m)), (.string p), (.agg (aggT l)), (.agg (aggT x)), (.string p), (.bool true), (.bool true), (.agg (aggT m)), (.agg (aggT y)), (.agg (aggT x)), (.string p), (.agg (aggT m)), (.bool true)] (List.append [(.bool true), (.bool true), (.agg (aggT l)), (.agg (aggT l)), (.bool true), (.bool true), (.bool true), (.agg (aggT s)), (.agg (aggT y)), (.string p), (.agg (aggT x)), (.agg (aggT x)), (.bool true), (.bool true), (.bool true), (.agg (aggT m)), (.string p), (.string nm), (.agg (aggT x)), (.string p), (.string nx), (.agg (aggT y)), (.string p), (.string ny), (.string p), (.string nm), (.bool true), (.bool true), (.bool true), (.agg (aggT x)), (.agg (aggT x)), (.string p), (.agg (aggT ng)), (.string p), (.agg (aggT noP)), (.agg (aggT noP)), (.bool true), (.bool true), (.bool true), (.agg (aggT x))] [(.agg (aggT x)), (.string p), (.agg (aggT ot)), (.string p), (.agg (aggT (nx, ⟨#[]⟩))), (.agg (aggT x)), (.string p), (.string nx), (.agg (aggT (nx, ⟨#[]⟩))), (.bool true), (.bool true), (.bool true), (.string ⟨#[1]⟩), (.agg (aggT (⟨#[]⟩, ⟨#[1]⟩))), (.string ⟨#[1]⟩), (.agg (aggT (⟨#[]⟩, ⟨#[1]⟩))), undef, (.agg (aggT (⟨#[6]⟩, ⟨#[]⟩))), undef, undef]))), defers := [] } (by kernel_rfl) ?_
    refine g_fn (some 136) [.agg (aggT (⟨#[]⟩, ⟨#[1]⟩)), .agg (aggT (⟨#[]⟩, ⟨#[1]⟩)), .string ⟨#[7]⟩] Try.func18 (by kernel_rfl) (by kernel_rfl) (by kernel_rfl) (by kernel_rfl) (wanted_by (g := 61) (b := true) (d := 131) (by kernel_rfl) (by kernel_rfl) (by kernel_rfl) (by kernel_rfl)) (by kernel_rfl) ?_
    refine ((H7.out _)).mono ?_
    rintro e w15 ⟨rfl, bw15⟩
    have HG15 := Lib.hid (HG14.out.on bw15)
    have HS15 := Lib.hid HG15.out.h
    refine ⟨_, rfl, HS15.out, ?_⟩
    refine g_take (some 138) (.bool true) (by kernel_rfl) (yields_eqP (wanted_by (g := 61) (b := true) (d := 131) (by kernel_rfl) (by kernel_rfl) (by kernel_rfl) (by kernel_rfl)) (.tmp 136) (.tmp 137) (by kernel_rfl) (⟨#[6]⟩, ⟨#[]⟩) (by kernel_rfl) (by kernel_rfl)) ?_
    refine g_pure (some 139) (.bool true) (by kernel_rfl) (by kernel_rfl) (fun _ => (by kernel_rfl)) ?_
    refine g_pure (some 2) (.bool true) (by kernel_rfl) (by kernel_rfl) (fun _ => (by kernel_rfl)) ?_
    refine g_done ?_
    refine (by assumption : ∀ (a : Act) (w_1 : World), Code.wp _ Code.ret _ a w_1 → _) _ _ ?_
    refine wp_ret ?_
    exact ret_bool rfl (by kernel_rfl) (by kernel_rfl) ⟨rfl, HG15.out.b⟩
end Go.Proofs.Ytflfeepgkcamnaa
