/-
  The contracts of impl's mayShift, LimbsOf, ShiftOf, ShiftIn and LowInverse.
-/
import Derived.Test.YtdbjjnbmbeabeaaGreatSSpecB
import Derived.Test.YtdbjjnbmbeabeaaGreatJPow
import Derived.Test.YtdbjjnbmbeabeaaGreatIOf
import Derived.Test.YtdbjjnbmbeabeaaGreatXRow
namespace Go.Proofs.YtdbjjnbmbeabeaaGreat
open Go.RowKit

theorem mayShift_s (p : ByteArray) (w : World) : Calls Tryz.prog 21 #[.string p] w fun e w' => e = .returned (.bool (oddB p)) ∧ w = w' := by
  have HM := leaves_s p
  unfold oddB
  cases hm : modB p with
  | false =>
    rw [hm] at HM
    rw [Bool.false_and]
    go_enter Tryz.func21, Tryz.ntmps21
    go_wp2_with fail
    refine (HM _).mono ?_
    rintro e w1 ⟨rfl, rfl⟩
    go_wp2
    go_ret
    exact ⟨rfl, rfl⟩
  | true =>
    rw [hm] at HM
    obtain ⟨okp, h1⟩ := modB_parts hm
    have HBt := fun w => bitOf_i p 0 (by omega) w
    rw [bit_zero okp h1] at HBt
    rw [Bool.true_and]
    by_cases ho : gV p % 2 = 1
    · rw [decide_eq_true ho]
      rw [ho] at HBt
      clear ho okp h1 hm
      go_enter Tryz.func21, Tryz.ntmps21
      go_wp2_with fail
      refine (HM _).mono ?_
      rintro e w1 ⟨rfl, rfl⟩
      go_wp2_with fail
      refine (HBt _).mono ?_
      rintro e w1 ⟨rfl, rfl⟩
      go_wp2
      go_ret
      exact ⟨rfl, rfl⟩
    · rw [decide_eq_false ho]
      rw [show gV p % 2 = 0 from by omega] at HBt
      clear ho okp h1 hm
      go_enter Tryz.func21, Tryz.ntmps21
      go_wp2_with fail
      refine (HM _).mono ?_
      rintro e w1 ⟨rfl, rfl⟩
      go_wp2_with fail
      refine (HBt _).mono ?_
      rintro e w1 ⟨rfl, rfl⟩
      go_wp2
      go_ret
      exact ⟨rfl, rfl⟩
theorem limbsOf_s (p : ByteArray) (w : World) : Calls Tryz.prog 18 #[.string p] w fun e w' => e = .returned (.int .i64 (limbG p)) ∧ w = w' := by
  have HG := greatOk_i p
  unfold limbG limbN
  cases ok : okG p with
  | false =>
    rw [ok] at HG
    rw [if_neg (by decide)]
    go_enter Tryz.func18, Tryz.ntmps18
    go_wp2_with fail
    refine (HG _).mono ?_
    rintro e w1 ⟨rfl, rfl⟩
    go_wp2
    go_ret
    exact ⟨rfl, rfl⟩
  | true =>
    rw [ok] at HG
    rw [if_pos rfl]
    have hs := okG_size ok
    obtain ⟨L, hL⟩ : ∃ L, (p.size + 2) / 3 = L := ⟨_, rfl⟩
    rw [hL]
    have e1 : Hid (((p.size : Int) + 3 - 1) / 3 = (L : Int)) := by show _ = _; omega
    clear hL
    go_enter Tryz.func18, Tryz.ntmps18
    go_wp2_with fail
    refine (HG _).mono ?_
    rintro e w1 ⟨rfl, rfl⟩
    go_wp2
    go_ret
    exact ⟨congrArg (fun x => Ending.returned (Value.int .i64 x)) e1.out, rfl⟩
theorem limbsOf_i (p : ByteArray) (w : World) : Calls Tryz.prog 18 #[.string p] w fun e w' => e = .returned (.int .i64 (limbG p)) ∧ Below w.heap.size w w' :=
  (limbsOf_s p w).mono fun _ _ ⟨h1, h2⟩ => ⟨h1, h2 ▸ Below.refl _ _⟩

theorem pow_shift {p : ByteArray} (ho : oddB p = true) : powR ⟨#[2]⟩ (ofI (24 * (limbN p : Int))) p = gS (shN p) := by
  obtain ⟨hm, h2⟩ := oddB_parts ho
  obtain ⟨okp, h1⟩ := modB_parts hm
  have sp := okG_size okp
  have e2 : gS 2 = ⟨#[2]⟩ := gS_gV (s := ⟨#[2]⟩) rfl
  have r2 : restB ⟨#[2]⟩ p = true := by have := rest_gS hm (x := 2) (by omega); rwa [e2] at this
  have hL : limbN p ≤ 54 := by unfold limbN; omega
  have hN : (24 * (limbN p : Int)).toNat = 24 * limbN p := by omega
  have okn : okG (ofI (24 * (limbN p : Int))) = true := by
    unfold ofI
    rw [hN]
    refine okS (Nat.lt_of_le_of_lt (show 24 * limbN p ≤ 2000 by omega) ?_)
    unfold GB
    have : 256 ^ 2 ≤ 256 ^ 160 := Nat.pow_le_pow_right (by omega) (by omega)
    omega
  unfold powR oneB
  rw [hm, r2, okn, show (true && true && true) = true from rfl, if_pos rfl]
  unfold ofI shN
  rw [gV_gS, hN, show gV ⟨#[2]⟩ = 2 from rfl, Nat.pow_mul]
theorem shiftOf_i (p : ByteArray) (w : World) : Calls Tryz.prog 11 #[.string p] w fun e w' => e = .returned (.string (shiftG p)) ∧ Below w.heap.size w w' := by
  have HO := mayShift_s p
  unfold shiftG
  cases ho : oddB p with
  | false =>
    rw [ho] at HO
    rw [if_neg (by decide)]
    go_enter Tryz.func11, Tryz.ntmps11
    go_wp2_with fail
    refine (HO _).mono ?_
    rintro e w1 ⟨rfl, rfl⟩
    go_wp2
    go_ret
    exact ⟨rfl, Below.refl _ _⟩
  | true =>
    rw [ho] at HO
    rw [if_pos rfl, ← pow_shift ho]
    have okp := (modB_parts (oddB_parts ho).1).1
    have sp := okG_size okp
    have HL := limbsOf_s p
    have EL : limbG p = (limbN p : Int) := by unfold limbG; rw [okp]; rfl
    rw [EL] at HL
    have hL : limbN p ≤ 54 := by unfold limbN; omega
    generalize limbN p = L at *
    have H1 := Lib.hid (fun w => greatOf_i (24 * (L : Int)) w (by omega))
    have H2 := Lib.hid (powRest_i ⟨#[2]⟩ (ofI (24 * (L : Int))) p)
    generalize powR ⟨#[2]⟩ (ofI (24 * (L : Int))) p = A at *
    generalize ofI (24 * (L : Int)) = B at *
    clear ho okp EL
    go_enter Tryz.func11, Tryz.ntmps11
    go_wp2_with fail
    refine (HO _).mono ?_
    rintro e w1 ⟨rfl, rfl⟩
    go_wp2_with fail
    refine (HL _).mono ?_
    rintro e w1 ⟨rfl, rfl⟩
    go_wp2_with fail
    refine (H1.out _).mono ?_
    rintro e w2 ⟨rfl, b2⟩
    go_wp2_with fail
    refine (H2.out _).mono ?_
    rintro e w3 ⟨rfl, b3⟩
    have b4 := bt b2 b3
    clear b2 b3 H1 H2 HO HL
    go_wp2
    go_ret
    exact ⟨rfl, b4⟩
theorem shIn_mul (a p : ByteArray) : mulR a (shiftG p) p = shInR a p := by
  unfold mulR shInR
  cases ho : oddB p with
  | false =>
    have e : shiftG p = ⟨#[]⟩ := by unfold shiftG; rw [ho]; rfl
    rw [e, show gV ⟨#[]⟩ = 0 from rfl, Nat.mul_zero, Nat.zero_mod, gS_zero, Bool.false_and]
    cases twoB a ⟨#[]⟩ p <;> rfl
  | true =>
    have hm := (oddB_parts ho).1
    have e : shiftG p = gS (shN p) := by unfold shiftG; rw [ho]; rfl
    have r := rest_gS hm (sh_lt ho)
    rw [e, Bool.true_and, gV_gS]
    unfold twoB
    rw [hm, r, Bool.true_and, Bool.and_true]
theorem shiftIn_i (a p : ByteArray) (w : World) : Calls Tryz.prog 6 #[.string a, .string p] w fun e w' => e = .returned (.string (shInR a p)) ∧ Below w.heap.size w w' := by
  have HS := Lib.hid (shiftOf_i p)
  have HM := Lib.hid (mulRest_i a (shiftG p) p)
  rw [shIn_mul] at HM
  generalize shInR a p = A at *
  generalize shiftG p = B at *
  go_enter Tryz.func6, Tryz.ntmps6
  go_wp2_with fail
  refine (HS.out _).mono ?_
  rintro e w2 ⟨rfl, b2⟩
  go_wp2_with fail
  refine (HM.out _).mono ?_
  rintro e w3 ⟨rfl, b3⟩
  have b4 := bt b2 b3
  clear b2 b3 HS HM
  go_wp2
  go_ret
  exact ⟨rfl, b4⟩

/-- A row laid into a new variable. -/
theorem var_k {k : IntKind} {t : TypeId} (w : World) {Z : Array Value} (hZ : rowK k Z108 = Z) {l : List Nat} (hl : l.length = 108) :
    RowK k t (w.alloc (.cells Z t)) w.heap.size Z108 ∧ RowK k t ((w.alloc (.cells Z t)).setRow w.heap.size (rowK k l)) w.heap.size l ∧ Below w.heap.size w ((w.alloc (.cells Z t)).setRow w.heap.size (rowK k l)) := by
  subst hZ
  have r := RowK.new (l := Z108) w k t Z108_len
  exact ⟨r, r.stored hl, below_setRow ((Below.refl _ _).alloc (Nat.le_refl _) _) (Nat.le_refl _) _⟩
theorem lowAt_range {v : Nat} (hv : v < 16777216) : ∀ k, 0 ≤ lowAt v k ∧ lowAt v k < 4294967296
  | 0 => by unfold lowAt; omega
  | _ + 1 => low_range32 _ _
theorem low_first {l : List Nat} (h : Limbs l) : l.getD 0 0 = lV l % 16777216 := by
  have e := lV_drop l 0
  have := getD_lt h 0
  rw [List.drop_zero] at e
  rw [e]; omega
theorem low_told {V v : Nat} (hV : V % 16777216 = v) (hv : v % 2 = 1) {x : Int} (hx : x = lowAt v 3) (x0 : 0 ≤ x) (x1 : x < 4294967296) : (-x) % 4294967296 % 16777216 = (lowN V : Int) := by
  obtain ⟨z, rfl⟩ : ∃ z : Nat, x = (z : Int) := ⟨x.toNat, by omega⟩
  have h := low_end hV hv hx
  have e : lowN V = (4294967296 - z) % 4294967296 % 16777216 := lowN_eq (by omega) (Nat.mod_lt _ (by omega)) h
  rw [e]
  omega
set_option maxRecDepth 8000 in
set_option maxHeartbeats 2000000 in
theorem lowInverse_i (p : ByteArray) (w : World) : Calls Tryz.prog 13 #[.string p] w fun e w' => e = .returned (.int .i64 (lowI p)) ∧ Below w.heap.size w w' := by
  have HG := greatOk_i p
  unfold lowI lowB
  cases ok : okG p with
  | false =>
    rw [ok] at HG
    rw [Bool.false_and, if_neg (by decide)]
    go_enter Tryz.func13, Tryz.ntmps13
    go_wp2_with fail
    refine (HG _).mono ?_
    rintro e w1 ⟨rfl, rfl⟩
    go_wp2
    go_ret
    exact ⟨rfl, Below.refl _ _⟩
  | true =>
    rw [ok] at HG
    rw [Bool.true_and]
    have HBt := fun w => bitOf_i p 0 (by omega) w
    rw [bit_zero' ok] at HBt
    by_cases ho : gV p % 2 = 1
    · rw [decide_eq_true ho, if_pos rfl]
      rw [ho] at HBt
      have sp := okG_size ok
      have HIn := Lib.hid (fun w => shiftRowOf32_any p w sp)
      obtain ⟨Z, hZ⟩ : ∃ Z, rowK .u32 Z108 = Z := ⟨_, rfl⟩
      have hz := (zero_k Tryz.infoR32).1
      rw [hZ] at hz
      have HZ := Lib.hid hZ
      obtain ⟨V, hV⟩ : ∃ V, gV p = V := ⟨_, rfl⟩
      obtain ⟨R, hR⟩ : ∃ R : Int, ((lowN V : Nat) : Int) = R := ⟨_, rfl⟩
      rw [hV, hR]
      have HVp := Lib.hid hV
      have HR := Lib.hid hR
      rw [hV] at ho
      have HVo := Lib.hid ho
      clear hV ok sp ho hZ hR
      go_enter Tryz.func13, Tryz.ntmps13
      go_wp2_with fail
      refine (HG _).mono ?_
      rintro e w1 ⟨rfl, rfl⟩
      go_wp2_with fail
      refine (HBt _).mono ?_
      rintro e w1 ⟨rfl, rfl⟩
      go_wp2_with fail
      refine (HIn.out _).mono ?_
      rintro e w1 ⟨l, rfl, hl, ⟨hL, hlV⟩, b1⟩
      have HV := Lib.hid (var_k (t := 37) w1 HZ.out hl)
      have HLn := Lib.hid hl
      have hf := low_first hL.lim
      rw [hlV, HVp.out] at hf
      obtain ⟨v, hv⟩ : ∃ v, l.getD 0 0 = v := ⟨_, rfl⟩
      rw [hv] at hf
      have hv24 : v < 16777216 := by omega
      have hvo : v % 2 = 1 := by have := HVo.out; omega
      have HF := Lib.hid hf
      have HO := Lib.hid hvo
      obtain ⟨c1, _⟩ := HV.out.2.1.cell (i := 0) (by omega)
      rw [hv] at c1
      have BB := Lib.hid (bt b1 HV.out.2.2)
      clear hL hlV b1 HG HBt HIn hf hv hvo hl
      go_wp2_with (first | refine store_k kt32 rfl (.tmp 3) (.tmp 15) rfl rfl rfl HV.out.1 HLn.out ?_)
      clear hz HZ c1
      generalize World.setRow _ _ _ = w3 at *
      clear HV HLn
      go_loop [5, 19] (fun xv iv => ∃ (i : Nat) (x : Int), i ≤ 3 ∧ iv = .int .i64 i ∧ xv = .int .u32 x ∧ 0 ≤ x ∧ x < 4294967296 ∧ Hid (x = lowAt v i)) (fun _ iv => 3 - (intOf iv).toNat)
      case atStart => exact ⟨0, v, by omega, rfl, rfl, by omega, by omega, rfl⟩
      case round =>
        obtain ⟨i, x, hi, rfl, rfl, x0, x1, hx⟩ := hrel
        by_cases hlt : i < 3
        · have hlt' : (i : Int) < 3 := by omega
          obtain ⟨P, hP⟩ : ∃ P, (v : Int) * x = P := ⟨_, rfl⟩
          obtain ⟨A, hA⟩ : ∃ A, P % 4294967296 = A := ⟨_, rfl⟩
          obtain ⟨C, hC⟩ : ∃ C, (2 - A) % 4294967296 = C := ⟨_, rfl⟩
          obtain ⟨Q, hQ⟩ : ∃ Q, x * C = Q := ⟨_, rfl⟩
          obtain ⟨D, hD⟩ : ∃ D, Q % 4294967296 = D := ⟨_, rfl⟩
          have d1 : 0 ≤ D := by rw [← hD]; exact Int.emod_nonneg _ (by decide)
          have d2 : D < 4294967296 := by rw [← hD]; exact Int.emod_lt_of_pos _ (by decide)
          have HN : Hid (D = lowAt v (i + 1)) := by show D = lowStep32 v (lowAt v i); rw [← hx.out]; unfold lowStep32; rw [hP, hA, hC, hQ, hD]
          clear hx
          go_wp2
          go_round
          case rel => exact ⟨i + 1, D, by omega, by go_num, (by first | rfl | (rw [hD]) | (rw [hQ, hD])), d1, d2, HN⟩
          case measure => simp [intOf]; omega
        · obtain rfl : i = 3 := by omega
          have E : Hid ((-x) % 16777216 = R) := by
            show _ = _
            have := low_told HF.out.symm HO.out hx.out x0 x1
            rw [← HR.out, ← this]
            omega
          clear hx
          go_wp2
          go_ret
          exact ⟨congrArg (fun x => Ending.returned (Value.int .i64 x)) E.out, BB.out⟩
    · rw [decide_eq_false ho, if_neg (by decide)]
      rw [show gV p % 2 = 0 from by omega] at HBt
      clear ho ok
      go_enter Tryz.func13, Tryz.ntmps13
      go_wp2_with fail
      refine (HG _).mono ?_
      rintro e w1 ⟨rfl, rfl⟩
      go_wp2_with fail
      refine (HBt _).mono ?_
      rintro e w1 ⟨rfl, rfl⟩
      go_wp2
      go_ret
      exact ⟨rfl, Below.refl _ _⟩
end Go.Proofs.YtdbjjnbmbeabeaaGreat
