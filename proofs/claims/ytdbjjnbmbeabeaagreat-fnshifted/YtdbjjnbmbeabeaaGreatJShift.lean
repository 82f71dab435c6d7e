/-
  The contracts of impl's takeShift, ShiftOut and ShiftMul.
-/
import Derived.Test.YtdbjjnbmbeabeaaGreatJShiftA
import Derived.Test.YtdbjjnbmbeabeaaGreatXProd
import Derived.Test.YtdbjjnbmbeabeaaGreatXTake
namespace Go.Proofs.YtdbjjnbmbeabeaaGreat
open Go.RowKit

/-- What is told of a sum: the rest that, times the shift, is that of the sum. -/
theorem shift_out {p : ByteArray} (ho : oddB p = true) {S T V : Nat} (e : 16777216 ^ limbN p * V = S + T * gV p) (hV : V < 2 * gV p) :
    (V < gV p → shOutN S p = V) ∧ (gV p ≤ V → shOutN S p = V - gV p) := by
  have h1 : 0 < gV p := by have := (modB_parts (oddB_parts ho).1).2; omega
  have key : V * shN p % gV p = S % gV p := by
    unfold shN
    rw [Nat.mul_mod_mod, Nat.mul_comm V, e, Nat.add_mul_mod_self_right]
  refine ⟨fun h => shOutN_eq ho h key, fun h => shOutN_eq ho (by omega) ?_⟩
  rw [← key]
  have : V * shN p = (V - gV p) * shN p + gV p * shN p := by rw [← Nat.add_mul]; congr 1; omega
  rw [this, Nat.add_mul_mod_self_left]
theorem p_limbs (p : ByteArray) : gV p < 16777216 ^ limbN p := by
  have h := bN_lt p.data.toList
  refine Nat.lt_of_lt_of_le h ?_
  rw [show (16777216 : Nat) = 256 ^ 3 from rfl, ← Nat.pow_mul]
  refine Nat.pow_le_pow_right (by omega) ?_
  show p.size ≤ _
  unfold limbN
  omega
def TakeShiftP (R : ByteArray) (g : Nat) (w : World) (e : Ending) (w' : World) : Prop := e = .returned (.string R) ∧ Below g w w'
set_option maxRecDepth 8000 in
set_option maxHeartbeats 4000000 in
theorem takeShift_any (g S : Nat) (ls : List Nat) (p : ByteArray) (w : World) (ho : oddB p = true) (h : RowK .u64 41 w g ls) (hs : SumW S (limbN p) ls) (hS : S < gV p * 16777216 ^ limbN p) :
    Calls Tryz.prog 25 #[.pointer (some ⟨g, 0, none⟩), .string p] w (TakeShiftP (gS (shOutN S p)) g w) := by
  obtain ⟨hm, hodd⟩ := oddB_parts ho
  obtain ⟨okp, h1⟩ := modB_parts hm
  have sp := okG_size okp
  have hPL := p_limbs p
  have hPG := gV_lt okp
  have HL := limbsOf_s p
  have EL : limbG p = (limbN p : Int) := by unfold limbG; rw [okp]; rfl
  rw [EL] at HL
  have hL : limbN p ≤ 54 := by unfold limbN; omega
  have HIn := Lib.hid (fun w => shiftRowOf32_any p w sp)
  have HLow := Lib.hid (lowInverse_i p)
  have eLow : lowI p = (lowN (gV p) : Int) := by unfold lowI lowB; rw [okp, decide_eq_true hodd]; rfl
  rw [eLow] at HLow
  obtain ⟨_, hm24, hmP⟩ := low_prop hodd
  have HT := Lib.hid (fun T V => shift_out (T := T) (V := V) (S := S) ho)
  have eLN : (p.size + 2) / 3 = limbN p := rfl
  obtain ⟨R, hR⟩ : ∃ R, gS (shOutN S p) = R := ⟨_, rfl⟩
  have HR := Lib.hid hR
  rw [hR]
  obtain ⟨Z, hZ⟩ : ∃ Z, rowK .u32 Z108 = Z := ⟨_, rfl⟩
  have hz := (zero_k Tryz.infoR32).1
  rw [hZ] at hz
  have HZ := Lib.hid hZ
  have ltg := h.lt
  have HG := Lib.hid h
  have HSW := Lib.hid hs
  have HSb := Lib.hid hS
  obtain ⟨P, hP⟩ : ∃ P, gV p = P := ⟨_, rfl⟩
  rw [hP] at hPL hPG HLow hm24 hmP HT HSb
  obtain ⟨m, hmm⟩ : ∃ m, lowN P = m := ⟨_, rfl⟩
  rw [hmm] at HLow hm24 hmP
  have HPL := Lib.hid hPL
  have HPG := Lib.hid hPG
  have HMP := Lib.hid hmP
  have HPp := Lib.hid hP
  have HLN := Lib.hid eLN
  have mw : IntKind.u64.wrap (m : Int) = (m : Int) := by rw [IntKind.wrap_u64]; omega
  generalize limbN p = L at *
  clear ho hm hodd okp h1 sp EL eLow hR hZ h hs hS hP hPL hPG hmP hmm eLN
  go_enter Tryz.func25, Tryz.ntmps25
  go_wp2_with fail
  refine (HL _).mono ?_
  rintro e w0 ⟨rfl, rfl⟩
  go_wp2_with fail
  refine (HIn.out _).mono ?_
  rintro e w1 ⟨lp, rfl, hl, hOf, b1⟩
  have HV := Lib.hid (var_k (t := 37) w1 HZ.out hl)
  have HLn := Lib.hid hl
  have b2 := bt b1 HV.out.2.2
  have HB2 := Lib.hid b2
  have HG2 := Lib.hid (HG.out.below b2 ltg)
  have hOf2 : LRow lp L ∧ lV lp = P := by have := hOf; unfold OfS at this; rw [HLN.out, HPp.out] at this; exact this
  have HOf := Lib.hid hOf2
  have hgm : w.heap.size ≤ w1.heap.size := b1.size
  clear b1 hl hOf hOf2 b2 HIn HG HL
  go_wp2_with (first | refine store_k kt32 rfl (.tmp 6) (.tmp 11) rfl rfl rfl HV.out.1 HLn.out ?_)
  have HM2 := Lib.hid HV.out.2.1
  clear HV HLn
  generalize World.setRow _ _ _ = w2 at *
  refine (HLow.out _).mono ?_
  rintro e w3 ⟨rfl, b3⟩
  have HG3 := Lib.hid (HG2.out.below b3 HG2.out.lt)
  have HM3 := Lib.hid (HM2.out.below b3 HM2.out.lt)
  have HB3 := Lib.hid (bt HB2.out b3)
  clear b3 HG2 HM2 HB2 HLow
  obtain ⟨gm, hgm2⟩ : ∃ gm, w1.heap.size = gm := ⟨_, rfl⟩
  rw [hgm2] at HM3 hgm
  rw [hgm2]
  clear hgm2
  have ltm := HM3.out.lt
  have hne : gm ≠ g := by omega
  go_wp2_with fail
  refine (clearLow_any g gm L m S P ls lp w3 HG3.out HM3.out hne HSW.out HOf.out.1 hL HOf.out.2 hm24 HMP.out).mono ?_
  rintro e w4 ⟨l, rfl, hC, hA⟩
  have ltg3 := HG3.out.lt
  obtain ⟨T, hT, hV⟩ := hC.last HSb.out
  have HM4 := Lib.hid (HM3.out.onlyAt hA.o hne)
  have HG4 := Lib.hid hA.row
  have HB4 : Hid (Below g w w4) := (HB3.out.mono (Nat.le_of_lt ltg)).trans (hA.o.below (Nat.le_refl _))
  have HCar := Lib.hid (carried_any g L P l w4 hA.row hL (fun k => hC.fits hL k) hC.zero hV HPL.out)
  have HTT := Lib.hid (HT.out T _ hT hV)
  clear HG3 HM3 HB3 hC hA HT hT HSW HSb HMP
  go_wp2_with fail
  refine HCar.out.mono ?_
  rintro e w5 ⟨lr, rfl, hl, hR5, b5⟩
  have HV5 := Lib.hid (var_k (t := 37) w5 HZ.out hl)
  have HLn := Lib.hid hl
  have b6 := bt b5 HV5.out.2.2
  have HM6 := Lib.hid (HM4.out.below b6 HM4.out.lt)
  have HB6 : Hid (Below g w _) := HB4.out.trans (b6.mono (by have := HG4.out.lt; omega))
  have ltm4 := HM4.out.lt
  have hgr : w4.heap.size ≤ w5.heap.size := b5.size
  have ltg4 := HG4.out.lt
  have HR5 := Lib.hid hR5
  clear b5 b6 hl hR5 HM4 HB4 HCar
  go_wp2_with (first | refine store_k kt32 rfl (.tmp 7) (.tmp 20) rfl rfl rfl HV5.out.1 HLn.out ?_)
  have HR6 := Lib.hid HV5.out.2.1
  clear HV5 HLn hz HZ HG4
  generalize World.setRow _ _ _ = w6 at *
  obtain ⟨gr, hgr2⟩ : ∃ gr, w5.heap.size = gr := ⟨_, rfl⟩
  rw [hgr2] at HR6 hgr
  rw [hgr2]
  clear hgr2
  have hne2 : gm ≠ gr := by omega
  have hV5 : lV lr = lV (l.drop L) := HR5.out.2
  refine (rowBelow_any gr gm (L + 1) lr lp w6 HR6.out HM6.out HR5.out.1 (HOf.out.1.more (by omega)) (by omega)).mono ?_
  rintro e w7 ⟨rfl, b7⟩
  rw [hV5, HOf.out.2]
  have HR7 := Lib.hid (HR6.out.below b7 HR6.out.lt)
  have HM7 := Lib.hid (HM6.out.below b7 HM6.out.lt)
  have HB7 : Hid (Below g w w7) := HB6.out.trans (b7.mono (by have := HR6.out.lt; omega))
  clear b7 HR6 HM6 HB6
  by_cases hlt : lV (l.drop L) < P
  · rw [decide_eq_true hlt]
    have HE : Hid (gS (lV (l.drop L)) = R) := by show _ = _; rw [← HR.out, HTT.out.1 hlt]
    have HGr := Lib.hid (rowGreat_any gr (L + 1) (lV (l.drop L)) lr w7 HR7.out HR5.out.1 hV5 (Nat.lt_trans hlt HPG.out))
    rw [HE.out] at HGr
    have ltr := HR7.out.lt
    clear HE hlt HTT HR5 hV5 HPG
    go_wp2_with fail
    refine HGr.out.mono ?_
    rintro e w8 ⟨rfl, b8⟩
    have HB8 : Hid (Below g w w8) := HB7.out.trans (b8.mono (by omega))
    clear b8 HGr HB7
    go_wp2
    go_ret
    exact ⟨rfl, HB8.out⟩
  · rw [decide_eq_false hlt]
    have HE : Hid (gS (lV (l.drop L) - P) = R) := by show _ = _; rw [← HR.out, HTT.out.2 (by omega)]
    have HTk := Lib.hid (takeAway_any gr gm (L + 1) lr lp w7 HR7.out HM7.out hne2 HR5.out.1 (HOf.out.1.more (by omega)) (by omega) (by rw [hV5, HOf.out.2]; omega))
    rw [hV5, HOf.out.2] at HTk
    have ltr := HR7.out.lt
    have hdl : lV (l.drop L) - P < GB := by have := HPG.out; omega
    clear hlt HTT HR5 hV5 HPG
    go_wp2_with fail
    refine HTk.out.mono ?_
    rintro e w8 ⟨l8, rfl, ⟨h81, h82⟩, hA8⟩
    have HB8 : Hid (Below g w w8) := HB7.out.trans (hA8.o.below (by omega))
    have HGr := Lib.hid (rowGreat_any gr (L + 1) _ l8 w8 hA8.row h81 h82 hdl)
    rw [HE.out] at HGr
    have ltr8 := hA8.row.lt
    clear HTk hA8 h81 h82 HE hdl HB7
    go_wp2_with fail
    refine HGr.out.mono ?_
    rintro e w9 ⟨rfl, b9⟩
    have HB9 : Hid (Below g w w9) := HB8.out.trans (b9.mono (by omega))
    clear b9 HGr HB8
    go_wp2
    go_ret
    exact ⟨rfl, HB9.out⟩

theorem lt_shift {p : ByteArray} {x : Nat} (h : x < gV p) : x < gV p * 16777216 ^ limbN p := by
  have hp : 0 < 16777216 ^ limbN p := Nat.pow_pos (by omega)
  have : gV p * 1 ≤ gV p * 16777216 ^ limbN p := Nat.mul_le_mul_left _ hp
  omega
/-- A rest has no more limbs than p. -/
theorem rest_limbs {a p : ByteArray} (hr : restB a p = true) {l : List Nat} (h : OfS a l) : LRow l (limbN p) ∧ lV l = gV a := by
  obtain ⟨_, _, hap⟩ := restB_parts hr
  refine ⟨⟨h.1.lim, h.1.len, fun k hk => high_zero h.1.lim (m := limbN p) ?_ hk⟩, h.2⟩
  rw [h.2]
  exact Nat.lt_trans hap (p_limbs p)
set_option maxRecDepth 8000 in
set_option maxHeartbeats 2000000 in
theorem shiftOut_i (a p : ByteArray) (w : World) : Calls Tryz.prog 16 #[.string a, .string p] w fun e w' => e = .returned (.string (shOutR a p)) ∧ Below w.heap.size w w' := by
  have HO := mayShift_s p
  have HR := restOk_s a p
  unfold shOutR
  cases ho : oddB p with
  | false =>
    rw [ho] at HO
    rw [Bool.false_and, if_neg (by decide)]
    go_enter Tryz.func16, Tryz.ntmps16
    go_wp2_with fail
    refine (HO _).mono ?_
    rintro e w1 ⟨rfl, rfl⟩
    go_wp2
    go_ret
    exact ⟨rfl, Below.refl _ _⟩
  | true =>
    rw [ho] at HO
    rw [Bool.true_and]
    cases hr : restB a p with
    | false =>
      rw [hr] at HR
      rw [if_neg (by decide)]
      go_enter Tryz.func16, Tryz.ntmps16
      go_wp2_with fail
      refine (HO _).mono ?_
      rintro e w1 ⟨rfl, rfl⟩
      go_wp2_with fail
      refine (HR _).mono ?_
      rintro e w1 ⟨rfl, rfl⟩
      go_wp2
      go_ret
      exact ⟨rfl, Below.refl _ _⟩
    | true =>
      rw [hr] at HR
      rw [if_pos rfl]
      obtain ⟨oka, okp, hap⟩ := restB_parts hr
      have HIn := Lib.hid (fun w => shiftRowOf64_any a w (okG_size oka))
      have HTk := Lib.hid (fun g ls w h1 h2 => takeShift_any g (gV a) ls p w ho h1 h2 (lt_shift hap))
      have HRL := Lib.hid (fun l => rest_limbs (l := l) hr)
      generalize gS (shOutN (gV a) p) = R at *
      obtain ⟨Z, hZ⟩ : ∃ Z, rowK .u64 Z108 = Z := ⟨_, rfl⟩
      have hz := (zero_k Tryz.infoR64).1
      rw [hZ] at hz
      have HZ := Lib.hid hZ
      clear hZ ho hr oka okp hap
      go_enter Tryz.func16, Tryz.ntmps16
      go_wp2_with fail
      refine (HO _).mono ?_
      rintro e w1 ⟨rfl, rfl⟩
      go_wp2_with fail
      refine (HR _).mono ?_
      rintro e w1 ⟨rfl, rfl⟩
      go_wp2_with fail
      refine (HIn.out _).mono ?_
      rintro e w1 ⟨l, rfl, hl, hOf, b1⟩
      have HV := Lib.hid (var_k (t := 41) w1 HZ.out hl)
      have HLn := Lib.hid hl
      have HB2 := Lib.hid (bt b1 HV.out.2.2)
      have hS := HRL.out l hOf
      have hS2 := hS.1.sum
      rw [hS.2] at hS2
      have HS := Lib.hid hS2
      have hsz := b1.size
      clear b1 hl hOf hS hS2 HIn HO HR HRL
      go_wp2_with (first | refine store_k kt64 rfl (.tmp 5) (.tmp 16) rfl rfl rfl HV.out.1 HLn.out ?_)
      have HM2 := Lib.hid HV.out.2.1
      clear HV HLn hz HZ
      generalize World.setRow _ _ _ = w2 at *
      refine (HTk.out _ _ _ HM2.out HS.out).mono ?_
      rintro e w3 ⟨rfl, b3⟩
      have HB3 := Lib.hid (HB2.out.trans (b3.mono hsz))
      clear b3 HB2 HTk HM2 HS
      go_wp2
      go_ret
      exact ⟨rfl, HB3.out⟩
theorem mul_shift {a b p : ByteArray} (ha : restB a p = true) (hb : restB b p = true) : gV a * gV b < gV p * 16777216 ^ limbN p ∧ shOutN (gV a * gV b) p = shOutN (gV a * gV b % gV p) p := by
  obtain ⟨_, _, hap⟩ := restB_parts ha
  obtain ⟨_, _, hbp⟩ := restB_parts hb
  have hP := p_limbs p
  have h0 : 0 < gV p := by omega
  constructor
  · refine Nat.lt_of_lt_of_le (Nat.mul_lt_mul'' hap hbp) (Nat.mul_le_mul_left _ (by omega))
  · unfold shOutN
    rw [Nat.mod_mul_mod]
set_option maxRecDepth 8000 in
set_option maxHeartbeats 4000000 in
theorem shiftMul_i (a b p : ByteArray) (w : World) : Calls Tryz.prog 7 #[.string a, .string b, .string p] w fun e w' => e = .returned (.string (shMulR a b p)) ∧ Below w.heap.size w w' := by
  have HO := mayShift_s p
  have HR := restOk_s a p
  have HRb := restOk_s b p
  unfold shMulR twoB
  cases ho : oddB p with
  | false =>
    rw [ho] at HO
    rw [Bool.false_and, if_neg (by decide)]
    go_enter Tryz.func7, Tryz.ntmps7
    go_wp2_with fail
    refine (HO _).mono ?_
    rintro e w1 ⟨rfl, rfl⟩
    go_wp2
    go_ret
    exact ⟨rfl, Below.refl _ _⟩
  | true =>
    rw [ho] at HO
    rw [(oddB_parts ho).1, Bool.true_and, Bool.true_and]
    cases hr : restB a p with
    | false =>
      rw [hr] at HR
      rw [Bool.false_and, if_neg (by decide)]
      go_enter Tryz.func7, Tryz.ntmps7
      go_wp2_with fail
      refine (HO _).mono ?_
      rintro e w1 ⟨rfl, rfl⟩
      go_wp2_with fail
      refine (HR _).mono ?_
      rintro e w1 ⟨rfl, rfl⟩
      go_wp2
      go_ret
      exact ⟨rfl, Below.refl _ _⟩
    | true =>
      rw [hr] at HR
      rw [Bool.true_and]
      cases hrb : restB b p with
      | false =>
        rw [hrb] at HRb
        rw [if_neg (by decide)]
        go_enter Tryz.func7, Tryz.ntmps7
        go_wp2_with fail
        refine (HO _).mono ?_
        rintro e w1 ⟨rfl, rfl⟩
        go_wp2_with fail
        refine (HR _).mono ?_
        rintro e w1 ⟨rfl, rfl⟩
        go_wp2_with fail
        refine (HRb _).mono ?_
        rintro e w1 ⟨rfl, rfl⟩
        go_wp2
        go_ret
        exact ⟨rfl, Below.refl _ _⟩
      | true =>
        rw [hrb] at HRb
        rw [if_pos rfl]
        obtain ⟨oka, okp, hap⟩ := restB_parts hr
        obtain ⟨okb, _, hbp⟩ := restB_parts hrb
        obtain ⟨hS, hE⟩ := mul_shift hr hrb
        have sp := okG_size okp
        rw [← hE]
        have HA := Lib.hid (fun w => shiftRowOf32_any a w (okG_size oka))
        have HB := Lib.hid (fun w => shiftRowOf32_any b w (okG_size okb))
        have HTk := Lib.hid (fun g ls w h1 h2 => takeShift_any g (gV a * gV b) ls p w ho h1 h2 hS)
        have HRA := Lib.hid (fun l => rest_limbs (l := l) hr)
        have HRB := Lib.hid (fun l => rest_limbs (l := l) hrb)
        have HL := limbsOf_s p
        have EL : limbG p = (limbN p : Int) := by unfold limbG; rw [okp]; rfl
        rw [EL] at HL
        have hL : limbN p ≤ 54 := by unfold limbN; omega
        generalize gS (shOutN (gV a * gV b) p) = R at *
        generalize limbN p = L at *
        obtain ⟨Z, hZ⟩ : ∃ Z, rowK .u32 Z108 = Z := ⟨_, rfl⟩
        have hz := (zero_k Tryz.infoR32).1
        rw [hZ] at hz
        have HZ := Lib.hid hZ
        obtain ⟨Y, hY⟩ : ∃ Y, rowK .u64 Z108 = Y := ⟨_, rfl⟩
        have hy := (zero_k Tryz.infoR64).1
        rw [hY] at hy
        have HY := Lib.hid hY
        clear hZ hY ho hr hrb oka okp okb hap hbp hS hE EL sp
        go_enter Tryz.func7, Tryz.ntmps7
        go_wp2_with fail
        refine (HO _).mono ?_
        rintro e w1 ⟨rfl, rfl⟩
        go_wp2_with fail
        refine (HR _).mono ?_
        rintro e w1 ⟨rfl, rfl⟩
        go_wp2_with fail
        refine (HRb _).mono ?_
        rintro e w1 ⟨rfl, rfl⟩
        go_wp2_with fail
        refine (HA.out _).mono ?_
        rintro e w1 ⟨la, rfl, hla, hOa, b1⟩
        go_wp2_with fail
        refine (HB.out _).mono ?_
        rintro e w2 ⟨lb, rfl, hlb, hOb, b2⟩
        have HW := Lib.hid (WorkK.start .u32 37 w2 HZ.out)
        have HLa := Lib.hid hla
        have HLb := Lib.hid hlb
        have HOa := Lib.hid (HRA.out la hOa)
        have HOb := Lib.hid (HRB.out lb hOb)
        have HX1 := Lib.hid (HW.out.out.stored hla)
        have HX2 := Lib.hid (HW.out.row.storedApart (cs := rowK .u32 la) (show w2.heap.size + 1 ≠ w2.heap.size by omega))
        have HX3 := Lib.hid (HX2.out.stored hlb)
        have HX4 := Lib.hid (HX1.out.storedApart (cs := rowK .u32 lb) (show w2.heap.size ≠ w2.heap.size + 1 by omega))
        have HB2 := Lib.hid (below_setRow (below_setRow HW.out.b (Nat.le_refl _) (rowK .u32 la)) (show w2.heap.size ≤ w2.heap.size + 1 by omega) (rowK .u32 lb))
        have HB3 := Lib.hid (bt (bt b1 b2) HB2.out)
        have hs1 := b1.size
        have hs2 := b2.size
        clear b1 b2 hla hlb hOa hOb HA HB HRA HRB HO HR HRb HB2
        go_wp2_with (first | refine store_k kt32 rfl (.tmp 7) (.tmp 26) rfl rfl rfl HW.out.out HLa.out ?_ | refine store_k kt32 rfl (.tmp 8) (.tmp 28) rfl rfl rfl HX2.out HLb.out ?_)
        clear HW HX1 HX2 hz HZ HLa HLb
        generalize World.setRow (World.setRow _ _ _) _ _ = w3 at *
        refine (HL _).mono ?_
        rintro e w4 ⟨rfl, rfl⟩
        go_wp2_with fail
        refine (product_any _ _ L la lb w3 HX4.out HX3.out HOa.out.1 HOb.out.1 hL).mono ?_
        rintro e w4 ⟨l, rfl, hl, hSum, b4⟩
        rw [HOa.out.2, HOb.out.2] at hSum
        have HV := Lib.hid (var_k (t := 41) w4 HY.out hl)
        have HLn := Lib.hid hl
        have HS := Lib.hid hSum
        have HB5 := Lib.hid (bt (bt HB3.out b4) HV.out.2.2)
        have hs4 := b4.size
        have hs3 := HB3.out.size
        clear b4 hl hSum HB3 HX3 HX4 HOa HOb HL
        go_wp2_with (first | refine store_k kt64 rfl (.tmp 9) (.tmp 31) rfl rfl rfl HV.out.1 HLn.out ?_)
        have HM5 := Lib.hid HV.out.2.1
        clear HV HLn hy HY
        generalize World.setRow _ _ _ = w5 at *
        refine (HTk.out _ _ _ HM5.out HS.out).mono ?_
        rintro e w6 ⟨rfl, b6⟩
        have HB6 := Lib.hid (HB5.out.trans (b6.mono (show w.heap.size ≤ w4.heap.size by omega)))
        clear b6 HB5 HTk HM5 HS
        go_wp2
        go_ret
        exact ⟨rfl, HB6.out⟩
end Go.Proofs.YtdbjjnbmbeabeaaGreat
