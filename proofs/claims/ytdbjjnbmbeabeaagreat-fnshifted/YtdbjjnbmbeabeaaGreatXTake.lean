/-
  The contracts of below, takeAway and great at impl's rows of 32 bits.
-/
import Derived.Test.YtdbjjnbmbeabeaaGreatJBytes
import Derived.Test.YtdbjjnbmbeabeaaGreatXClear
namespace Go.Proofs.YtdbjjnbmbeabeaaGreat
open Go.RowKit

def LessP (b : Bool) (w : World) (e : Ending) (w' : World) : Prop := e = .returned (.bool b) ∧ Below w.heap.size w w'
theorem ret_bool {a b : Bool} (h : a = b) : Ending.returned (.bool a) = .returned (.bool b) := by rw [h]
set_option maxRecDepth 8000 in
set_option maxHeartbeats 2000000 in
theorem rowBelow_any (gx gy e : Nat) (lx ly : List Nat) (w : World) (hx : RowK .u32 37 w gx lx) (hy : RowK .u32 37 w gy ly) (vx : LRow lx e) (vy : LRow ly e) (he : e ≤ 108) :
    Calls Tryz.prog 50 #[.pointer (some ⟨gx, 0, none⟩), .pointer (some ⟨gy, 0, none⟩), .int .i64 (e : Int)] w (LessP (decide (lV lx < lV ly)) w) := by
  have HX := Lib.hid hx
  have HY := Lib.hid hy
  have HVX := Lib.hid vx
  have HVY := Lib.hid vy
  have ltx := hx.lt
  have lty := hy.lt
  have H0 := Lib.hid (vx.hi0.trans vy.hi0.symm)
  have HB : Hid (Below w.heap.size w w) := Below.refl _ _
  clear hx hy vx vy
  obtain ⟨R, hR⟩ : ∃ R, decide (lV lx < lV ly) = R := ⟨_, rfl⟩
  rw [hR]
  have HR := Lib.hid hR
  clear hR
  go_enter Tryz.func50, Tryz.ntmps50
  go_wp2
  go_loopw [7] (fun iv wr => ∃ (k : Nat), k ≤ e ∧ iv = .int .i64 ((k : Int) - 1) ∧ Hid (lV lx / 16777216 ^ k = lV ly / 16777216 ^ k) ∧ Hid (Below w.heap.size w wr)) (fun iv _ => (intOf iv + 1).toNat)
  case atStart => exact ⟨e, Nat.le_refl _, rfl, H0, HB⟩
  case round =>
    clear HB H0
    obtain ⟨k, hk, rfl, hI, hB⟩ := hrel
    by_cases h0 : 0 < k
    · obtain ⟨j, rfl⟩ : ∃ j, k = j + 1 := ⟨k - 1, by omega⟩
      have hji : (((j + 1 : Nat) : Int) - 1) = (j : Int) := by omega
      rw [hji]
      have hj0 : (0 : Int) ≤ (j : Int) := by omega
      have hj81 : (j : Int) < 108 := by omega
      obtain ⟨x1, _⟩ := (HX.out.below hB.out ltx).cell (i := j) (by omega)
      obtain ⟨y1, _⟩ := (HY.out.below hB.out lty).cell (i := j) (by omega)
      obtain ⟨x, hx⟩ : ∃ x, lx.getD j 0 = x := ⟨_, rfl⟩
      obtain ⟨y, hy⟩ : ∃ y, ly.getD j 0 = y := ⟨_, rfl⟩
      have HE := Lib.hid (less_high HVX.out.lim HVY.out.lim hI.out hx hy)
      have HN : Hid (x = y → lV lx / 16777216 ^ j = lV ly / 16777216 ^ j) := fun e => (hi_next HVX.out.lim HVY.out.lim hI.out).1 (by rw [hx, hy, e])
      rw [hx] at x1
      rw [hy] at y1
      clear hx hy hI hji
      by_cases hxy : x = y
      · have hne : ((x : Int) != (y : Int)) = false := by simp; omega
        have HN2 := Lib.hid (HN.out hxy)
        clear HN HE hxy
        go_wp2_with fail
        go_quiet (fail)
        have HB2 := Lib.hid (bdN hB.out nq)
        clear hB x1 y1
        generalize wr.drewN nq = w1 at *
        go_wp2
        go_roundw
        case rel => exact ⟨j, by omega, by go_num, HN2, HB2⟩
        case measure => simp [intOf]
      · have hne : ((x : Int) != (y : Int)) = true := by simp; omega
        have HE2 : Hid (decide (x < y) = R) := by show _ = _; rw [← HR.out, ← HE.out hxy]; simp
        clear HN HE hxy
        go_wp2_with fail
        go_quiet (fail)
        have HB2 := Lib.hid (bdN hB.out nq)
        change (wr.drewN nq).cell? _ = _ at x1
        change (wr.drewN nq).cell? _ = _ at y1
        clear hB
        generalize wr.drewN nq = w1 at *
        go_wp2_with fail
        go_quiet (fail)
        have HB3 := Lib.hid (bdN HB2.out nq)
        clear HB2 x1 y1
        generalize w1.drewN nq = w2 at *
        go_wp2
        go_ret
        exact ⟨ret_bool HE2.out, HB3.out⟩
    · obtain rfl : k = 0 := by omega
      have hneg : ¬ (0 : Int) ≤ ((0 : Nat) : Int) - 1 := by omega
      have HE : Hid (false = R) := by
        have := hI.out
        rw [Nat.pow_zero, Nat.div_one, Nat.div_one] at this
        show false = R
        rw [← HR.out, this, decide_eq_false (Nat.lt_irrefl _)]
      clear hI
      go_wp2
      go_ret
      exact ⟨ret_bool HE.out, hB.out⟩

def TakeP (V e g : Nat) (w : World) (en : Ending) (w' : World) : Prop := ∃ l, en = .returned (.tuple #[]) ∧ (LRow l e ∧ lV l = V) ∧ AtK .u32 37 g w w' l
theorem take_nums {x y b n u d : Nat} (hx : x < 16777216) (hy : y < 16777216) (hb : b ≤ 1) (hn : 16777216 + x - y - b = n) (hd : n % 16777216 = d) (hu : n / 16777216 = u) :
    ∃ A C : Nat, IntKind.u32.wrap (16777216 + (x : Int)) = (A : Int) ∧ (16777216 + (x : Int)) % 4294967296 = (A : Int) ∧ IntKind.u32.wrap ((A : Int) - (y : Int)) = (C : Int) ∧ ((A : Int) - (y : Int)) % 4294967296 = (C : Int) ∧ IntKind.u32.wrap ((C : Int) - (b : Int)) = (n : Int) ∧ ((C : Int) - (b : Int)) % 4294967296 = (n : Int) ∧
      (n : Int) % 16777216 = (d : Int) ∧ (n : Int) / 16777216 = (u : Int) ∧ (1 - (u : Int)) % 4294967296 = ((1 - u : Nat) : Int) ∧ 1 - u ≤ 1 := by
  simp only [IntKind.wrap_u32]
  exact ⟨16777216 + x, 16777216 + x - y, by omega, by omega, by omega, by omega, by omega, by omega, by omega, by omega, by omega, by omega⟩
set_option maxRecDepth 8000 in
set_option maxHeartbeats 2000000 in
theorem takeAway_any (gx gy e : Nat) (lx ly : List Nat) (w : World) (hx : RowK .u32 37 w gx lx) (hy : RowK .u32 37 w gy ly) (hne : gy ≠ gx) (vx : LRow lx e) (vy : LRow ly e) (he : e ≤ 108) (hle : lV ly ≤ lV lx) :
    Calls Tryz.prog 51 #[.pointer (some ⟨gx, 0, none⟩), .pointer (some ⟨gy, 0, none⟩), .int .i64 (e : Int)] w (TakeP (lV lx - lV ly) e gx w) := by
  have HY := Lib.hid hy
  have HVX := Lib.hid vx
  have HVY := Lib.hid vy
  have HLE := Lib.hid hle
  have HW : Hid (AtK .u32 37 gx w w lx) := ⟨hx, OnlyAt.refl _ _⟩
  clear hx hy vx vy hle
  go_enter Tryz.func51, Tryz.ntmps51
  go_wp2
  go_loopw [6, 10] (fun bv iv wr => ∃ (i b : Nat) (l : List Nat), i ≤ e ∧ b ≤ 1 ∧ iv = .int .i64 i ∧ bv = .int .u32 b ∧ Hid (TakeW lx ly i b l) ∧ Hid (AtK .u32 37 gx w wr l)) (fun _ iv _ => e - (intOf iv).toNat)
  case atStart => exact ⟨0, 0, lx, Nat.zero_le _, by omega, rfl, rfl, TakeW.start HVX.out ly, HW⟩
  case round =>
    clear HW
    obtain ⟨i, b, l, hie, hb, rfl, rfl, hI, hW⟩ := hrel
    by_cases hlt : i < e
    · have hlt' : (i : Int) < (e : Int) := by omega
      obtain ⟨x1, f1⟩ := hW.out.row.cell (i := i) (by omega)
      obtain ⟨y1, _⟩ := (HY.out.onlyAt hW.out.o hne).cell (i := i) (by omega)
      rw [hI.out.rest i (Nat.le_refl _)] at x1
      have bx := getD_lt HVX.out.lim i
      have by_ := getD_lt HVY.out.lim i
      have hNx := hI.out.next (n := 16777216 + lx.getD i 0 - ly.getD i 0 - b) (by omega) HVX.out.lim HVY.out.lim rfl
      obtain ⟨x, hx⟩ : ∃ x, lx.getD i 0 = x := ⟨_, rfl⟩
      obtain ⟨y, hy⟩ : ∃ y, ly.getD i 0 = y := ⟨_, rfl⟩
      rw [hx] at x1 bx hNx
      rw [hy] at y1 by_ hNx
      obtain ⟨n, hn⟩ : ∃ n, 16777216 + x - y - b = n := ⟨_, rfl⟩
      obtain ⟨d, hd⟩ : ∃ d, n % 16777216 = d := ⟨_, rfl⟩
      obtain ⟨u, hu⟩ : ∃ u, n / 16777216 = u := ⟨_, rfl⟩
      rw [hn, hd, hu] at hNx
      have hnb : n < 4294967296 := by omega
      obtain ⟨A, C, m1, m2, m3, m4, m5, m6, m7, m8, m9, m10⟩ := take_nums bx by_ hb hn hd hu
      obtain ⟨v, hv⟩ : ∃ v, 1 - u = v := ⟨_, rfl⟩
      rw [hv] at m9 m10 hNx
      have m11 : 1 - (u : Int) = (v : Int) := by have := hNx.1; omega
      have HN := Lib.hid hNx.2
      have HW4 := Lib.hid (fun nq => (hW.out.drewN nq).set i d)
      have q4 : (0 : Int) ≤ (i : Int) := by omega
      have q5 : (i : Int) < 108 := by omega
      clear hx hy hn hd hu hv hI hNx bx by_ hW
      go_wp2_with fail
      go_quiet (fail)
      have HW5 := Lib.hid (HW4.out nq)
      change (wr.drewN nq).cell? _ = _ at x1
      change (wr.drewN nq).frozen? _ = _ at f1
      clear HW4 y1 m1 m2 m3 m4 m5 m6
      generalize wr.drewN nq = w1 at *
      go_wp2
      go_roundw
      case rel => exact ⟨i + 1, v, l.set i d, by omega, m10, by go_num, (by first | rfl | rw [m11]), HN, HW5⟩
      case measure => simp [intOf]; omega
    · obtain rfl : i = e := by omega
      have hlt' : ¬ (i : Int) < (i : Int) := by omega
      have R : Hid (TakeP (lV lx - lV ly) i gx w (.returned (.tuple #[])) wr) := ⟨l, rfl, hI.out.done HVX.out HVY.out HLE.out, hW.out⟩
      clear hI hW
      go_wp2
      go_end0
      exact R.out

/-! The bytes. -/
theorem Tryz.infoB160 : (Tryz.prog.info? 98).map (fun i => (i.zero, i.size)) = some (some (.agg (Lib.byteCells (List.replicate 160 0)).toArray), 160) := by kernel_rfl
theorem zero_b160 (w : World) : (zeroValue 98).run Tryz.prog w = .ok (.agg (Lib.byteCells (List.replicate 160 0)).toArray) w := by
  have h := Tryz.infoB160
  cases hq : Tryz.prog.info? 98 with
  | none => simp [hq] at h
  | some i =>
    simp [hq] at h
    simp [zeroValue, typeInfo, hq, h.1]
theorem BRow.new (w : World) (L : List UInt8) (t : TypeId) : BRow (w.alloc (.cells (Lib.byteCells L).toArray t)) w.heap.size w.heap.size L := by
  have hb := heap_alloc_new w (.cells (Lib.byteCells L).toArray t)
  refine ⟨Nat.le_refl _, fun i hi => ?_, fun i _ => frozen_of_row _ _ i _ _ hb⟩
  rw [cell_of_row _ _ i _ _ _ hb]
  simp [Lib.byteCells, hi]
theorem limb_byte24 {l : List Nat} (h : Limbs l) (i : Nat) : l.getD (i / 3) 0 / 2 ^ (8 * (i % 3)) % 256 = lV l / 256 ^ i % 256 := by
  have e256 : (256 : Nat) ^ i = 16777216 ^ (i / 3) * 2 ^ (8 * (i % 3)) := by
    rw [show (256 : Nat) = 2 ^ 8 from rfl, show (16777216 : Nat) = 2 ^ 24 from rfl, ← Nat.pow_mul, ← Nat.pow_mul, ← Nat.pow_add]; congr 1; omega
  have hd := lV_dig h (i / 3)
  rw [e256, ← Nat.div_div_eq_div_mul, hd]
  obtain ⟨k, hk⟩ : ∃ k, 24 = 8 * (i % 3) + 8 + k := ⟨24 - 8 * (i % 3) - 8, by omega⟩
  have e32 : (16777216 : Nat) = 2 ^ (8 * (i % 3)) * (256 * 2 ^ k) := by
    rw [show (256 : Nat) = 2 ^ 8 from rfl, ← Nat.mul_assoc, ← Nat.pow_add, ← Nat.pow_add, ← hk]
  have hp : 0 < 2 ^ (8 * (i % 3)) := Nat.pow_pos (by omega)
  rw [e32, Nat.mul_assoc, Nat.mul_assoc, Nat.add_mul_div_left _ _ hp, Nat.add_mul_mod_self_left]
theorem OutRel.full {V : Nat} {L : List UInt8} (h : OutRel V 160 160 L) (hV : V < GB) : fromG (txt L) = gS V := by
  have hl := h.length
  obtain ⟨_, s, hL, hs, hv⟩ := h
  rw [Nat.sub_self, List.replicate_zero, List.nil_append] at hL
  subst hL
  have e : gV (txt L) = V := by
    show bN (txt L).data.toList = V
    have : (txt L).data.toList = L := by simp [txt]
    rw [this, hv, Nat.mod_eq_of_lt (show V < 256 ^ 160 from hV)]
  have hsz : (txt L).size = 160 := by show (txt L).data.size = 160; simp [txt]; exact hl
  unfold fromG
  rw [hsz, if_pos (by omega), e]
set_option maxRecDepth 8000 in
set_option maxHeartbeats 2000000 in
theorem rowGreat_any (g e V : Nat) (l : List Nat) (w : World) (h : RowK .u32 37 w g l) (hv : LRow l e) (hV : lV l = V) (hG : V < GB) :
    Calls Tryz.prog 52 #[.pointer (some ⟨g, 0, none⟩)] w fun en w' => en = .returned (.string (gS V)) ∧ Below w.heap.size w w' := by
  obtain ⟨Z, hZ⟩ : ∃ Z, (Lib.byteCells (List.replicate 160 0)).toArray = Z := ⟨_, rfl⟩
  have hz := zero_b160
  rw [hZ] at hz
  have hR0 := Lib.hid (BRow.new w (List.replicate 160 0) 98)
  have hb0 : Hid (Below w.heap.size w (w.alloc (.cells Z 98))) := (Below.refl _ _).alloc (Nat.le_refl _) _
  rw [hZ] at hR0
  have HR := Lib.hid h
  have HL := Lib.hid hv.lim
  have HV := Lib.hid hV
  have HG := Lib.hid hG
  have hlt := h.lt
  have hne : ¬ g = w.heap.size := by omega
  clear hZ h hv hV hG
  go_enter Tryz.func52, Tryz.ntmps52
  go_wp2
  clear hz
  go_loopw [5] (fun iv wr => ∃ (i : Nat) (L : List UInt8), i ≤ 160 ∧ iv = .int .i64 i ∧ Hid (OutRel V 160 i L) ∧ Hid (BRow wr w.heap.size w.heap.size L) ∧ Hid (Below w.heap.size w wr)) (fun iv _ => 160 - (intOf iv).toNat)
  case atStart => exact ⟨0, _, Nat.zero_le _, rfl, OutRel.start V 160, hR0, hb0⟩
  case round =>
    clear hR0 hb0
    obtain ⟨i, L, hin, rfl, hI, hO, hb⟩ := hrel
    by_cases hlt2 : i < 160
    · have hlt' : (i : Int) < 160 := by omega
      have HR3 := HR.out.below hb.out hlt
      obtain ⟨q, hq⟩ : ∃ q, i / 3 = q := ⟨_, rfl⟩
      obtain ⟨t, ht⟩ : ∃ t, 8 * (i % 3) = t := ⟨_, rfl⟩
      obtain ⟨c1, f1⟩ := HR3.cell (i := q) (by omega)
      obtain ⟨x, hx⟩ : ∃ x, l.getD q 0 = x := ⟨_, rfl⟩
      have hxl : x < 16777216 := by rw [← hx]; exact getD_lt HL.out q
      have hbyte := limb_byte24 HL.out i
      rw [HV.out, hq, ht, hx] at hbyte
      have hN := hI.out.next hlt2
      obtain ⟨j, hj⟩ : ∃ j, 160 - 1 - i = j := ⟨_, rfl⟩
      obtain ⟨u, hu⟩ : ∃ u, UInt8.ofNat (V / 256 ^ i % 256) = u := ⟨_, rfl⟩
      rw [hj, hu] at hN
      rw [hx] at c1
      obtain ⟨y, hy⟩ : ∃ y, x / 2 ^ t = y := ⟨_, rfl⟩
      rw [hy] at hbyte
      have hu2 : u.toNat = y % 256 := by rw [← hu, byte_nat _ (Nat.mod_lt _ (by omega)), hbyte]
      have hyx : y ≤ x := by rw [← hy]; exact Nat.div_le_self _ _
      have hy2 : (x : Int) / 2 ^ t = (y : Int) := by rw [← hy]; simp
      have hw : IntKind.u8.wrap (y : Int) = (u.toNat : Int) := by rw [IntKind.wrap_u8, hu2]; omega
      have hLl := hI.out.length
      have hcv := hO.out.cell j (by omega)
      have hfv := hO.out.free j (by omega)
      have HS := Lib.hid (hO.out.set (i := j) (by omega) u)
      have HN2 := Lib.hid hN
      have HB2 := Lib.hid (hb.out.setCell (p := ⟨w.heap.size, j, none⟩) (Nat.le_refl _) (.int .u8 (u.toNat : Int)))
      have d1 : (i : Int) / 3 = (q : Int) := by omega
      have d2 : (q : Int) < 108 := by omega
      have d3 : 159 - (i : Int) = (j : Int) := by omega
      have d4 : (j : Int) < 160 := by omega
      have d5 : 8 * ((i : Int) % 3) = (t : Int) := by omega
      have d6 : (t : Int) ≤ 32 := by omega
      have d7 : t ≤ 32 := by omega
      clear hq ht hx hbyte hN hj hu hy hu2 hI hO HR3 hLl hb
      go_wp2
      go_roundw
      case rel => exact ⟨i + 1, L.set j u, by omega, by go_num, HN2, HS, HB2⟩
      case measure => simp [intOf]; omega
    · obtain rfl : i = 160 := by omega
      have hlt' : ¬ ((160 : Nat) : Int) < 160 := by omega
      have hF := hI.out.full HG.out
      have hLl := hI.out.length
      have hcv := hO.out.conv (P := Tryz.prog) (cap := 160) (src := 22) (dst := 9) (e := 5) Tryz.underlying22 Tryz.underlying5 Tryz.underlying9
      rw [hLl] at hcv
      have FF := fun w => fromFirst_i (txt L) w
      rw [hF] at FF
      generalize txt L = T at *
      have FF2 := Lib.hid FF
      clear hI hO hF hLl FF
      go_wp2_with fail
      refine (FF2.out _).mono ?_
      rintro en w1 ⟨rfl, rfl⟩
      go_wp2
      go_ret
      exact ⟨rfl, hb.out⟩
end Go.Proofs.YtdbjjnbmbeabeaaGreat
