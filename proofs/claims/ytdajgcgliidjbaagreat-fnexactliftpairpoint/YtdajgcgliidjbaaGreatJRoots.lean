import Derived.Test.YtdajgcgliidjbaaGreatJRootA
import Derived.WalkMore
import Derived.ScopeJumps
set_option maxRecDepth 8000
set_option maxHeartbeats 8000000
namespace Go.Proofs.YtdajgcgliidjbaaGreat
open Go.RowKit
theorem mulNum {x y n : Nat} {p : ByteArray} (hm : modB p = true) (hn : gV p = n) (hx : x < n) (hy : y < n) (w : World) : Calls Tryz.prog 126 #[.string (gS x), .string (gS y), .string p] w fun e w' => e = .returned (.string (gS (x * y % n))) ∧ Below w.heap.size w w' := by
 have e := mul_gS hm (x := x) (y := y) (by omega) (by omega)
 rw [hn] at e
 rw [← e]
 exact mulRest_i _ _ _ w
theorem powNum {x m n : Nat} {p : ByteArray} (hm : modB p = true) (hn : gV p = n) (hx : x < n) (hy : m < GB) (w : World) : Calls Tryz.prog 156 #[.string (gS x), .string (gS m), .string p] w fun e w' => e = .returned (.string (gS (x ^ m % n))) ∧ Below w.heap.size w w' := by
 have e := pow_gS hm (x := x) (m := m) (by omega) hy
 rw [hn] at e
 rw [← e]
 exact powRest_i _ _ _ w
theorem is_one' {x : Nat} (h : x = 1) : ((gS x).toList == [1]) = true := by rw [is_one, decide_eq_true h]
theorem no_one' {x : Nat} (h : x ≠ 1) : ((gS x).toList == [1]) = false := by rw [is_one, decide_eq_false h]
theorem squaredTimes_i {x n k : Nat} {p : ByteArray} (hm : modB p = true) (hn : gV p = n) (hx : x < n) (hk : k < 4000) (w : World) : Calls Tryz.prog 158 #[.string (gS x), .int .i64 (k : Int), .string p] w fun e w' => e = .returned (.string (gS (x ^ (2 ^ k) % n))) ∧ Below w.heap.size w w' := by
 have HM : Hid (∀ y w, y < n → Calls Tryz.prog 126 #[.string (gS y), .string (gS y), .string p] w fun e w' => e = .returned (.string (gS (y * y % n))) ∧ Below w.heap.size w w') := fun y w hy => mulNum hm hn hy hy w
 obtain ⟨V, hV⟩ : ∃ V, x ^ (2 ^ k) % n = V := ⟨_, rfl⟩
 rw [hV]
 have HV := Lib.hid hV
 clear hV hm hn
 go_enter Tryz.func158, Tryz.ntmps158
 go_wp2
 go_loopw [0, 8] (fun av iv wr => ∃ (i y : Nat), i ≤ k ∧ y < n ∧ iv = .int .i64 (i : Int) ∧ av = .string (gS y) ∧ Hid (y = x ^ (2 ^ i) % n) ∧ Hid (Below w.heap.size w wr)) (fun _ iv _ => 4000 - (intOf iv).toNat)
 case atStart => exact ⟨0, x, by omega, hx, rfl, rfl, by show x = _; rw [Nat.pow_zero, Nat.pow_one, Nat.mod_eq_of_lt hx], Below.refl _ _⟩
 case round =>
  obtain ⟨i, y, hi, hy, rfl, rfl, hY, hB⟩ := hrel
  by_cases hlt : i < k
  ·have hlt' : (i : Int) < (k : Int) := by omega
   have O1 := Lib.hid (fun w => HM.out y w hy)
   have HY := Lib.hid (sq_up hY.out)
   have hy2 : y * y % n < n := Nat.mod_lt _ (by omega)
   generalize y * y % n = y2 at *
   clear HM HV
   go_wp2_with fail
   refine (O1.out _).mono ?_
   rintro e w2 ⟨rfl, b2⟩
   have HB2 := Lib.hid (bt hB.out b2)
   clear b2 hB O1 hY
   go_wp2
   go_roundw
   case rel => exact ⟨i + 1, y2, by omega, hy2, by go_num, rfl, HY, HB2⟩
   case measure => simp [intOf]; omega
  ·obtain rfl : i = k := by omega
   have hlt' : ¬ (i : Int) < (i : Int) := by omega
   have HE := Lib.hid (hY.out.trans HV.out)
   clear HM HV hY
   go_wp2
   go_ret
   exact ⟨by rw [HE.out] <;> rfl, hB.out⟩
def ToOne (n b t : Nat) (w : World) (e : Ending) (w' : World) : Prop := ∃ m : Nat, e = .returned (.int .i64 (m : Int)) ∧ m < t ∧ SqRel n b m 1 ∧ Below w.heap.size w w'
theorem sq_before {n b m v t : Nat} (h : SqRel n b m v) (ht : 1 ≤ t) (ho : b ^ (2 ^ (t - 1)) % n = 1) : m < t := by
 rcases Nat.lt_or_ge m t with h1 | h1
 ·exact h1
 ·exact absurd ho (h.no (t - 1) (by omega))
theorem squaringsTo1_i {b n t : Nat} {p : ByteArray} (hm : modB p = true) (hn : gV p = n) (hb : b < n) (ht : 1 ≤ t) (h4 : t < 4000) (ho : b ^ (2 ^ (t - 1)) % n = 1) (w : World) : Calls Tryz.prog 160 #[.string (gS b), .string p] w (ToOne n b t w) := by
 have HM : Hid (∀ y w, y < n → Calls Tryz.prog 126 #[.string (gS y), .string (gS y), .string p] w fun e w' => e = .returned (.string (gS (y * y % n))) ∧ Below w.heap.size w w') := fun y w hy => mulNum hm hn hy hy w
 have HL : Hid (∀ m v, SqRel n b m v → m < t) := fun m v h => sq_before h ht ho
 clear hm hn ho
 go_enter Tryz.func160, Tryz.ntmps160
 go_wp2
 go_loopw [0, 5] (fun av iv wr => ∃ (i y : Nat), y < n ∧ iv = .int .i64 (i : Int) ∧ av = .string (gS y) ∧ Hid (SqRel n b i y) ∧ Hid (Below w.heap.size w wr)) (fun _ iv _ => 4000 - (intOf iv).toNat)
 case atStart => exact ⟨0, b, hb, rfl, rfl, SqRel.start hb, Below.refl _ _⟩
 case round =>
  obtain ⟨i, y, hy, rfl, rfl, hY, hB⟩ := hrel
  have hi := HL.out i y hY.out
  by_cases h1 : y = 1
  ·have q := is_one' h1
   subst h1
   have HE := hY.out
   clear HM HL
   generalize gS 1 = T at *
   go_wp2
   go_ret
   exact ⟨i, rfl, hi, HE, hB.out⟩
  ·have q := no_one' h1
   have O1 := Lib.hid (fun w => HM.out y w hy)
   have HY := Lib.hid (hY.out.next h1)
   have hy2 : y * y % n < n := Nat.mod_lt _ (by omega)
   generalize y * y % n = y2 at *
   generalize gS y = T at *
   clear HM HL hY
   go_wp2_with fail
   refine (O1.out _).mono ?_
   rintro e w2 ⟨rfl, b2⟩
   have HB2 := Lib.hid (bt hB.out b2)
   clear b2 hB O1
   go_wp2
   go_roundw
   case rel => exact ⟨i + 1, y2, hy2, by go_num, rfl, HY, HB2⟩
   case measure => simp [intOf]; omega
theorem half_pow {x q n : Nat} (hq : q % 2 = 1) : x * (x ^ (q / 2) % n) % n = x ^ ((q + 1) / 2) % n ∧ (x ^ ((q + 1) / 2) % n) * (x ^ (q / 2) % n) % n = x ^ q % n := by
 constructor
 ·rw [Nat.mul_mod_mod, show (q + 1) / 2 = q / 2 + 1 by omega, Nat.pow_succ, Nat.mul_comm]
 ·rw [← Nat.mul_mod, ← Nat.pow_add, show (q + 1) / 2 + q / 2 = q by omega]
structure Begin (x n t q : Nat) : Prop where
 t1 : 1 ≤ t
 t2 : t < 1280
 odd : q % 2 = 1
 qn : q < n
 sym : symN x n = 1 ↔ (x ^ q % n) ^ (2 ^ (t - 1)) % n = 1
 ts : symN x n = 1 → TS n x (x ^ ((q + 1) / 2) % n) (x ^ q % n) (nosqN n ^ q % n) t
theorem sym_one {x n : Nat} : symN x n = 1 ↔ x ^ ((n - 1) / 2) % n = 1 := by
 unfold symN
 constructor
 ·intro h
  split at h
  ·cases h
  ·split at h
   ·assumption
   ·cases h
 ·intro h
  rw [h, if_neg (by omega), if_pos rfl]
theorem begin_of {x n : Nat} (pp : PrimeP n) (hn : n < GB) : Begin x n (twosN (n - 1)) (oddN (n - 1)) := by
 have h3 := pp.ge
 have ho := pp.prm.odd h3
 obtain ⟨e1, e2⟩ := twos_all (n - 1) (by omega)
 have h1 : 1 ≤ twosN (n - 1) := by rw [twosN_even (by omega) (by omega)]; omega
 have hq : oddN (n - 1) < n := by
  have : 1 * oddN (n - 1) ≤ 2 ^ twosN (n - 1) * oddN (n - 1) := Nat.mul_le_mul_right _ (Nat.pow_pos (by omega))
  omega
 refine ⟨h1, twos_1280 hn (by omega), e2, hq, ?_, fun h => (root_start pp h).2.2.2⟩
 rw [sym_one, ← Nat.pow_mod, ← Nat.pow_mul, half_twos h1 e1]
def SomePost (x n : Nat) (w : World) (e : Ending) (w' : World) : Prop :=
 (symN x n = 1 ∧ ∃ y, e = .returned (.tuple #[.string (gS y), .bool true]) ∧ y < n ∧ y * y % n = x ∧ Below w.heap.size w w') ∨ (symN x n ≠ 1 ∧ e = .returned (.tuple #[.string ⟨#[]⟩, .bool false]) ∧ Below w.heap.size w w')
theorem some_yes {x n y : Nat} {w w' : World} {e : Ending} (h : symN x n = 1) (he : e = .returned (.tuple #[.string (gS y), .bool true])) (hy : y < n) (hs : y * y % n = x) (hb : Below w.heap.size w w') : SomePost x n w e w' := .inl ⟨h, y, he, hy, hs, hb⟩
theorem someRoot_i {x n : Nat} {p : ByteArray} (hp : primeB p = true) (hn : gV p = n) (hx : x < n) (w : World) : Calls Tryz.prog 115 #[.string (gS x), .string p] w (SomePost x n w) := by
 have hm := modB_prime hp
 obtain ⟨okp, pp⟩ := primeB_p hp
 have hG := gV_lt okp
 rw [hn] at pp hG
 have h3 := pp.ge
 have HT := Lib.hid (twosIn_i p)
 have ET : twosG p = twosN (n - 1) := by unfold twosG; rw [hm, if_pos rfl, hn]
 have EO : oddG p = gS (oddN (n - 1)) := by unfold oddG; rw [hm, if_pos rfl, hn]
 unfold TwosPost at HT
 rw [ET, EO] at HT
 have BG := begin_of (x := x) pp hG
 have HNS := Lib.hid (noSquare_i p)
 have EN : nosqG p = gS (nosqN n) := by unfold nosqG; rw [hp, if_pos rfl, hn]
 rw [EN] at HNS
 have hMn := nosqN_lt pp
 obtain ⟨t0, ht0⟩ : ∃ t, twosN (n - 1) = t := ⟨_, rfl⟩
 obtain ⟨q, hq⟩ : ∃ q, oddN (n - 1) = q := ⟨_, rfl⟩
 rw [ht0, hq] at HT BG
 have htI : (t0 : Int) - 1 = ((t0 - 1 : Nat) : Int) := by have := BG.t1; omega
 have hqG : q < GB := by have := BG.qn; omega
 have hq2G : q / 2 < GB := by omega
 have HD := Lib.hid (halfDown_i (gS q) (okS hqG))
 rw [gV_gS] at HD
 have HW := Lib.hid (fun w => powNum hm hn hx hq2G w)
 obtain ⟨hp1, hp2⟩ := half_pow (x := x) (n := n) BG.odd
 have hy0 : x ^ (q / 2) % n < n := Nat.mod_lt _ (by omega)
 have hr0 : x ^ ((q + 1) / 2) % n < n := Nat.mod_lt _ (by omega)
 have hb0 : x ^ q % n < n := Nat.mod_lt _ (by omega)
 have HM1 := Lib.hid (fun w => mulNum hm hn hx hy0 w)
 rw [hp1] at HM1
 have HM2 := Lib.hid (fun w => mulNum hm hn hr0 hy0 w)
 rw [hp2] at HM2
 have HQ := Lib.hid (fun w => squaredTimes_i (k := t0 - 1) hm hn hb0 (by have := BG.t2; omega) w)
 rw [← htI] at HQ
 have HPW := Lib.hid (fun w => powNum hm hn hMn hqG w)
 have hg0 : nosqN n ^ q % n < n := Nat.mod_lt _ (by omega)
 have HTS := Lib.hid BG.ts
 have hsym := BG.sym
 have bt1 := BG.t1
 have bt2 := BG.t2
 have HPR := Lib.hid pp.prm
 have HMM : Hid (∀ y z w, y < n → z < n → Calls Tryz.prog 126 #[.string (gS y), .string (gS z), .string p] w fun e w' => e = .returned (.string (gS (y * z % n))) ∧ Below w.heap.size w w') := fun y z w hy hz => mulNum hm hn hy hz w
 have HSQ : Hid (∀ y (k : Nat) w, y < n → k < 4000 → Calls Tryz.prog 158 #[.string (gS y), .int .i64 (k : Int), .string p] w fun e w' => e = .returned (.string (gS (y ^ (2 ^ k) % n))) ∧ Below w.heap.size w w') := fun y k w hy hk => squaredTimes_i hm hn hy hk w
 have HTO : Hid (∀ y t w, y < n → 1 ≤ t → t < 4000 → y ^ (2 ^ (t - 1)) % n = 1 → Calls Tryz.prog 160 #[.string (gS y), .string p] w (ToOne n y t w)) := fun y t w hy h1 h4 ho => squaringsTo1_i hm hn hy h1 h4 ho w
 have hxs : x % n = x := Nat.mod_eq_of_lt hx
 have HXS := Lib.hid hxs
 clear ET EO EN ht0 hq hp1 hp2 BG pp okp hp hm hn hxs htI
 obtain ⟨y0, e0⟩ : ∃ y, x ^ (q / 2) % n = y := ⟨_, rfl⟩
 obtain ⟨r0, e1⟩ : ∃ y, x ^ ((q + 1) / 2) % n = y := ⟨_, rfl⟩
 obtain ⟨b0, e2⟩ : ∃ y, x ^ q % n = y := ⟨_, rfl⟩
 obtain ⟨g0, e3⟩ : ∃ y, nosqN n ^ q % n = y := ⟨_, rfl⟩
 rw [e0] at HW HM1 HM2 hy0
 rw [e1] at HM1 HM2 HTS hr0
 rw [e2] at HM2 HQ hsym HTS hb0
 rw [e3] at HPW HTS hg0
 generalize nosqN n = M at *
 clear e0 e1 e2 e3
 by_cases hb1 : b0 = 1
 ·have q1 := is_one' hb1
  have hs1 : symN x n = 1 := hsym.2 (by rw [hb1, Nat.one_pow]; exact Nat.mod_eq_of_lt (by omega))
  have hrr : r0 * r0 % n = x := by
   have h := (HTS.out hs1).done (by rw [hb1]; exact Nat.mod_eq_of_lt (by omega))
   rw [HXS.out] at h; exact h
  have HE := Lib.hid (And.intro hs1 hrr)
  clear HTS hsym HPW HQ HMM HSQ HTO HNS hs1 hrr HPR HXS
  obtain ⟨r, hr⟩ : ∃ r, gS r0 = r := ⟨_, rfl⟩
  rw [hr] at HM1 HM2
  have HRR := Lib.hid hr
  clear hr
  generalize gS b0 = tb at *
  generalize gS y0 = ty at *
  generalize gS x = tx at *
  generalize gS q = tq at *
  generalize gS (q / 2) = tq2 at *
  go_enter Tryz.func115, Tryz.ntmps115
  go_wp2
  refine wp_scope_jumps 0 (fun a' w' => ∃ (u0 u1 u2 u3 u4 u5 u6 u7 u8 u10 u11 u12 u13 u14 u15 u16 u17 u18 u19 u20 u21 u22 u23 u24 u25 u26 u27 u28 u29 u30 u31 u32 u33 u34 u35 u36 u37 u38 u39 u40 u41 u42 u43 u44 u45 u46 u47 u48 u49 u50 u51 u52 u53 u54 u55 u56 u57 u58 u59 u60 u61 u62 u63 u64 u65 u66 u67 u68 u69 u70 : Value), a' = { tmps := #[u0, u1, u2, u3, u4, u5, u6, u7, u8, .string r, u10, u11, u12, u13, u14, u15, u16, u17, u18, u19, u20, u21, u22, u23, u24, u25, u26, u27, u28, u29, u30, u31, u32, u33, u34, u35, u36, u37, u38, u39, u40, u41, u42, u43, u44, u45, u46, u47, u48, u49, u50, u51, u52, u53, u54, u55, u56, u57, u58, u59, u60, u61, u62, u63, u64, u65, u66, u67, u68, u69, u70], defers := [] } ∧ Hid (Below w.heap.size w w')) (fun _ _ => 0) rfl ?_ ?_
  ·go_wp2_with fail
   refine (HT.out _).mono ?_
   rintro e w1 ⟨rfl, b1⟩
   go_wp2_with fail
   refine (HD.out _).mono ?_
   rintro e w2 ⟨rfl, b2⟩
   go_wp2_with fail
   refine (HW.out _).mono ?_
   rintro e w3 ⟨rfl, b3⟩
   go_wp2_with fail
   refine (HM1.out _).mono ?_
   rintro e w4 ⟨rfl, b4⟩
   go_wp2_with fail
   refine (HM2.out _).mono ?_
   rintro e w5 ⟨rfl, b5⟩
   have HB5 := Lib.hid (bt (bt (bt (bt b1 b2) b3) b4) b5)
   clear b1 b2 b3 b4 b5 HT HD HW HM1 HM2
   go_wp2
   go_step3
   refine ⟨rfl, _, _, _, _, _, _, _, _, _, _, _, _, _, _, _, _, _, _, _, _, _, _, _, _, _, _, _, _, _, _, _, _, _, _, _, _, _, _, _, _, _, _, _, _, _, _, _, _, _, _, _, _, _, _, _, _, _, _, _, _, _, _, _, _, _, _, _, _, _, _, rfl, HB5⟩
  ·rintro a' w' ⟨u0, u1, u2, u3, u4, u5, u6, u7, u8, u10, u11, u12, u13, u14, u15, u16, u17, u18, u19, u20, u21, u22, u23, u24, u25, u26, u27, u28, u29, u30, u31, u32, u33, u34, u35, u36, u37, u38, u39, u40, u41, u42, u43, u44, u45, u46, u47, u48, u49, u50, u51, u52, u53, u54, u55, u56, u57, u58, u59, u60, u61, u62, u63, u64, u65, u66, u67, u68, u69, u70, rfl, hB⟩
   go_wp2
   simp only [Exit.jump]
   go_ret2
   exact some_yes HE.out.1 (by rw [HRR.out] <;> rfl) hr0 HE.out.2 hB.out
 ·have q1 := no_one' hb1
  obtain ⟨c0, hc0⟩ : ∃ c, b0 ^ (2 ^ (t0 - 1)) % n = c := ⟨_, rfl⟩
  rw [hc0] at HQ hsym
  by_cases hc1 : c0 = 1
  ·have q2 := is_one' hc1
   have hs1 : symN x n = 1 := hsym.2 hc1
   have HTS0 := Lib.hid (HTS.out hs1)
   have HS1 := Lib.hid hs1
   clear HTS hsym hs1 hc0
   generalize gS c0 = tc at *
   generalize gS y0 = ty at *
   generalize gS x = tx at *
   generalize gS q = tq at *
   generalize gS (q / 2) = tq2 at *
   generalize gS M = tM at *
   go_enter Tryz.func115, Tryz.ntmps115
   go_wp2
   go_step3
   go_wp2_with fail
   refine (HT.out _).mono ?_
   rintro e w1 ⟨rfl, b1⟩
   go_wp2_with fail
   refine (HD.out _).mono ?_
   rintro e w2 ⟨rfl, b2⟩
   go_wp2_with fail
   refine (HW.out _).mono ?_
   rintro e w3 ⟨rfl, b3⟩
   go_wp2_with fail
   refine (HM1.out _).mono ?_
   rintro e w4 ⟨rfl, b4⟩
   go_wp2_with fail
   refine (HM2.out _).mono ?_
   rintro e w5 ⟨rfl, b5⟩
   have HB5 := Lib.hid (bt (bt (bt (bt b1 b2) b3) b4) b5)
   clear b1 b2 b3 b4 b5 HT HD HW HM1 HM2
   go_wp2_with fail
   refine (HQ.out _).mono ?_
   rintro e w6 ⟨rfl, b6⟩
   have HB6 := Lib.hid (bt HB5.out b6)
   clear b6 HB5 HQ
   go_wp2_with fail
   refine (HNS.out _).mono ?_
   rintro e w7 ⟨rfl, b7⟩
   go_wp2_with fail
   refine (HPW.out _).mono ?_
   rintro e w8 ⟨rfl, b8⟩
   have HB8 := Lib.hid (bt (bt HB6.out b7) b8)
   clear b7 b8 HB6 HNS HPW q1 q2
   go_wp2
   go_loopg [6, 9, 10, 11] t0 (fun gh tv rv ov fv wr => ∃ (t r b g : Nat), t = gh ∧ t < 1280 ∧ r < n ∧ b < n ∧ g < n ∧ tv = .int .i64 (t : Int) ∧ rv = .string (gS r) ∧ ov = .string (gS b) ∧ fv = .string (gS g) ∧ Hid (TS n x r b g t) ∧ Hid (Below w.heap.size w wr))
   case atStart => exact ⟨t0, r0, b0, g0, rfl, bt2, hr0, hb0, hg0, rfl, rfl, rfl, rfl, HTS0, HB8⟩
   case round =>
    clear HTS0 HB8 hb1
    obtain ⟨t, r, b, g, rfl, ht, hr, hb, hg, rfl, rfl, rfl, rfl, hI, hB⟩ := hrel
    by_cases hb1 : b = 1
    ·have q := is_one' hb1
     have hrr : r * r % n = x := by
      have h := hI.out.done (by rw [hb1]; exact Nat.mod_eq_of_lt (by omega))
      rw [HXS.out] at h; exact h
     have HE := Lib.hid hrr
     clear HMM HSQ HTO hI hrr HPR HXS hb1
     generalize gS b = tb at *
     go_wp2
     go_step3
     go_wp2
     try rw [Exit.noGoto_ret]
     go_ret2
     exact some_yes HS1.out rfl hr HE.out hB.out
    ·have q := no_one' hb1
     have TO := Lib.hid (fun w => HTO.out b t w hb hI.out.pos (by omega) hI.out.one)
     unfold ToOne at TO
     go_wp2_with fail
     refine (TO.out _).mono ?_
     rintro e w2 ⟨m, rfl, hmt, hsq, b2⟩
     have hm1 : 1 ≤ m := by
      rcases Nat.eq_zero_or_pos m with h0 | h0
      ·exfalso
       have h := hsq.val
       rw [h0, Nat.pow_zero, Nat.pow_one, Nat.mod_eq_of_lt hb] at h
       exact hb1 h.symm
      ·exact h0
     have ht' : (t : Int) - (m : Int) - 1 = ((t - m - 1 : Nat) : Int) := by omega
     have SQ := Lib.hid (fun w => HSQ.out g (t - m - 1) w hg (by omega))
     rw [← ht'] at SQ
     have HTSn := Lib.hid (ts_step HPR.out hI.out hm1 hmt hsq (G := g ^ (2 ^ (t - m - 1)) % n) rfl)
     have hGn : g ^ (2 ^ (t - m - 1)) % n < n := Nat.mod_lt _ (by omega)
     generalize g ^ (2 ^ (t - m - 1)) % n = G at *
     have M1 := Lib.hid (fun w => HMM.out r G w hr hGn)
     have M2 := Lib.hid (fun w => HMM.out G G w hGn hGn)
     have hG2 : G * G % n < n := Nat.mod_lt _ (by omega)
     have M3 := Lib.hid (fun w => HMM.out b (G * G % n) w hb hG2)
     have hX2 : r * G % n < n := Nat.mod_lt _ (by omega)
     have hY2 : b * (G * G % n) % n < n := Nat.mod_lt _ (by omega)
     have HB2 := Lib.hid (bt hB.out b2)
     generalize b * (G * G % n) % n = Y2 at *
     generalize r * G % n = X2 at *
     generalize G * G % n = G2 at *
     clear hI hB b2 hsq TO ht' hb1
     go_wp2_with fail
     refine (SQ.out _).mono ?_
     rintro e w3 ⟨rfl, b3⟩
     go_wp2_with fail
     refine (M1.out _).mono ?_
     rintro e w4 ⟨rfl, b4⟩
     go_wp2_with fail
     refine (M2.out _).mono ?_
     rintro e w5 ⟨rfl, b5⟩
     go_wp2_with fail
     refine (M3.out _).mono ?_
     rintro e w6 ⟨rfl, b6⟩
     have HB6 := Lib.hid (bt (bt (bt (bt HB2.out b3) b4) b5) b6)
     clear b3 b4 b5 b6 HB2 SQ M1 M2 M3
     go_wp2
     go_roundg m
     case measure => exact hmt
     case rel => exact ⟨m, _, _, _, rfl, by omega, hX2, hY2, hG2, rfl, rfl, rfl, rfl, HTSn, HB6⟩
  ·have q2 := no_one' hc1
   have HE : Hid (symN x n ≠ 1) := fun h => hc1 (hsym.1 h)
   clear HTS hsym HPW HMM HSQ HTO HNS HPR HXS hc0
   generalize gS c0 = tc at *
   generalize gS r0 = r at *
   generalize gS b0 = tb at *
   generalize gS y0 = ty at *
   generalize gS x = tx at *
   generalize gS q = tq at *
   generalize gS (q / 2) = tq2 at *
   go_enter Tryz.func115, Tryz.ntmps115
   go_wp2
   go_step3
   go_wp2_with fail
   refine (HT.out _).mono ?_
   rintro e w1 ⟨rfl, b1⟩
   go_wp2_with fail
   refine (HD.out _).mono ?_
   rintro e w2 ⟨rfl, b2⟩
   go_wp2_with fail
   refine (HW.out _).mono ?_
   rintro e w3 ⟨rfl, b3⟩
   go_wp2_with fail
   refine (HM1.out _).mono ?_
   rintro e w4 ⟨rfl, b4⟩
   go_wp2_with fail
   refine (HM2.out _).mono ?_
   rintro e w5 ⟨rfl, b5⟩
   have HB5 := Lib.hid (bt (bt (bt (bt b1 b2) b3) b4) b5)
   clear b1 b2 b3 b4 b5 HT HD HW HM1 HM2
   go_wp2_with fail
   refine (HQ.out _).mono ?_
   rintro e w6 ⟨rfl, b6⟩
   have bb := bt HB5.out b6
   clear b6 HB5 HQ
   go_wp2
   try rw [Exit.noGoto_ret]
   go_ret2
   exact .inr ⟨HE.out, rfl, bb⟩
theorem neg_gS' {x n : Nat} {p : ByteArray} (hm : modB p = true) (hn : gV p = n) (hx : x < n) : negR (gS x) p = gS ((0 + n - x) % n) := by
 obtain ⟨okp, h1⟩ := modB_parts hm
 unfold negR subR twoB
 rw [hm, rest_gS hm (x := x) (by omega), show restB ⟨#[]⟩ p = true from by unfold restB; rw [okp, show okG ⟨#[]⟩ = true from rfl, show gV ⟨#[]⟩ = 0 from rfl, decide_eq_true (by omega)]; rfl]
 show gS ((0 + gV p - gV (gS x)) % gV p) = _
 rw [gV_gS, hn]
theorem greater_num {x n : Nat} {p : ByteArray} (hm : modB p = true) (hn : gV p = n) (hx : x < n) : greaterB (gS x) p = decide ((0 + n - x) % n < x) := by
 unfold greaterB oneB
 rw [hm, rest_gS hm (x := x) (by omega), gV_gS, hn]; rfl
theorem rootOf_i (a p : ByteArray) (w : World) : Calls Tryz.prog 75 #[.string a, .string p] w (RootPost a p w) := by
 have HP := Lib.hid (primeOk_s p)
 have HR := Lib.hid (restOk_s a p)
 unfold RootPost
 cases hp : primeB p with
 | false =>
  have es : symG a p = 2 := by unfold symG; rw [hp]; rfl
  have e1 : rootG a p = ⟨#[]⟩ := by unfold rootG; rw [es]; rfl
  have e2 : rootB a p = false := by unfold rootB; rw [es]; rfl
  rw [hp] at HP
  rw [e1, e2]
  clear es e1 e2
  go_enter Tryz.func75, Tryz.ntmps75
  go_wp2_with fail
  refine (HP.out _).mono ?_
  rintro e w1 ⟨rfl, rfl⟩
  go_wp2
  go_ret2
  exact ⟨rfl, Below.refl _ _⟩
 | true =>
  rw [hp] at HP
  cases hr : restB a p with
  | false =>
   have es : symG a p = 2 := by unfold symG; rw [hr, Bool.and_false]; rfl
   have e1 : rootG a p = ⟨#[]⟩ := by unfold rootG; rw [es]; rfl
   have e2 : rootB a p = false := by unfold rootB; rw [es]; rfl
   rw [hr] at HR
   rw [e1, e2]
   clear es e1 e2
   go_enter Tryz.func75, Tryz.ntmps75
   go_wp2_with fail
   refine (HP.out _).mono ?_
   rintro e w1 ⟨rfl, rfl⟩
   go_wp2_with fail
   refine (HR.out _).mono ?_
   rintro e w1 ⟨rfl, rfl⟩
   go_wp2
   go_ret2
   exact ⟨rfl, Below.refl _ _⟩
  | true =>
   rw [hr] at HR
   obtain ⟨okp, pp⟩ := primeB_p hp
   obtain ⟨oka, _, hap⟩ := restB_parts hr
   have hm := modB_prime hp
   have h3 := pp.ge
   obtain ⟨x, hx⟩ : ∃ x, gV a = x := ⟨_, rfl⟩
   obtain ⟨n, hn⟩ : ∃ n, gV p = n := ⟨_, rfl⟩
   have ea : a = gS x := by rw [← hx, gS_gV oka]
   rw [hx, hn] at hap
   rw [hn] at pp h3
   have es : symG a p = symN x n := by unfold symG; rw [hp, hr, hx, hn]; rfl
   by_cases hx0 : x = 0
   ·have hs0 : symN x n = 0 := (symN_zero (a := x) pp.prm h3).2 (by rw [hx0]; exact Nat.dvd_zero _)
    have e1 : rootG a p = ⟨#[]⟩ := by unfold rootG; rw [es, hs0]; rfl
    have e2 : rootB a p = true := by unfold rootB; rw [es, hs0]; rfl
    have ha : a = ⟨#[]⟩ := by rw [ea, hx0, gS_zero]
    rw [e1, e2]
    subst ha
    clear es e1 e2 hs0 ea hx
    go_enter Tryz.func75, Tryz.ntmps75
    go_wp2_with fail
    refine (HP.out _).mono ?_
    rintro e w1 ⟨rfl, rfl⟩
    go_wp2_with fail
    refine (HR.out _).mono ?_
    rintro e w1 ⟨rfl, rfl⟩
    go_wp2
    go_ret2
    exact ⟨rfl, Below.refl _ _⟩
   ·have q0 : a.toList.isEmpty = false := by rw [ea, is_none, decide_eq_false hx0]
    have SR := Lib.hid (fun w => someRoot_i hp hn hap w)
    rw [← ea] at SR
    unfold SomePost at SR
    have HGr := Lib.hid (fun y (hy : y < n) => greater_num hm hn hy)
    have HNg := Lib.hid (fun y (hy : y < n) => neg_gS' hm hn hy)
    have HG0 : Hid (greaterB ⟨#[]⟩ p = false) := by
     have h := HGr.out 0 (by omega)
     rw [gS_zero, decide_eq_false (by omega)] at h
     exact h
    have HLR := Lib.hid (fun y (hy : y < n) (hs : y * y % n = x) => lesser_root pp.prm hy hs (by omega))
    have HYes : Hid (symN x n = 1 → rootG a p = gS (rootN x n) ∧ rootB a p = true) := fun h => by
     unfold rootG rootB; rw [es, h, hx, hn]; exact ⟨rfl, rfl⟩
    have HNo : Hid (symN x n ≠ 1 → rootG a p = ⟨#[]⟩ ∧ rootB a p = false) := fun h => by
     have h0 : symN x n ≠ 0 := fun e => by
      have := (symN_zero (a := x) pp.prm h3).1 e
      have := Nat.le_of_dvd (by omega) this
      omega
     unfold rootG rootB; rw [es, if_neg h, decide_eq_false h0, decide_eq_false h]; exact ⟨rfl, rfl⟩
    generalize rootG a p = rg at *
    generalize rootB a p = rb at *
    clear es ea pp hm okp oka hp hr hx hx0
    go_enter Tryz.func75, Tryz.ntmps75
    go_wp2_with fail
    refine (HP.out _).mono ?_
    rintro e w1 ⟨rfl, rfl⟩
    go_wp2_with fail
    refine (HR.out _).mono ?_
    rintro e w1 ⟨rfl, rfl⟩
    clear HP HR
    go_wp2_with fail
    refine (SR.out _).mono ?_
    rintro e w1 (⟨hs, y, rfl, hy, hyy, b1⟩ | ⟨hs, rfl, b1⟩)
    ·obtain ⟨y1, y2⟩ := HYes.out hs
     have hl := HLR.out y hy hyy
     have hg := HGr.out y hy
     have hng := HNg.out y hy
     have G1 := Lib.hid (greater_i (gS y) p)
     have N1 := Lib.hid (negRest_i (gS y) p)
     rw [hg] at G1
     rw [hng] at N1
     by_cases hlt : (0 + n - y) % n < y
     ·rw [decide_eq_true hlt] at G1
      rw [if_pos hlt] at hl
      rw [← hl] at N1
      have HE := Lib.hid (And.intro y1 y2)
      clear SR HGr HNg HG0 HLR HYes HNo hs y1 y2 hl hg hng hlt hyy
      generalize gS y = ty at *
      generalize gS (rootN x n) = tr at *
      go_wp2_with fail
      refine (G1.out _).mono ?_
      rintro e w2 ⟨rfl, b2⟩
      go_wp2_with fail
      refine (N1.out _).mono ?_
      rintro e w3 ⟨rfl, b3⟩
      have bb := bt (bt b1 b2) b3
      clear b1 b2 b3 G1 N1
      go_wp2
      go_ret2
      exact ⟨by rw [HE.out.1, HE.out.2] <;> rfl, bb⟩
     ·rw [decide_eq_false hlt] at G1
      rw [if_neg hlt] at hl
      rw [hl] at y1
      have HE := Lib.hid (And.intro y1 y2)
      clear SR HGr HNg HG0 HLR HYes HNo hs y1 y2 hl hg hng hlt hyy N1
      generalize gS y = ty at *
      go_wp2_with fail
      refine (G1.out _).mono ?_
      rintro e w2 ⟨rfl, b2⟩
      have bb := bt b1 b2
      clear b1 b2 G1
      go_wp2
      go_ret2
      exact ⟨by rw [HE.out.1, HE.out.2] <;> rfl, bb⟩
    ·obtain ⟨y1, y2⟩ := HNo.out hs
     have G1 := Lib.hid (greater_i ⟨#[]⟩ p)
     rw [HG0.out] at G1
     have HE := Lib.hid (And.intro y1 y2)
     clear SR HGr HNg HG0 HLR HYes HNo hs y1 y2
     go_wp2_with fail
     refine (G1.out _).mono ?_
     rintro e w2 ⟨rfl, b2⟩
     have bb := bt b1 b2
     clear b1 b2 G1
     go_wp2
     go_ret2
     exact ⟨by rw [HE.out.1, HE.out.2] <;> rfl, bb⟩
end Go.Proofs.YtdajgcgliidjbaaGreat
