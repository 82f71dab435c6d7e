/-
  The contracts of math/bits.Add32, Sub32, Div32.
-/
import Derived.Test.YtkpcocdflcpnoaaILen
namespace Go.Proofs.Ytkpcocdflcpnoaa
open Go.RowKit

/-! The highest bit. -/
def tb (v : Int) : Bool := decide (2147483648 ≤ v)
def in32 (v : Int) : Prop := 0 ≤ v ∧ v < 4294967296
theorem of_in32 {v : Int} (h : in32 v) : ((BitVec.ofInt 32 v).toNat : Int) = v := by
  obtain ⟨h1, h2⟩ := h
  rw [BitVec.toNat_ofInt]; omega
theorem msb_tb {v : Int} (h : in32 v) : (BitVec.ofInt 32 v).msb = tb v := by
  have e := of_in32 h
  rw [BitVec.msb_eq_decide]
  unfold tb
  rw [Bool.eq_iff_iff]
  simp only [decide_eq_true_eq]
  constructor
  · intro h1; have : (2 : Nat) ^ (32 - 1) = 2147483648 := rfl; omega
  · intro h1; have : (2 : Nat) ^ (32 - 1) = 2147483648 := rfl; omega
theorem nat_in32 (v : BitVec 32) : in32 (v.toNat : Int) := ⟨by omega, by have := v.isLt; omega⟩
theorem msb_nat (v : BitVec 32) : tb (v.toNat : Int) = v.msb := by
  have := msb_tb (nat_in32 v)
  rw [← this]
  congr 1
  exact BitVec.eq_of_toNat_eq (by have := of_in32 (nat_in32 v); omega)
theorem bits_and32 (a b : Int) : bits .and .u32 a b = ((BitVec.ofInt 32 a &&& BitVec.ofInt 32 b).toNat : Int) := by
  show IntKind.u32.wrap _ = _
  have := nat_in32 (BitVec.ofInt 32 a &&& BitVec.ofInt 32 b)
  unfold in32 at this
  rw [IntKind.wrap_u32]
  exact Int.emod_eq_of_lt this.1 this.2
theorem bits_or32 (a b : Int) : bits .or .u32 a b = ((BitVec.ofInt 32 a ||| BitVec.ofInt 32 b).toNat : Int) := by
  show IntKind.u32.wrap _ = _
  have := nat_in32 (BitVec.ofInt 32 a ||| BitVec.ofInt 32 b)
  unfold in32 at this
  rw [IntKind.wrap_u32]
  exact Int.emod_eq_of_lt this.1 this.2
theorem bits_xor32 (a b : Int) : bits .xor .u32 a b = ((BitVec.ofInt 32 a ^^^ BitVec.ofInt 32 b).toNat : Int) := by
  show IntKind.u32.wrap _ = _
  have := nat_in32 (BitVec.ofInt 32 a ^^^ BitVec.ofInt 32 b)
  unfold in32 at this
  rw [IntKind.wrap_u32]
  exact Int.emod_eq_of_lt this.1 this.2
theorem tb_and {a b : Int} (ha : in32 a) (hb : in32 b) : tb (bits .and .u32 a b) = (tb a && tb b) ∧ in32 (bits .and .u32 a b) := by
  rw [bits_and32]; exact ⟨by rw [msb_nat, BitVec.msb_and, msb_tb ha, msb_tb hb], nat_in32 _⟩
theorem tb_or {a b : Int} (ha : in32 a) (hb : in32 b) : tb (bits .or .u32 a b) = (tb a || tb b) ∧ in32 (bits .or .u32 a b) := by
  rw [bits_or32]; exact ⟨by rw [msb_nat, BitVec.msb_or, msb_tb ha, msb_tb hb], nat_in32 _⟩
theorem tb_xor {a b : Int} (ha : in32 a) (hb : in32 b) : tb (bits .xor .u32 a b) = (tb a ^^ tb b) ∧ in32 (bits .xor .u32 a b) := by
  rw [bits_xor32]; exact ⟨by rw [msb_nat, BitVec.msb_xor, msb_tb ha, msb_tb hb], nat_in32 _⟩
theorem max32 : in32 IntKind.u32.max ∧ tb IntKind.u32.max = true := by
  have : IntKind.u32.max = 4294967295 := by decide
  rw [this]; exact ⟨⟨by omega, by omega⟩, by decide⟩
/-- What is borrowed. -/
def brw (x y c : Nat) : Nat := if x < y + c then 1 else 0
theorem sub_bit {x y c : Nat} (hx : x < 4294967296) (hy : y < 4294967296) (hc : c ≤ 1) {D : Int} (hD : ((x : Int) - (y : Int) - (c : Int)) % 4294967296 = D) :
    bits .or .u32 (bits .and .u32 (bits .xor .u32 IntKind.u32.max (x : Int)) (y : Int)) (bits .and .u32 (bits .xor .u32 IntKind.u32.max (bits .xor .u32 (x : Int) (y : Int))) D) / 2147483648 = (brw x y c : Int) := by
  have ix : in32 (x : Int) := ⟨by omega, by omega⟩
  have iy : in32 (y : Int) := ⟨by omega, by omega⟩
  have iD : in32 D := ⟨by omega, by omega⟩
  obtain ⟨m1, m2⟩ := max32
  have nx := tb_xor m1 ix
  have xy := tb_xor ix iy
  have nxy := tb_xor m1 xy.2
  have l := tb_and nx.2 iy
  have r := tb_and nxy.2 iD
  have o := tb_or l.2 r.2
  generalize bits .or .u32 (bits .and .u32 (bits .xor .u32 IntKind.u32.max (x : Int)) (y : Int)) (bits .and .u32 (bits .xor .u32 IntKind.u32.max (bits .xor .u32 (x : Int) (y : Int))) D) = E at *
  have ho := o.1
  rw [l.1, r.1, nx.1, nxy.1, xy.1, m2] at ho
  obtain ⟨e1, e2⟩ := o.2
  unfold brw
  unfold tb at ho
  by_cases bx : (2147483648 : Int) ≤ (x : Int) <;> by_cases bY : (2147483648 : Int) ≤ (y : Int) <;> by_cases bD : (2147483648 : Int) ≤ D <;> simp [bx, bY, bD] at ho <;> split <;> omega
theorem ret_two {k : IntKind} {a b : Int} {c : Value} (h : a = b) : Ending.returned (.tuple #[.int k a, c]) = .returned (.tuple #[.int k b, c]) := by rw [h]
theorem still_of {P : Program} {k : Nat} {args : Array Value} {v : Value} {w : World} (h : Calls P k args w fun e w' => e = .returned v ∧ w = w') : Calls P k args w fun e w' => e = .returned v ∧ w' = w := h.mono fun _ _ ⟨a, b⟩ => ⟨a, b.symm⟩
/-! Div32 -/
theorem orU64 (k a c : Nat) (hc : c < 2 ^ k) (h : 2 ^ k * a + c < 18446744073709551616) : bits .or .u64 (((2 ^ k * a : Nat) : Int)) (c : Int) = ((2 ^ k * a + c : Nat) : Int) := by
  show IntKind.u64.wrap ((BitVec.ofInt 64 ((2 ^ k * a : Nat) : Int) ||| BitVec.ofInt 64 (c : Int)).toNat : Nat) = _
  rw [BitVec.toNat_or, BitVec.toNat_ofInt, BitVec.toNat_ofInt]
  have e1 : (((2 ^ k * a : Nat) : Int) % ((2 ^ 64 : Nat) : Int)).toNat = 2 ^ k * a := by
    generalize 2 ^ k * a = y at *; omega
  have e2 : ((c : Int) % ((2 ^ 64 : Nat) : Int)).toNat = c := by
    generalize 2 ^ k * a = y at *; omega
  rw [e1, e2, ← Nat.two_pow_add_eq_or_of_lt hc]
  generalize 2 ^ k * a + c = y at *
  rw [IntKind.wrap_u64]; omega
theorem or64_32 {a c n : Nat} (ha : a < 4294967296) (hc : c < 4294967296) (hn : a * 4294967296 + c = n) : bits .or .u64 ((a : Int) * 4294967296) (c : Int) = (n : Int) ∧ IntKind.u64.wrap ((a : Int) * 4294967296) = (a : Int) * 4294967296 ∧ IntKind.u64.wrap (a : Int) = (a : Int) ∧ IntKind.u64.wrap (c : Int) = (c : Int) := by
  have h := orU64 32 a c (by omega) (by omega)
  refine ⟨?_, by rw [IntKind.wrap_u64]; omega, by rw [IntKind.wrap_u64]; omega, by rw [IntKind.wrap_u64]; omega⟩
  have e : ((2 ^ 32 * a : Nat) : Int) = (a : Int) * 4294967296 := by omega
  rw [e] at h
  rw [h]; omega
theorem div32_bd {h x d n : Nat} (hh : h < d) (hd : d < 4294967296) (hx : x < 4294967296) (hn : h * 4294967296 + x = n) : n / d < 4294967296 ∧ n % d < 4294967296 := by
  refine ⟨(Nat.div_lt_iff_lt_mul (by omega)).2 ?_, Nat.lt_trans (Nat.mod_lt _ (by omega)) hd⟩
  have : (h + 1) * 4294967296 ≤ d * 4294967296 := Nat.mul_le_mul_right _ hh
  rw [Nat.mul_comm 4294967296 d]; omega
set_option maxHeartbeats 1000000 in
theorem div32_any (h x d n q r : Nat) (hh : h < d) (hd : d < 4294967296) (hx : x < 4294967296) (hn : h * 4294967296 + x = n) (hq : n / d = q) (hr : n % d = r) (w : World) :
    Calls Try.prog 58 #[.int .u32 (h : Int), .int .u32 (x : Int), .int .u32 (d : Int)] w fun e w' => e = .returned (.tuple #[.int .u32 (q : Int), .int .u32 (r : Int)]) ∧ ∃ k, w' = w.drewN k := by
  obtain ⟨q1, r1⟩ := div32_bd hh hd hx hn
  rw [hq] at q1
  rw [hr] at r1
  obtain ⟨o1, o2, o3, o4⟩ := or64_32 (a := h) (c := x) (by omega) hx hn
  have t1 : ((d : Int) != 0) = true := by simp; omega
  have t2 : ¬ (d : Int) ≤ (h : Int) := by omega
  have t2' : decide ((d : Int) ≤ (h : Int)) = false := by simp; omega
  have t3 : IntKind.u64.wrap (d : Int) = (d : Int) := by rw [IntKind.wrap_u64]; omega
  have t4 : ((d : Int) == 0) = false := by simp; omega
  have t5 : (n : Int) / (d : Int) = (q : Int) := by rw [← hq]; simp
  have t6 : (n : Int) % (d : Int) = (r : Int) := by rw [← hr]; simp
  have t7 : (n : Int).tdiv (d : Int) = (q : Int) := by rw [Int.tdiv_eq_ediv_of_nonneg (by omega)]; exact t5
  have t8 : (n : Int).tmod (d : Int) = (r : Int) := by rw [Int.tmod_eq_emod_of_nonneg (by omega)]; exact t6
  have t9 : IntKind.u64.wrap (q : Int) = (q : Int) := by rw [IntKind.wrap_u64]; omega
  have u1 : IntKind.u32.wrap (q : Int) = (q : Int) := by rw [IntKind.wrap_u32]; omega
  have u2 : IntKind.u32.wrap (r : Int) = (r : Int) := by rw [IntKind.wrap_u32]; omega
  have u3 : ¬ (d : Int) = 0 := by omega
  have u4 : ¬ d = 0 := by omega
  clear hn hq hr
  go_enter Try.func58, Try.ntmps58
  go_wp2
  go_quiet (fail)
  go_wp2
  go_ret2
  exact ⟨rfl, _, rfl⟩
end Go.Proofs.Ytkpcocdflcpnoaa
