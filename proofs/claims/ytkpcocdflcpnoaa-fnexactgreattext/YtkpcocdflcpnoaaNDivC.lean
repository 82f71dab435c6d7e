/-
  The three rows that long division holds, as one fact that walks along.
-/
import Derived.Test.YtkpcocdflcpnoaaNDivB
namespace Go.Proofs.Ytkpcocdflcpnoaa
open Go.RowKit

/-- A row of limbs whose length has a name. -/
def RowL (w : World) (base g cap n : Nat) (l : List Nat) : Prop := w.ownsRow base 3 1 (.slice (some ⟨g, 0, none⟩) n cap) n (natV l)
theorem RowL.length {w : World} {base g cap n : Nat} {l : List Nat} (h : RowL w base g cap n l) : l.length = n := by
  have := h.1; rw [natV_length] at this; omega
theorem RowL.cell {w : World} {base g cap n : Nat} {l : List Nat} (h : RowL w base g cap n l) {k : Nat} (hk : k < n) : w.cell? ⟨g, k, none⟩ = some (.int .i64 (l.getD k 0 : Int)) ∧ w.frozen? ⟨g, k, none⟩ = false := by
  have hl : k < l.length := by rw [h.length]; exact hk
  refine ⟨?_, World.ownsRow.frozenAt h k⟩
  rw [World.ownsRow.cellAt h k (by omega), getD_eq hl]
  simp [natV, hl]
theorem RowL.set {w : World} {base g cap n : Nat} {l : List Nat} (h : RowL w base g cap n l) (j y : Nat) : RowL (w.setCell ⟨g, j, none⟩ (.int .i64 (y : Int))) base g cap n (l.set j y) := natV_stored h j y
theorem RowL.other {w w' : World} {base g cap n : Nat} {l : List Nat} (h : RowL w base g cap n l) (e : w'.heap[g]? = w.heap[g]?) : RowL w' base g cap n l := by
  refine ⟨h.1, ?_⟩
  rcases h.2 with ⟨h', _⟩ | ⟨g', cap', cur, h', hb, hg, hr⟩
  · simp at h'
  · simp only [Value.slice.injEq, Option.some.injEq, Addr.mk.injEq, and_true, true_and] at h'
    obtain ⟨rfl, rfl⟩ := h'
    exact .inr ⟨g, cap, cur, rfl, hb, by rw [e]; exact hg, hr⟩
theorem RowL.ge {w : World} {base g cap n : Nat} {l : List Nat} (h : RowL w base g cap n l) : base ≤ g := (World.ownsRow.lt h g rfl).1
theorem RowL.lt {w : World} {base g cap n : Nat} {l : List Nat} (h : RowL w base g cap n l) : g < w.heap.size := (World.ownsRow.lt h g rfl).2
theorem RowL.rowN {w : World} {base g cap n : Nat} {l : List Nat} (h : RowL w base g cap n l) : RowN w base (some ⟨g, 0, none⟩) cap l := by
  have e := h.length
  unfold RowN; rw [e]; exact h
theorem RowN.rowL {w : World} {base cap : Nat} {A : Option Addr} {l : List Nat} (h : RowN w base A cap l) (h0 : 0 < l.length) : ∃ g, A = some ⟨g, 0, none⟩ ∧ RowL w base g cap l.length l := by
  obtain ⟨g, rfl, _⟩ := h.form h0
  exact ⟨g, rfl, h⟩

theorem RowL.base {w : World} {b b' g cap n : Nat} {l : List Nat} (h : RowL w b g cap n l) (hb : b' ≤ b) : RowL w b' g cap n l := by
  refine ⟨h.1, ?_⟩
  rcases h.2 with h | ⟨g, cp, cur, hv, hg, hh, h3⟩
  · exact .inl h
  · exact .inr ⟨g, cp, cur, hv, by omega, hh, h3⟩
theorem RowL.below {w w' : World} {b g cap n : Nat} {l : List Nat} (h : RowL w b g cap n l) (hb : Below w.heap.size w w') : RowL w' b g cap n l := h.other (hb.block g h.lt)
/-- A row that was just made. -/
theorem made_row {w : World} {base g n : Nat} (h : w.ownsRow base 3 1 (.slice (some ⟨g, 0, none⟩) n n) n (madeCells (Value.cells (.int .i64 0)) (n * 1)).toList) : RowL w base g n n (List.replicate n 0) := by
  have e : natV (List.replicate n 0) = (madeCells (Value.cells (.int .i64 0)) (n * 1)).toList := by
    have := toList_madeCells_one (.int .i64 0) (n * 1)
    simp only [Value.cells] at this ⊢
    rw [this]
    simp [natV]
  unfold RowL
  rw [e]; exact h

theorem top_bd {x1 x2 top : Nat} (h : x1 * 16777216 + x2 = top) (h1 : x1 < 16777216) (h2 : x2 < 16777216) : top < 281474976710656 := by omega
theorem ms_step {a p br : Nat} (ha : a < 16777216) (hp : p ≤ 281474976710656) (hbr : br ≤ 16777217) : ∃ (X : Int) (y br' : Nat), (a : Int) - (p : Int) - (br : Int) = X ∧ X % 16777216 = (y : Int) ∧ X / 16777216 = -(br' : Int) ∧ y < 16777216 ∧ a + 16777216 * br' = p + br + y ∧
    IntKind.i64.wrap ((a : Int) - (p : Int)) = (a : Int) - (p : Int) ∧ IntKind.i64.wrap ((a : Int) - (p : Int) - (br : Int)) = X ∧ (X < 0 ↔ 0 < br') := by
  refine ⟨_, (((a : Int) - p - br) % 16777216).toNat, (-(((a : Int) - p - br) / 16777216)).toNat, rfl, by omega, by omega, by omega, by omega, IntWalk.i64_in _ (by omega), IntWalk.i64_in _ (by omega), by omega⟩
theorem prod_bd {g b : Nat} (hg : g ≤ 16777216) (hb : b < 16777216) : g * b ≤ 281474976710656 := by
  have := Nat.mul_le_mul hg (show b ≤ 16777216 by omega)
  omega
theorem prod_wrap {g b p : Nat} (hp : g * b = p) (hb : p ≤ 281474976710656) : IntKind.i64.wrap ((g : Int) * (b : Int)) = (p : Int) := by
  have : (g : Int) * (b : Int) = (p : Int) := by rw [← hp]; simp
  rw [this]; exact IntWalk.i64_in _ (by omega)
theorem ab_step {a b c : Nat} (ha : a < 16777216) (hb : b < 16777216) (hc : c ≤ 1) : ∃ n y z : Nat, n = a + b + c ∧ n % 16777216 = y ∧ n / 16777216 = z ∧ z ≤ 1 ∧ (a : Int) + (b : Int) + (c : Int) = (n : Int) ∧ (n : Int) % 16777216 = (y : Int) ∧ (n : Int) / 16777216 = (z : Int) ∧ n < 50000000 :=
  ⟨_, _, _, rfl, rfl, rfl, by omega, by omega, by omega, by omega, by omega⟩
/-- The rows u, v, q. -/
structure St (w1 wr : World) (gu cu gv cv gq Lu n m : Nat) (U v q : List Nat) : Prop where
  u : RowL wr w1.heap.size gu cu Lu U
  v : RowL wr w1.heap.size gv cv n v
  q : RowL wr w1.heap.size gq m m q
  uv : gu ≠ gv
  uq : gu ≠ gq
  vq : gv ≠ gq
  b : Below w1.heap.size w1 wr
theorem St.drewN {w1 wr : World} {gu cu gv cv gq Lu n m : Nat} {U v q : List Nat} (h : St w1 wr gu cu gv cv gq Lu n m U v q) (k : Nat) : St w1 (wr.drewN k) gu cu gv cv gq Lu n m U v q :=
  ⟨h.u.other rfl, h.v.other rfl, h.q.other rfl, h.uv, h.uq, h.vq, bd h.b k⟩
theorem St.setU {w1 wr : World} {gu cu gv cv gq Lu n m : Nat} {U v q : List Nat} (h : St w1 wr gu cu gv cv gq Lu n m U v q) (k y : Nat) : St w1 (wr.setCell ⟨gu, k, none⟩ (.int .i64 (y : Int))) gu cu gv cv gq Lu n m (U.set k y) v q :=
  ⟨h.u.set k y, h.v.other (Below.heap_setCell _ _ _ _ (Ne.symm h.uv)), h.q.other (Below.heap_setCell _ _ _ _ (Ne.symm h.uq)), h.uv, h.uq, h.vq, h.b.setCell (p := ⟨gu, k, none⟩) h.u.ge _⟩
theorem St.setQ {w1 wr : World} {gu cu gv cv gq Lu n m : Nat} {U v q : List Nat} (h : St w1 wr gu cu gv cv gq Lu n m U v q) (k y : Nat) : St w1 (wr.setCell ⟨gq, k, none⟩ (.int .i64 (y : Int))) gu cu gv cv gq Lu n m U v (q.set k y) :=
  ⟨h.u.other (Below.heap_setCell _ _ _ _ h.uq), h.v.other (Below.heap_setCell _ _ _ _ h.vq), h.q.set k y, h.uv, h.uq, h.vq, h.b.setCell (p := ⟨gq, k, none⟩) h.q.ge _⟩

theorem St.setV {w1 wr : World} {gu cu gv cv gq Lu n m : Nat} {U v q : List Nat} (h : St w1 wr gu cu gv cv gq Lu n m U v q) (k y : Nat) : St w1 (wr.setCell ⟨gv, k, none⟩ (.int .i64 (y : Int))) gu cu gv cv gq Lu n m U (v.set k y) q :=
  ⟨h.u.other (Below.heap_setCell _ _ _ _ h.uv), h.v.set k y, h.q.other (Below.heap_setCell _ _ _ _ (Ne.symm h.vq)), h.uv, h.uq, h.vq, h.b.setCell (p := ⟨gv, k, none⟩) h.v.ge _⟩
theorem orLc (k a c : Nat) (hc : c < 2 ^ k) (h : 2 ^ k * a + c < 9223372036854775808) : bits .or .i64 (c : Int) (((2 ^ k * a : Nat) : Int)) = ((2 ^ k * a + c : Nat) : Int) := by
  rw [← orL k a c hc h]
  show IntKind.i64.wrap ((BitVec.ofInt 64 (c : Int) ||| BitVec.ofInt 64 ((2 ^ k * a : Nat) : Int)).toNat : Nat) = IntKind.i64.wrap ((BitVec.ofInt 64 ((2 ^ k * a : Nat) : Int) ||| BitVec.ofInt 64 (c : Int)).toNat : Nat)
  rw [BitVec.or_comm]
/-- Two limbs, shifted back. -/
theorem back_step {a b s : Nat} (ha : a < 16777216) (hb : b < 16777216) (hs : s ≤ 23) : ∃ A1 B1 N1 y : Nat, (a : Int) / 2 ^ s = (A1 : Int) ∧ (b : Int) * 2 ^ (24 - s) = (B1 : Int) ∧ IntKind.i64.wrap ((b : Int) * 2 ^ (24 - s)) = (B1 : Int) ∧ bits .or .i64 (A1 : Int) (B1 : Int) = (N1 : Int) ∧
    (N1 : Int) % 16777216 = (y : Int) ∧ y < 16777216 ∧ IntKind.i64.wrap (B1 : Int) = (B1 : Int) ∧ (2 ^ (24 - s) * b + a / 2 ^ s) % 16777216 = y := by
  have hp : 0 < 2 ^ s := Nat.pow_pos (by omega)
  have hk : (16777216 : Nat) = 2 ^ (24 - s) * 2 ^ s := by rw [← Nat.pow_add, show 24 - s + s = 24 from by omega]
  have hxd : a / 2 ^ s < 2 ^ (24 - s) := (Nat.div_lt_iff_lt_mul hp).2 (by omega)
  have hpk : 2 ^ (24 - s) ≤ 16777216 := Nat.pow_le_pow_right (n := 2) (i := 24 - s) (j := 24) (by omega) (by omega)
  have hB : 2 ^ (24 - s) * b ≤ 16777216 * 16777216 := Nat.mul_le_mul hpk (by omega)
  have e2 : (b : Int) * 2 ^ (24 - s) = ((2 ^ (24 - s) * b : Nat) : Int) := by simp [Int.mul_comm]
  refine ⟨a / 2 ^ s, 2 ^ (24 - s) * b, 2 ^ (24 - s) * b + a / 2 ^ s, (2 ^ (24 - s) * b + a / 2 ^ s) % 16777216, by simp, e2, ?_, orLc _ _ _ hxd ?_, by omega, Nat.mod_lt _ (by omega), ?_, rfl⟩
  · rw [e2]; exact IntWalk.i64_in _ (by omega)
  · omega
  · exact IntWalk.i64_in _ (by omega)

/-! What comes before and behind the loop. -/
theorem norm_dvr {lb v : List Nat} {s n : Nat} (Lb : Limbs lb) (hn : lb.length = n) (h2 : 2 ≤ n) (hs1 : 8388608 ≤ lb.getD (n - 1) 0 * 2 ^ s) (hs2 : lb.getD (n - 1) 0 * 2 ^ s < 16777216)
    (hv : InP (2 ^ s * lV lb) v) : Dvr v n := by
  obtain ⟨v1, v2, v3⟩ := hv
  have hsplit : lV lb = lV (lb.take (n - 1)) + 16777216 ^ (n - 1) * lb.getD (n - 1) 0 := by
    rw [← lV_take_succ, show n - 1 + 1 = n from by omega, List.take_of_length_le (by omega)]
  have hlow := lV_lt (Lb.take (n - 1))
  rw [List.length_take, Nat.min_eq_left (by omega)] at hlow
  have hpn : (16777216 : Nat) ^ n = 16777216 ^ (n - 1) * 16777216 := by rw [← Nat.pow_succ]; congr 1; omega
  have e1 : 2 ^ s * lV lb = 2 ^ s * lV (lb.take (n - 1)) + 16777216 ^ (n - 1) * (lb.getD (n - 1) 0 * 2 ^ s) := by
    rw [hsplit, Nat.mul_add]; congr 1
    rw [Nat.mul_left_comm, Nat.mul_comm (2 ^ s)]
  have e2 : 2 ^ s * lV (lb.take (n - 1)) < 2 ^ s * 16777216 ^ (n - 1) := Nat.mul_lt_mul_of_pos_left hlow (Nat.pow_pos (by omega))
  have hd0 : 0 < lb.getD (n - 1) 0 := by
    rcases Nat.eq_zero_or_pos (lb.getD (n - 1) 0) with h | h
    · rw [h] at hs1; omega
    · exact h
  have hmod : 16777216 ^ (n - 1) * (lb.getD (n - 1) 0 * 2 ^ s) + 2 ^ s * 16777216 ^ (n - 1) ≤ 16777216 ^ n := by
    rw [hpn, Nat.mul_comm (2 ^ s), ← Nat.mul_add]
    refine Nat.mul_le_mul_left _ ?_
    rcases Nat.lt_or_ge s 24 with h24 | h24
    · have hk : (16777216 : Nat) = 2 ^ (24 - s) * 2 ^ s := by rw [← Nat.pow_add, show 24 - s + s = 24 from by omega]
      have : lb.getD (n - 1) 0 < 2 ^ (24 - s) := by
        rcases Nat.lt_or_ge (lb.getD (n - 1) 0) (2 ^ (24 - s)) with h | h
        · exact h
        · have := Nat.mul_le_mul_right (2 ^ s) h; omega
      have := Nat.mul_le_mul_right (2 ^ s) (show lb.getD (n - 1) 0 + 1 ≤ 2 ^ (24 - s) from this)
      rw [Nat.add_mul, Nat.one_mul] at this
      omega
    · have := Nat.mul_le_mul hd0 (Nat.pow_le_pow_right (n := 2) (by omega) h24)
      omega
  have hlt : lV v < 16777216 ^ n := by rw [v3, e1]; omega
  have hge : 16777216 ^ (n - 1) * 8388608 ≤ lV v := by
    rw [v3, e1]
    have := Nat.mul_le_mul_left (16777216 ^ (n - 1)) hs1
    omega
  have hln : v.length = n := by
    refine Nat.le_antisymm (InP.len ⟨v1, v2, rfl⟩ hlt) ?_
    rcases Nat.lt_or_ge v.length n with h | h
    · exfalso
      have a := lV_lt v1
      have : 16777216 ^ v.length ≤ 16777216 ^ (n - 1) := Nat.pow_le_pow_right (by omega) (by omega)
      omega
    · exact h
  refine ⟨v1, hln, h2, ?_⟩
  have e := lV_dig v1 (n - 1)
  rw [show n - 1 + 1 = n from by omega, Nat.div_eq_of_lt hlt, Nat.mul_zero, Nat.add_zero] at e
  rw [← e, Nat.le_div_iff_mul_le (Nat.pow_pos (by omega)), Nat.mul_comm]
  exact hge
theorem DivRel.start {la v U : List Nat} {s n m : Nat} (La : Limbs la) (d : Dvr v n) (hs : s ≤ 23) (hm : m + n = la.length + 1) (hU : LeftP la s U) : DivRel (2 ^ s * lV la) v n m m U (List.replicate m 0) := by
  have z : lV (List.replicate m 0) = 0 := lV_zeros fun x hx => List.eq_of_mem_replicate hx
  refine ⟨hU.1, fun x hx => by have := List.eq_of_mem_replicate hx; omega, by rw [hU.2.1, hm], by simp, by rw [z, hU.2.2]; omega, ?_, fun k _ => by
    simp only [List.getD_eq_getElem?_getD, List.getElem?_replicate]; split <;> rfl⟩
  rw [hU.2.2]
  have a := lV_lt La
  have b : 2 ^ s * lV la < 8388608 * 16777216 ^ la.length := Nat.mul_lt_mul_of_le_of_lt (pow_le23 hs) a (by omega)
  have c : 16777216 ^ (n - 1) * 8388608 ≤ lV v := by
    have e := lV_dig d.lv (n - 1)
    have h2 := d.two
    rw [show n - 1 + 1 = n from by omega, Nat.div_eq_of_lt d.lt, Nat.mul_zero, Nat.add_zero] at e
    have := d.top
    rw [← e, Nat.le_div_iff_mul_le (Nat.pow_pos (by omega)), Nat.mul_comm] at this
    exact this
  have f := Nat.mul_le_mul_right (16777216 ^ m) c
  rw [Nat.mul_right_comm, ← Nat.pow_add, show n - 1 + m = la.length from by have := d.two; omega] at f
  omega

/-! The rest, shifted back. -/
def BackRel (U : List Nat) (s i : Nat) (r : List Nat) : Prop := Limbs r ∧ 2 ^ s * lV (r.take i) + U.getD 0 0 % 2 ^ s = lV (U.take i) + 16777216 ^ i * (U.getD i 0 % 2 ^ s)
theorem take_set_self {r : List Nat} {i : Nat} (y : Nat) : (r.set i y).take i = r.take i := by rw [List.take_set_of_le (Nat.le_refl _)]
theorem BackRel.next {U r : List Nat} {s i y : Nat} (h : BackRel U s i r) (hs : s ≤ 23) (hi : i < r.length) (hy : y = (2 ^ (24 - s) * U.getD (i + 1) 0 + U.getD i 0 / 2 ^ s) % 16777216) (hU : U.getD i 0 < 16777216) : BackRel U s (i + 1) (r.set i y) := by
  obtain ⟨h1, h2⟩ := h
  have hp : 0 < 2 ^ s := Nat.pow_pos (by omega)
  have hk : (16777216 : Nat) = 2 ^ (24 - s) * 2 ^ s := by rw [← Nat.pow_add, show 24 - s + s = 24 from by omega]
  refine ⟨h1.set _ (by rw [hy]; exact Nat.mod_lt _ (by omega)), ?_⟩
  have hg : (r.set i y).getD i 0 = y := by rw [getD_eq (by simpa using hi), List.getElem_set_self]
  rw [lV_take_succ, take_set_self, hg, lV_take_succ]
  have key : 2 ^ s * y + U.getD i 0 % 2 ^ s = U.getD i 0 + 16777216 * (U.getD (i + 1) 0 % 2 ^ s) := by
    have a := Nat.div_add_mod (U.getD i 0) (2 ^ s)
    have b := Nat.div_add_mod (U.getD (i + 1) 0) (2 ^ s)
    generalize U.getD i 0 = x at *
    generalize U.getD (i + 1) 0 = x1 at *
    generalize hP : 2 ^ s = P at *
    generalize 2 ^ (24 - s) = R at *
    have hxd : x / P < R := (Nat.div_lt_iff_lt_mul hp).2 (by omega)
    have hm := Nat.mod_lt x1 hp
    have e1 : R * x1 + x / P = 16777216 * (x1 / P) + (R * (x1 % P) + x / P) := by
      have : R * x1 = R * (P * (x1 / P)) + R * (x1 % P) := by rw [← Nat.mul_add, b]
      rw [this, ← Nat.mul_assoc, ← hk, Nat.add_assoc]
    have e2 : R * (x1 % P) + x / P < 16777216 := by
      have := Nat.mul_le_mul_left R (show x1 % P + 1 ≤ P from hm)
      rw [Nat.mul_add, ← hk] at this
      omega
    have e3 : y = R * (x1 % P) + x / P := by rw [hy, e1, Nat.mul_add_mod, Nat.mod_eq_of_lt e2]
    rw [e3, Nat.mul_add, ← Nat.mul_assoc, Nat.mul_comm P R, ← hk]
    omega
  rw [Nat.mul_add, Nat.mul_left_comm, Nat.pow_succ, Nat.mul_assoc]
  have e := congrArg (16777216 ^ i * ·) key
  simp only [Nat.mul_add] at e
  generalize 16777216 ^ i * (2 ^ s * y) = z1 at *
  generalize 16777216 ^ i * (U.getD i 0 % 2 ^ s) = z2 at *
  generalize 16777216 ^ i * U.getD i 0 = z3 at *
  generalize 16777216 ^ i * (16777216 * (U.getD (i + 1) 0 % 2 ^ s)) = z4 at *
  omega
theorem BackRel.done {U r : List Nat} {s n : Nat} (h : BackRel U s n r) (hr : r.length = n) (LU : Limbs U) (hlt : lV U < 16777216 ^ n) : lV r = lV U / 2 ^ s := by
  obtain ⟨h1, h2⟩ := h
  have hp : 0 < 2 ^ s := Nat.pow_pos (by omega)
  rw [high_zero LU hlt (Nat.le_refl n), Nat.zero_mod, Nat.mul_zero, Nat.add_zero, List.take_of_length_le (by omega)] at h2
  have hz : lV U = lV (U.take n) := by
    have a := lV_split U n
    have b := lV_div LU n
    rw [Nat.div_eq_of_lt hlt] at b
    rw [← b] at a
    simpa using a
  rw [hz, ← h2, Nat.mul_add_div hp, Nat.div_eq_of_lt (Nat.mod_lt _ hp)]; omega
theorem div_back {a b s : Nat} : 2 ^ s * a / (2 ^ s * b) = a / b ∧ 2 ^ s * a % (2 ^ s * b) / 2 ^ s = a % b := by
  have hp : 0 < 2 ^ s := Nat.pow_pos (by omega)
  refine ⟨Nat.mul_div_mul_left _ _ hp, ?_⟩
  rw [Nat.mul_mod_mul_left, Nat.mul_div_cancel_left _ hp]
end Go.Proofs.Ytkpcocdflcpnoaa
