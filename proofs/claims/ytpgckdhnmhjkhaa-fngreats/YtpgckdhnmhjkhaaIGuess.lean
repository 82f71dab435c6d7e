/-
  The contract of impl's guessLimb.
-/
import Derived.Test.YtpgckdhnmhjkhaaIMul
import Derived.Test.YtpgckdhnmhjkhaaWDiv
namespace Go.Proofs.Ytpgckdhnmhjkhaa
open Go.RowKit

/-- What the loop holds: the guess is not too little. -/
structure GuessRel (X V top v1 g r : Nat) : Prop where
  sum : g * v1 + r = top
  ge : X / V ≤ g
  le : g ≤ 4294967297
  or_ : r < 4294967296 ∨ g ≤ 4294967296
  rb : r < 8589934592
theorem GuessRel.start {X V P top u3 v1 v2 : Nat} (t : W.Top X V P top u3 v1 v2) : GuessRel X V top v1 (top / v1) (top % v1) := by
  have h := t.first
  have h1 := t.h1'
  have h2 := t.h1
  have := Nat.mod_lt top (show 0 < v1 by omega)
  exact ⟨Nat.div_add_mod' top v1, h.1, h.2, .inl (by omega), by omega⟩
theorem GuessRel.down {X V P top u3 v1 v2 g r : Nat} (t : W.Top X V P top u3 v1 v2) (h : GuessRel X V top v1 g r) (hr : r < 4294967296) (hg : 4294967296 ≤ g ∨ r * 4294967296 + u3 < g * v2) : GuessRel X V top v1 (g - 1) (r + v1) ∧ 0 < g := by
  have lt : X / V < g := by
    rcases hg with hg | hg
    · have := t.qd
      exact Nat.lt_of_lt_of_le this hg
    · exact t.more h.sum hg
  have g0 : 0 < g := Nat.lt_of_le_of_lt (Nat.zero_le _) lt
  have h1 := t.h1'
  have hle := h.le
  refine ⟨⟨?_, Nat.le_sub_one_of_lt lt, by omega, .inr (by omega), by omega⟩, g0⟩
  have e := h.sum
  obtain ⟨k, rfl⟩ : ∃ k, g = k + 1 := ⟨g - 1, by omega⟩
  rw [Nat.add_mul, Nat.one_mul] at e
  rw [Nat.add_sub_cancel]; omega
/-- Where the loop ends. -/
theorem GuessRel.done {X V P top u3 v1 v2 g r : Nat} (t : W.Top X V P top u3 v1 v2) (h : GuessRel X V top v1 g r) (hr : 4294967296 ≤ r ∨ (g < 4294967296 ∧ g * v2 ≤ r * 4294967296 + u3)) : g < 4294967296 ∧ X / V ≤ g ∧ g ≤ X / V + 1 := by
  have qd := t.qd
  rcases hr with hr | ⟨hg, hr⟩
  · have hg : g ≤ 4294967296 := by rcases h.or_ with h | h; omega; exact h
    have := t.past h.sum hr hg
    exact ⟨by omega, h.ge, by omega⟩
  · exact ⟨hg, h.ge, t.less h.sum (by omega) hr⟩
/-- The walk's own numbers, in the test. -/
theorem guess_nums {g r v2 u3 : Nat} (hg : g < 4294967296) (hr : r < 4294967296) (h2 : v2 < 4294967296) (h3 : u3 < 4294967296) : ∃ p s : Nat, g * v2 = p ∧ r * 4294967296 + u3 = s ∧ IntKind.u64.wrap ((g : Int) * (v2 : Int)) = (p : Int) ∧
    IntKind.u64.wrap ((r : Int) * 4294967296) = (r : Int) * 4294967296 ∧ bits .or .u64 ((r : Int) * 4294967296) (u3 : Int) = (s : Int) := by
  obtain ⟨p, hp⟩ : ∃ p, g * v2 = p := ⟨_, rfl⟩
  have h1 : p ≤ 4294967295 * 4294967295 := by rw [← hp]; exact Nat.mul_le_mul (by omega) (by omega)
  have e : (g : Int) * (v2 : Int) = (p : Int) := by rw [← hp]; simp
  obtain ⟨o1, o2, _, _⟩ := or64_32 hr h3 rfl
  exact ⟨p, _, hp, rfl, by rw [e, IntKind.wrap_u64]; omega, o2, o1⟩

/-- The same memory. -/
structure Same (w w' : World) : Prop where
  heap : w'.heap = w.heap
  os : w'.os = w.os
  tape : w'.tape = w.tape
  output : w'.output = w.output
theorem Same.refl (w : World) : Same w w := ⟨rfl, rfl, rfl, rfl⟩
theorem Same.drewN {w w' : World} (h : Same w w') (k : Nat) : Same w (w'.drewN k) := ⟨h.heap, h.os, h.tape, h.output⟩
def GLoop (X V T v1 : Nat) (gv rv : Value) : Prop := ∃ g r : Nat, gv = .int .u64 (g : Int) ∧ rv = .int .u64 (r : Int) ∧ Hid (GuessRel X V T v1 g r)
def GuessPost (q : Nat) (w : World) (e : Ending) (w' : World) : Prop := ∃ g : Nat, g < 4294967296 ∧ q ≤ g ∧ g ≤ q + 1 ∧ e = .returned (.int .u32 (g : Int)) ∧ Same w w'
set_option maxRecDepth 8000 in
set_option maxHeartbeats 4000000 in
theorem guessLimb_any (gu gv cu n at_ X V P : Nat) (U v : List Nat) (w : World) (hu : RowI w gu U cu) (hv : RowI w gv v n) (h2 : 2 ≤ n) (hat : at_ + n < 81)
    (t : W.Top X V P (U.getD (at_ + n) 0 * 4294967296 + U.getD (at_ + n - 1) 0) (U.getD (at_ + n - 2) 0) (v.getD (n - 1) 0) (v.getD (n - 2) 0)) (Lu : W.Limbs U) :
    Calls Try.prog 83 #[.pointer (some ⟨gu, 0, none⟩), .pointer (some ⟨gv, 0, none⟩), .int .i64 (at_ : Int)] w (GuessPost (X / V) w) := by
  obtain ⟨c1, _⟩ := hv.cnt
  obtain ⟨v1c, _⟩ := hv.cell (k := n - 1) (by omega)
  obtain ⟨v2c, _⟩ := hv.cell (k := n - 2) (by omega)
  obtain ⟨u1c, _⟩ := hu.cell (k := at_ + n) (by omega)
  obtain ⟨u2c, _⟩ := hu.cell (k := at_ + n - 1) (by omega)
  obtain ⟨u3c, _⟩ := hu.cell (k := at_ + n - 2) (by omega)
  have b1 := W.getD_lt Lu (at_ + n)
  have b2 := W.getD_lt Lu (at_ + n - 1)
  generalize U.getD (at_ + n) 0 = u1 at *
  generalize U.getD (at_ + n - 1) 0 = u2 at *
  generalize U.getD (at_ + n - 2) 0 = u3 at *
  generalize v.getD (n - 1) 0 = v1 at *
  generalize v.getD (n - 2) 0 = v2 at *
  obtain ⟨T, hT⟩ : ∃ T, u1 * 4294967296 + u2 = T := ⟨_, rfl⟩
  rw [hT] at t
  have b3 := t.h3
  have bv1 := t.h1'
  have bv1' := t.h1
  have bv2 := t.h2
  obtain ⟨o1, o2, o3, o4⟩ := or64_32 b1 b2 hT
  have o5 := u64_of bv1
  have o6 := u64_of bv2
  have o7 := u64_of b3
  obtain ⟨n1, hn1⟩ : ∃ j, n - 1 = j := ⟨_, rfl⟩
  obtain ⟨n2, hn2⟩ : ∃ j, n - 2 = j := ⟨_, rfl⟩
  obtain ⟨t0, ht0⟩ : ∃ j, at_ + n = j := ⟨_, rfl⟩
  obtain ⟨t1, ht1⟩ : ∃ j, at_ + n - 1 = j := ⟨_, rfl⟩
  obtain ⟨t2, ht2⟩ : ∃ j, at_ + n - 2 = j := ⟨_, rfl⟩
  rw [hn1] at v1c
  rw [hn2] at v2c
  rw [ht1] at u2c
  rw [ht2] at u3c
  rw [ht0] at u1c
  have p1 : (at_ : Int) + (n : Int) = (t0 : Int) := by omega
  have p2 : IntKind.i64.wrap ((n : Int) - 1) = (n1 : Int) := by rw [IntWalk.i64_in _ (by omega)]; omega
  have p3 : IntKind.i64.wrap ((n : Int) - 2) = (n2 : Int) := by rw [IntWalk.i64_in _ (by omega)]; omega
  have p4 : IntKind.i64.wrap ((t0 : Int) - 1) = (t1 : Int) := by rw [IntWalk.i64_in _ (by omega)]; omega
  have p5 : (t0 : Int) - 2 = (t2 : Int) := by omega
  obtain ⟨G0, hG0⟩ : ∃ G0, T / v1 = G0 := ⟨_, rfl⟩
  obtain ⟨R0, hR0⟩ : ∃ R0, T % v1 = R0 := ⟨_, rfl⟩
  have hg := GuessRel.start t
  rw [hG0, hR0] at hg
  have hd0 : ¬ (v1 : Int) = 0 := by omega
  have hd1 : ¬ v1 = 0 := by omega
  have t5 : (T : Int) / (v1 : Int) = (G0 : Int) := by rw [← hG0]; simp
  have t6 : (T : Int) % (v1 : Int) = (R0 : Int) := by rw [← hR0]; simp
  have t7 : (T : Int).tdiv (v1 : Int) = (G0 : Int) := by rw [Int.tdiv_eq_ediv_of_nonneg (by omega)]; exact t5
  have t8 : (T : Int).tmod (v1 : Int) = (R0 : Int) := by rw [Int.tmod_eq_emod_of_nonneg (by omega)]; exact t6
  have hgl := hg.le
  have hgr := hg.rb
  have t9 : IntKind.u64.wrap (G0 : Int) = (G0 : Int) := by rw [IntKind.wrap_u64]; omega
  have HG := Lib.hid hg
  have HTp := Lib.hid t
  have k1 : (t2 : Int) < 81 := by omega
  have k2 : (t1 : Int) < 81 := by omega
  have k3 : (t0 : Int) < 81 := by omega
  have k4 : (n2 : Int) < 81 := by omega
  have k5 : (n1 : Int) < 81 := by omega
  have q1 : (0 : Int) ≤ (t2 : Int) := by omega
  have q2 : (0 : Int) ≤ (t1 : Int) := by omega
  have q3 : (0 : Int) ≤ (t0 : Int) := by omega
  have q4 : (0 : Int) ≤ (n2 : Int) := by omega
  have q5 : (0 : Int) ≤ (n1 : Int) := by omega
  clear hT hn1 hn2 ht0 ht1 ht2 hG0 hR0 hg t hu hv Lu hgl hgr
  go_enter Try.func83, Try.ntmps83
  go_wp2
  go_quiet (fail)
  go_wp2
  go_quiet (fail)
  go_wp2
  go_quiet (fail)
  go_wp2
  go_quiet (fail)
  go_wp2
  clear o1 o2 o3 o4 o5 o6 p1 p2 p3 p4 t5 t6 t7 t8 t9 c1 v1c v2c u1c u2c
  go_loop [11, 12] (fun gv rv => GLoop X V T v1 gv rv) (fun gv _ => (intOf gv).toNat)
  case atStart => exact ⟨G0, R0, rfl, rfl, HG⟩
  case round =>
    clear HG
    obtain ⟨g, r, rfl, rfl, hG⟩ := hrel
    by_cases hr : r < 4294967296
    · have hr' : (r : Int) < 4294967296 := by omega
      by_cases hg : 4294967296 ≤ g
      · have hg' : (4294967296 : Int) ≤ (g : Int) := by omega
        obtain ⟨hN, hg0⟩ := hG.out.down HTp.out hr (.inl hg)
        have hgl := hG.out.le
        obtain ⟨g1, hg1⟩ : ∃ x, g - 1 = x := ⟨_, rfl⟩
        obtain ⟨r1, hr1⟩ : ∃ x, r + v1 = x := ⟨_, rfl⟩
        rw [hg1, hr1] at hN
        have HN := Lib.hid hN
        have w1 : IntKind.u64.wrap ((g : Int) - 1) = (g1 : Int) := by rw [IntKind.wrap_u64]; omega
        have w2 : IntKind.u64.wrap ((r : Int) + (v1 : Int)) = (r1 : Int) := by rw [IntKind.wrap_u64]; omega
        have hlt : g1 < g := by omega
        clear hG hN hg1 hr1 hgl
        go_wp2
        go_round
        case rel => exact ⟨g1, r1, rfl, rfl, HN⟩
        case measure => simp [intOf]; omega
      · have hg' : ¬ (4294967296 : Int) ≤ (g : Int) := by omega
        obtain ⟨p, s, hp, hs, w1, w2, w3⟩ := guess_nums (by omega : g < 4294967296) hr bv2 b3
        by_cases hps : s < p
        · have hps' : (s : Int) < (p : Int) := by omega
          obtain ⟨hN, hg0⟩ := hG.out.down HTp.out hr (.inr (by omega))
          obtain ⟨g1, hg1⟩ : ∃ x, g - 1 = x := ⟨_, rfl⟩
          obtain ⟨r1, hr1⟩ : ∃ x, r + v1 = x := ⟨_, rfl⟩
          rw [hg1, hr1] at hN
          have HN := Lib.hid hN
          have w4 : IntKind.u64.wrap ((g : Int) - 1) = (g1 : Int) := by rw [IntKind.wrap_u64]; omega
          have w5 : IntKind.u64.wrap ((r : Int) + (v1 : Int)) = (r1 : Int) := by rw [IntKind.wrap_u64]; omega
          have hlt : g1 < g := by omega
          clear hG hN hg1 hr1 hp hs
          go_wp2
          go_round
          case rel => exact ⟨g1, r1, rfl, rfl, HN⟩
          case measure => simp [intOf]; omega
        · have hps' : ¬ (s : Int) < (p : Int) := by omega
          have D := hG.out.done HTp.out (.inr ⟨by omega, by omega⟩)
          have w4 : IntKind.u32.wrap (g : Int) = (g : Int) := by rw [IntKind.wrap_u32]; omega
          have HD := Lib.hid D
          clear hG D hp hs
          go_wp2
          go_ret
          exact ⟨g, HD.out.1, HD.out.2.1, HD.out.2.2, rfl, (Same.refl w).drewN _⟩
    · have hr' : ¬ (r : Int) < 4294967296 := by omega
      have D := hG.out.done HTp.out (.inl (by omega))
      have hg2 : g < 4294967296 := D.1
      have w4 : IntKind.u32.wrap (g : Int) = (g : Int) := by rw [IntKind.wrap_u32]; omega
      have HD := Lib.hid D
      clear hG D
      go_wp2
      go_ret
      exact ⟨g, HD.out.1, HD.out.2.1, HD.out.2.2, rfl, (Same.refl w).drewN _⟩
end Go.Proofs.Ytpgckdhnmhjkhaa
