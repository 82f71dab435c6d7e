import Derived.Test.YtdajgcgliidjbaaGreatNDivs
import Derived.Test.YtdajgcgliidjbaaGreatMAll
set_option maxRecDepth 8000
set_option maxHeartbeats 4000000
namespace Go.Proofs.YtdajgcgliidjbaaGreat
open Go.RowKit
def RowX (w : World) (v : Value) (x : Nat) : Prop := ∃ b A cap, ∃ l : List Nat, v = .slice A l.length cap ∧ RowN w b A cap l ∧ InP x l
theorem RowX.below {w w' : World} {v : Value} {x : Nat} (h : RowX w v x) (hb : Below w.heap.size w w') : RowX w' v x := by
 obtain ⟨b, A, cap, l, e, r, p⟩ := h
 exact ⟨b, A, cap, l, e, r.below hb, p⟩
theorem RowX.shape {w : World} {v : Value} {x : Nat} (h : RowX w v x) : ∃ A n cap, v = .slice A n cap := by
 obtain ⟨b, A, cap, l, e, _⟩ := h
 exact ⟨A, l.length, cap, e⟩
def RowTo (x : Nat) (w : World) (e : Ending) (w' : World) : Prop := ∃ v, e = .returned v ∧ RowX w' v x ∧ Below w.heap.size w w'
def RowTwo (x y : Nat) (w : World) (e : Ending) (w' : World) : Prop := ∃ u v, e = .returned (.tuple #[u, v]) ∧ RowX w' u x ∧ RowX w' v y ∧ Below w.heap.size w w'
theorem RowTo.of {P : List Nat → Prop} {x : Nat} {w w' : World} {e : Ending} (h : RowPost P w e w') (hp : ∀ l, P l → InP x l) : RowTo x w e w' := by
 obtain ⟨A, cap, l, e, p, r, b⟩ := h
 exact ⟨_, e, ⟨_, A, cap, l, rfl, r, hp l p⟩, b⟩
def SM : Nat := 16777216 ^ 240
theorem GB_SM : GB * GB ≤ SM := by
 have h : GB * GB ≤ 16777216 ^ 54 * 16777216 ^ 54 := Nat.mul_le_mul GB_54 GB_54
 rw [← Nat.pow_add] at h
 exact Nat.le_trans h (Nat.pow_le_pow_right (by omega) (by omega))
theorem GB_pos : 1 < GB := Nat.lt_of_lt_of_le (show 1 < 256 ^ 1 by decide) (Nat.pow_le_pow_right (by omega) (by omega))
theorem sm_mul {x y : Nat} (hx : x < GB) (hy : y < GB) : x * y < SM := Nat.lt_of_lt_of_le (Nat.mul_lt_mul'' hx hy) GB_SM
theorem sm_add {x y : Nat} (hx : x ≤ GB) (hy : y < GB) : x + y < SM := by
 have h1 : GB + GB ≤ GB * GB := by have := GB_pos; have : GB * 2 ≤ GB * GB := Nat.mul_le_mul_left _ (by omega); omega
 have := GB_SM
 omega
theorem sm_one {x : Nat} (hx : x < GB) : x < SM := by have := sm_add (x := 0) (Nat.zero_le _) hx; omega
theorem InP.sm {x : Nat} {l : List Nat} (h : InP x l) (hx : x < SM) : l.length ≤ 240 := h.len hx
theorem in_x (s : ByteArray) (w : World) (hs : s.size ≤ 1000000) : Calls Tryz.prog 34 #[.string s] w (RowTo (gV s) w) := (in_any s w hs).mono fun _ _ h => RowTo.of h fun _ p => p
theorem out_x {w : World} {v : Value} {x : Nat} (h : RowX w v x) (hx : x < SM) : Calls Tryz.prog 128 #[v] w fun e w' => e = .returned (.string (gS x)) ∧ Below w.heap.size w w' := by
 obtain ⟨b, A, cap, l, rfl, r, p⟩ := h
 have := p.sm hx
 refine (out_any b cap A l w r p.1 (by omega)).mono fun e w' ⟨he, hb⟩ => ⟨?_, hb⟩
 rw [he, p.2.2]
theorem cmp_x {w : World} {u v : Value} {x y : Nat} (h : RowX w u x) (k : RowX w v y) (hx : x < SM) : Calls Tryz.prog 100 #[u, v] w (CmpPost (cmpI x y) w) := by
 obtain ⟨b, A, cap, l, rfl, r, p⟩ := h
 obtain ⟨b2, A2, cap2, l2, rfl, r2, p2⟩ := k
 have := p.sm hx
 have H := cmp_any b b2 cap cap2 A A2 l l2 w r r2 p.1 p2.1 p.2.1 p2.2.1 (by omega)
 rw [p.2.2, p2.2.2] at H
 exact H
theorem add_x {w : World} {u v : Value} {x y : Nat} (h : RowX w u x) (k : RowX w v y) (hx : x < SM) (hy : y < SM) : Calls Tryz.prog 143 #[u, v] w (RowTo (x + y) w) := by
 obtain ⟨b, A, cap, l, rfl, r, p⟩ := h
 obtain ⟨b2, A2, cap2, l2, rfl, r2, p2⟩ := k
 have := p.sm hx
 have := p2.sm hy
 have H := add_trim b b2 cap cap2 A A2 l l2 w r r2 p.1 p2.1 p.2.1 p2.2.1 (by omega) (by omega)
 rw [p.2.2, p2.2.2] at H
 exact H.mono fun _ _ h => RowTo.of h fun _ p => p
theorem sub_x {w : World} {u v : Value} {x y : Nat} (h : RowX w u x) (k : RowX w v y) (hx : x < SM) (hle : y ≤ x) : Calls Tryz.prog 142 #[u, v] w (RowTo (x - y) w) := by
 obtain ⟨b, A, cap, l, rfl, r, p⟩ := h
 obtain ⟨b2, A2, cap2, l2, rfl, r2, p2⟩ := k
 have h1 := p.sm hx
 have h2 : l2.length ≤ l.length := p2.len (Nat.lt_of_le_of_lt hle (by rw [← p.2.2]; exact lV_lt p.1))
 have H := sub_any b b2 cap cap2 A A2 l l2 w r r2 p.1 p2.1 (by omega) h2 (by rw [p.2.2, p2.2.2]; exact hle)
 rw [p.2.2, p2.2.2] at H
 exact H.mono fun _ _ h => RowTo.of h fun _ p => p
theorem mul_x {w : World} {u v : Value} {x y : Nat} (h : RowX w u x) (k : RowX w v y) (hx : x < SM) (hy : y < SM) : Calls Tryz.prog 144 #[u, v] w (RowTo (x * y) w) := by
 obtain ⟨b, A, cap, l, rfl, r, p⟩ := h
 obtain ⟨b2, A2, cap2, l2, rfl, r2, p2⟩ := k
 have := p.sm hx
 have := p2.sm hy
 have H := mul_any b b2 cap cap2 A A2 l l2 w r r2 p.1 p2.1 (by omega) (by omega)
 rw [p.2.2, p2.2.2] at H
 exact H.mono fun _ _ h => RowTo.of h fun _ p => p
theorem div_x {w : World} {u v : Value} {x y : Nat} (h : RowX w u x) (k : RowX w v y) (hx : x < SM) (h0 : 0 < y) : Calls Tryz.prog 137 #[u, v] w (RowTwo (x / y) (x % y) w) := by
 obtain ⟨b, A, cap, l, rfl, r, p⟩ := h
 obtain ⟨b2, A2, cap2, l2, rfl, r2, p2⟩ := k
 have := p.sm hx
 have H := div_any b b2 cap cap2 A A2 l l2 w r r2 p.1 p2.1 p.2.1 p2.2.1 (by omega) (by rw [p2.2.2]; exact h0)
 rw [p.2.2, p2.2.2] at H
 exact H.mono fun _ _ ⟨A, ca, lq, B, cb, lr, he, pq, pr, rq, rr, hb⟩ => ⟨_, _, he, ⟨_, A, ca, lq, rfl, rq, pq⟩, ⟨_, B, cb, lr, rfl, rr, pr⟩, hb⟩
theorem row_one (w : World) (n : Nat) (h0 : 0 < n) (h : n < 16777216) : RowX (w.alloc (.cells #[.int .i64 (n : Int)] 3)) (.slice (some ⟨w.heap.size, 0, none⟩) 1 1) n :=
 ⟨w.heap.size, some ⟨w.heap.size, 0, none⟩, 1, [n], rfl, one_row w w (Below.refl _ _) n, ⟨fun x hx => by (have h : x = n := by simpa using hx); omega, .inr ⟨[], n, rfl, h0⟩, by simp [lV]⟩⟩
theorem row_none (w : World) : RowX (w.alloc (.cells #[] 3)) (.slice (some ⟨w.heap.size, 0, none⟩) 0 0) 0 :=
 ⟨w.heap.size, some ⟨w.heap.size, 0, none⟩, 0, [], rfl, World.ownsRow_made _ #[] 0 (Nat.le_refl _) (by decide) rfl, ⟨Limbs.nil, .inl rfl, rfl⟩⟩
theorem RowX.form {w : World} {v : Value} {x : Nat} (h : RowX w v x) : ∃ A n cap, v = .slice A n cap ∧ (n = 0 ↔ x = 0) ∧ (0 < n → ∃ g c, A = some ⟨g, 0, none⟩ ∧ w.cell? ⟨g, 0, none⟩ = some (.int .i64 ((c : Nat) : Int)) ∧ c = x % 16777216) ∧ (n = 1 ↔ (0 < x ∧ x < 16777216)) ∧ (x < SM → n ≤ 240) := by
 obtain ⟨b, A, cap, l, rfl, r, p⟩ := h
 have hz : l.length = 0 ↔ x = 0 := by
  constructor
  ·intro h; rw [← p.2.2, List.eq_nil_of_length_eq_zero h]; rfl
  ·intro h
   rcases Nat.eq_zero_or_pos l.length with e | e
   ·exact e
   ·exfalso
    have hne : l ≠ [] := fun q => by rw [q] at e; cases e
    have := p.2.1.ge hne
    rw [p.2.2, h] at this
    have : 0 < 16777216 ^ (l.length - 1) := Nat.pow_pos (by omega)
    omega
 refine ⟨A, l.length, cap, rfl, hz, fun h => ?_, ?_, p.sm⟩
 ·obtain ⟨g, e, _, _, c, _⟩ := r.at_ (k := 0) h
  refine ⟨g, l[0], e, c, ?_⟩
  cases l with
  | nil => cases h
  | cons y t =>
   have hy := p.1 y (by simp)
   have := p.2.2
   rw [lV_cons] at this
   show y = _
   omega
 ·constructor
  ·intro h
   have h1 := lV_lt p.1
   rw [p.2.2, h, Nat.pow_one] at h1
   exact ⟨Nat.pos_of_ne_zero fun e => by have := hz.2 e; omega, h1⟩
  ·intro ⟨h1, h2⟩
   have h3 := p.len (k := 1) (by rw [Nat.pow_one]; exact h2)
   have h4 : l.length ≠ 0 := fun e => by have := hz.1 e; omega
   omega
theorem cmp_ge {x y : Nat} : (0 ≤ cmpI x y) ↔ y ≤ x := by unfold cmpI; split <;> (try split) <;> omega
theorem cmp_lt {x y : Nat} : (cmpI x y < 0) ↔ x < y := by unfold cmpI; split <;> (try split) <;> omega
theorem ladd_x {w : World} {u v p : Value} {x y n : Nat} (h : RowX w u x) (k : RowX w v y) (r : RowX w p n) (hx : x < n) (hy : y < n) (hn : n < GB) : Calls Tryz.prog 103 #[u, v, p] w (RowTo ((x + y) % n) w) := by
 have H1 := Lib.hid (add_x h k (sm_one (by omega)) (sm_one (by omega)))
 have HP := Lib.hid r
 have hsm : x + y < SM := sm_add (by omega) (by omega)
 obtain ⟨au, nu, cu, rfl⟩ := h.shape
 obtain ⟨av, nv, cv, rfl⟩ := k.shape
 obtain ⟨ap, np, cp, rfl⟩ := r.shape
 clear h k r
 go_enter Tryz.func103, Tryz.ntmps103
 go_wp2_with fail
 refine H1.out.mono ?_
 rintro e w1 ⟨s, rfl, hs, b1⟩
 have HP1 := HP.out.below b1
 have H2 := Lib.hid (cmp_x hs HP1 hsm)
 have HS := Lib.hid hs
 have HPP := Lib.hid HP1
 obtain ⟨as', ns, cs, rfl⟩ := hs.shape
 clear hs HP1 H1 HP
 go_wp2_with fail
 refine H2.out.mono ?_
 rintro e w2 ⟨rfl, b2⟩
 by_cases hge : n ≤ x + y
 ·have hc : 0 ≤ cmpI (x + y) n := cmp_ge.2 hge
  have H3 := Lib.hid (sub_x (HS.out.below b2) (HPP.out.below b2) hsm hge)
  have e1 : (x + y) % n = x + y - n := by rw [Nat.mod_eq_sub_mod hge, Nat.mod_eq_of_lt (by omega)]
  generalize cmpI (x + y) n = cc at *
  clear H2 HS HPP
  go_wp2_with fail
  refine H3.out.mono ?_
  rintro e w3 ⟨t, rfl, ht, b3⟩
  have R : Hid (RowTo ((x + y) % n) w (.returned t) w3) := ⟨t, rfl, by rw [e1]; exact ht, bt (bt b1 b2) b3⟩
  clear H3 ht b3 b2 b1 e1
  go_wp2
  go_ret
  exact R.out
 ·have hc : ¬ 0 ≤ cmpI (x + y) n := fun h => hge (cmp_ge.1 h)
  have R : Hid (RowTo ((x + y) % n) w (.returned (.slice as' ns cs)) w2) := ⟨_, rfl, by rw [Nat.mod_eq_of_lt (by omega)]; exact HS.out.below b2, bt b1 b2⟩
  generalize cmpI (x + y) n = cc at *
  clear H2 HS HPP b1 b2
  go_wp2
  go_ret
  exact R.out
theorem lsub_x {w : World} {u v p : Value} {x y n : Nat} (h : RowX w u x) (k : RowX w v y) (r : RowX w p n) (hx : x < n) (hy : y < n) (hn : n < GB) : Calls Tryz.prog 101 #[u, v, p] w (RowTo ((x + n - y) % n) w) := by
 have H1 := Lib.hid (cmp_x h k (sm_one (by omega)))
 have HU := Lib.hid h
 have HV := Lib.hid k
 have HP := Lib.hid r
 have hsm : x + n < SM := sm_add (by omega) (by omega)
 have hx1 : x < SM := sm_one (by omega)
 have hn1 : n < SM := sm_one hn
 obtain ⟨au, nu, cu, rfl⟩ := h.shape
 obtain ⟨av, nv, cv, rfl⟩ := k.shape
 obtain ⟨ap, np, cp, rfl⟩ := r.shape
 clear h k r
 go_enter Tryz.func101, Tryz.ntmps101
 go_wp2_with fail
 refine H1.out.mono ?_
 rintro e w1 ⟨rfl, b1⟩
 have HU1 := Lib.hid (HU.out.below b1)
 have HV1 := Lib.hid (HV.out.below b1)
 have HP1 := Lib.hid (HP.out.below b1)
 by_cases hlt : x < y
 ·have hc : cmpI x y < 0 := cmp_lt.2 hlt
  have H2 := Lib.hid (add_x HU1.out HP1.out hx1 hn1)
  have e1 : (x + n - y) % n = x + n - y := Nat.mod_eq_of_lt (by omega)
  generalize cmpI x y = cc at *
  clear H1 HU HV HP
  go_wp2_with fail
  refine H2.out.mono ?_
  rintro e w2 ⟨s, rfl, hs, b2⟩
  have H3 := Lib.hid (sub_x hs (HV1.out.below b2) hsm (by omega))
  obtain ⟨as', ns, cs, rfl⟩ := hs.shape
  clear hs H2
  go_wp2_with fail
  refine H3.out.mono ?_
  rintro e w3 ⟨t, rfl, ht, b3⟩
  have R : Hid (RowTo ((x + n - y) % n) w (.returned t) w3) := ⟨t, rfl, by rw [e1]; exact ht, bt (bt b1 b2) b3⟩
  clear H3 ht b3 b2 b1 e1
  go_wp2
  go_ret
  exact R.out
 ·have hc : ¬ cmpI x y < 0 := fun h => hlt (cmp_lt.1 h)
  have H2 := Lib.hid (sub_x HU1.out HV1.out hx1 (by omega))
  have e1 : (x + n - y) % n = x - y := by rw [show x + n - y = x - y + n from by omega, Nat.add_mod_right, Nat.mod_eq_of_lt (by omega)]
  generalize cmpI x y = cc at *
  clear H1 HU HV HP
  go_wp2_with fail
  refine H2.out.mono ?_
  rintro e w2 ⟨t, rfl, ht, b2⟩
  have R : Hid (RowTo ((x + n - y) % n) w (.returned t) w2) := ⟨t, rfl, by rw [e1]; exact ht, bt b1 b2⟩
  clear H2 ht b2 b1 e1
  go_wp2
  go_ret
  exact R.out
theorem lmul_x {w : World} {u v p : Value} {x y n : Nat} (h : RowX w u x) (k : RowX w v y) (r : RowX w p n) (hx : x < GB) (hy : y < GB) (h0 : 0 < n) : Calls Tryz.prog 102 #[u, v, p] w (RowTo (x * y % n) w) := by
 have H1 := Lib.hid (mul_x h k (sm_one hx) (sm_one hy))
 have HP := Lib.hid r
 have hsm := sm_mul hx hy
 obtain ⟨au, nu, cu, rfl⟩ := h.shape
 obtain ⟨av, nv, cv, rfl⟩ := k.shape
 obtain ⟨ap, np, cp, rfl⟩ := r.shape
 clear h k r
 go_enter Tryz.func102, Tryz.ntmps102
 go_wp2_with fail
 refine H1.out.mono ?_
 rintro e w1 ⟨s, rfl, hs, b1⟩
 have H2 := Lib.hid (div_x hs (HP.out.below b1) hsm h0)
 obtain ⟨as', ns, cs, rfl⟩ := hs.shape
 clear hs H1 HP
 go_wp2_with fail
 refine H2.out.mono ?_
 rintro e w2 ⟨q, t, rfl, _, ht, b2⟩
 have R : Hid (RowTo (x * y % n) w (.returned t) w2) := ⟨t, rfl, ht, bt b1 b2⟩
 clear H2 ht b2 b1
 go_wp2
 go_ret
 exact R.out
theorem pow_step {x n a b : Nat} (i N : Nat) (h : a = x ^ (N / 2 ^ (i + 1)) % n) (hb : b = N / 2 ^ i % 2) : (b = 1 → a * a % n * x % n = x ^ (N / 2 ^ i) % n) ∧ (b = 0 → a * a % n = x ^ (N / 2 ^ i) % n) := by
 have e : N / 2 ^ i = 2 * (N / 2 ^ (i + 1)) + b := by
  rw [hb, Nat.pow_succ, ← Nat.div_div_eq_div_mul]; omega
 have e2 : a * a % n = x ^ (2 * (N / 2 ^ (i + 1))) % n := by
  rw [h, ← Nat.mul_mod, ← Nat.pow_add]; congr 2; omega
 constructor
 ·intro h1
  rw [e, h1, Nat.pow_succ, Nat.mul_mod, e2, Nat.mod_mod, ← Nat.mul_mod]
 ·intro h1
  rw [e, h1, Nat.add_zero, e2]
theorem lpow_x {w : World} {u p : Value} {x n : Nat} (s : ByteArray) (h : RowX w u x) (r : RowX w p n) (ok : okG s = true) (hx : x < GB) (hn : n < GB) (h0 : 0 < n) : Calls Tryz.prog 169 #[u, .string s, p] w (RowTo (x ^ gV s % n) w) := by
 have HB := bitsOf_any s
 have EB : bitsG s = (bitLen (gV s) : Int) := by unfold bitsG; rw [ok]; rfl
 rw [EB] at HB
 obtain ⟨N, hN⟩ : ∃ N, gV s = N := ⟨_, rfl⟩
 obtain ⟨L, hL⟩ : ∃ L, bitLen N = L := ⟨_, rfl⟩
 have hbits : N < 2 ^ L := by
  rw [← hL]
  rcases Nat.eq_zero_or_pos N with e | e
  ·rw [e]; decide
  ·unfold bitLen
   rw [if_neg (by omega)]
   exact (Nat.log2_lt (by omega)).1 (Nat.lt_succ_self _)
 have hL3 : L ≤ 1280 := by
  rw [← hL]
  unfold bitLen
  split
  ·omega
  ·rename_i hN0
   obtain ⟨K, hK⟩ : ∃ K, K = 8 * 160 := ⟨_, rfl⟩
   have e2 : (2 : Nat) ^ K = (2 ^ 8) ^ 160 := (congrArg (fun k => (2 : Nat) ^ k) hK).trans (Nat.pow_mul 2 8 160)
   have h1 : N < 2 ^ K := by
    rw [← hN, e2]
    exact gV_lt ok
   have := (Nat.log2_lt hN0).2 h1
   omega
 have hbit : ∀ i : Nat, i < L → ∀ w, Calls Tryz.prog 167 #[.string s, .int .i64 (i : Int)] w fun e w' => e = .returned (.int .i64 ((N / 2 ^ i % 2 : Nat) : Int)) ∧ w = w' := by
  intro i hi w
  have H := bitOf_any s (i : Int) w (by omega)
  have E : bitG s (i : Int) = ((N / 2 ^ i % 2 : Nat) : Int) := by
   unfold bitG
   have hsz : i / 8 < s.size := by
    rcases Nat.lt_or_ge (i / 8) s.size with h | h
    ·exact h
    ·exfalso
     have h1 : N < 2 ^ (8 * s.size) := by
      have := gV_size s
      rw [hN, show (256 : Nat) = 2 ^ 8 from rfl, ← Nat.pow_mul] at this
      exact this
     have h2 : L ≤ 8 * s.size := by
      rw [← hL]
      unfold bitLen
      split
      ·omega
      ·rename_i hN0
       exact (Nat.log2_lt hN0).2 h1
     omega
   rw [ok, Int.toNat_natCast, decide_eq_true (show (0 : Int) ≤ (i : Int) by omega), decide_eq_true hsz, hN]
   rfl
  rw [E] at H
  exact H
 have HBit := Lib.hid hbit
 have HX := Lib.hid h
 have HP := Lib.hid r
 obtain ⟨au, nu, cu, rfl⟩ := h.shape
 obtain ⟨ap, np, cp, rfl⟩ := r.shape
 have H1 := Lib.hid (div_x (row_one w 1 (by omega) (by omega)) (HP.out.below ((Below.refl _ _).alloc (Nat.le_refl _) _)) (sm_one GB_pos) h0)
 rw [hN] at HB ⊢
 rw [hL] at HB
 have Hb := Lib.hid hbits
 clear h r EB hN hL hbit hbits
 go_enter Tryz.func169, Tryz.ntmps169
 go_wp2_with fail
 refine H1.out.mono ?_
 rintro e w1 ⟨q, t, rfl, _, ht, b1⟩
 have B1 := Lib.hid (((Below.refl w.heap.size w).alloc (Nat.le_refl _) (.cells #[.int .i64 ((1 : Nat) : Int)] 3)).trans (b1.mono (by simp)))
 have HT := Lib.hid ht
 obtain ⟨at0, nt, ct, rfl⟩ := ht.shape
 clear ht b1 H1
 go_wp2_with fail
 refine (HB _).mono ?_
 rintro e w2 ⟨rfl, rfl⟩
 clear HB
 go_wp2
 go_loopw [8, 9] (fun tv iv wr => ∃ (k a : Nat), k ≤ L ∧ iv = .int .i64 ((k : Int) - 1) ∧ Hid (a = x ^ (N / 2 ^ k) % n) ∧ Hid (RowX wr tv a) ∧ Hid (Below w.heap.size w wr)) (fun _ iv _ => (intOf iv + 1).toNat)
 case atStart => exact ⟨L, 1 % n, Nat.le_refl _, rfl, by show _ = _; rw [Nat.div_eq_of_lt Hb.out, Nat.pow_zero], HT, B1⟩
 case round =>
  clear HT B1
  obtain ⟨k, a, hk, rfl, hA, hT, hB⟩ := hrel
  by_cases hk0 : 0 < k
  ·obtain ⟨i, rfl⟩ : ∃ i, k = i + 1 := ⟨k - 1, by omega⟩
   have hji : (((i + 1 : Nat) : Int) - 1) = (i : Int) := by omega
   rw [hji]
   have hi0 : (0 : Int) ≤ (i : Int) := by omega
   have han : a < n := by rw [hA.out]; exact Nat.mod_lt _ h0
   have haG : a < GB := by omega
   have hsz := hB.out.size
   have RP := HP.out.below hB.out
   have H2 := Lib.hid (lmul_x hT.out hT.out RP haG haG h0)
   obtain ⟨at1, nt1, ct1, rfl⟩ := hT.out.shape
   clear RP
   go_wp2_with fail
   refine H2.out.mono ?_
   rintro e w3 ⟨t2, rfl, ht2, b3⟩
   have HB3 := Lib.hid (bt hB.out b3)
   have HT2 := Lib.hid ht2
   obtain ⟨at2, nt2, ct2, rfl⟩ := ht2.shape
   have hst := pow_step (x := x) (n := n) i N hA.out rfl
   have HSt := Lib.hid hst
   have han2 : a * a % n < GB := Nat.lt_trans (Nat.mod_lt _ h0) hn
   have HBi := Lib.hid (HBit.out i (by omega))
   obtain ⟨bt0, hbt⟩ : ∃ b, N / 2 ^ i % 2 = b := ⟨_, rfl⟩
   rw [hbt] at HBi HSt
   have hb2 : bt0 = 0 ∨ bt0 = 1 := by omega
   clear ht2 b3 hB H2 hT hst hbt hA
   go_wp2_with fail
   refine (HBi.out _).mono ?_
   rintro e w4 ⟨rfl, rfl⟩
   rcases hb2 with h1 | h1
   ·have HA2 := Lib.hid (HSt.out.2 h1)
    subst h1
    clear HSt
    go_wp2
    go_roundw
    case rel => exact ⟨i, _, by omega, by go_num, HA2, HT2, HB3⟩
    case measure => simp [intOf]
   ·have HA2 := Lib.hid (HSt.out.1 h1)
    subst h1
    clear HSt
    have RP := HP.out.below HB3.out
    have RX := HX.out.below HB3.out
    have H3 := Lib.hid (lmul_x HT2.out RX RP han2 hx h0)
    clear RP RX
    go_wp2_with fail
    refine H3.out.mono ?_
    rintro e w5 ⟨t3, rfl, ht3, b5⟩
    have HB5 := Lib.hid (bt HB3.out b5)
    have HT3 := Lib.hid ht3
    obtain ⟨at3, nt3, ct3, rfl⟩ := ht3.shape
    clear ht3 b5 H3 HB3 HT2
    go_wp2
    go_roundw
    case rel => exact ⟨i, _, by omega, by go_num, HA2, HT3, HB5⟩
    case measure => simp [intOf]
  ·obtain rfl : k = 0 := by omega
   have hneg : ¬ (0 : Int) ≤ ((0 : Nat) : Int) - 1 := by omega
   have hA2 := hA.out
   rw [Nat.pow_zero, Nat.div_one] at hA2
   obtain ⟨at1, nt1, ct1, rfl⟩ := hT.out.shape
   have R : Hid (RowTo (x ^ N % n) w (.returned (.slice at1 nt1 ct1)) wr) := ⟨_, rfl, by rw [← hA2]; exact hT.out, hB.out⟩
   clear hT hB hA hA2
   go_wp2
   go_ret
   exact R.out
end Go.Proofs.YtdajgcgliidjbaaGreat
