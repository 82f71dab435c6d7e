/-
  The contracts of spec.GreatOf, GreatInt, BitsOf, BitOf.
-/
import Derived.Test.YtkpcocdflcpnoaaNSpec
namespace Go.Proofs.Ytkpcocdflcpnoaa
open Go.RowKit

theorem gT_step {m x : Nat} (h : 0 < 256 * m + x) (hx : x < 256) : gT (256 * m + x) = gT m ++ [UInt8.ofNat x] := by
  rw [gT_pos h, show (256 * m + x) / 256 = m from by omega, show (256 * m + x) % 256 = x from by omega]
/-- The text of a number, not less than 0. -/
def ofI (n : Int) : ByteArray := gS n.toNat
theorem pow_div (n j : Nat) : n / 256 ^ j = 256 * (n / 256 ^ (j + 1)) + n / 256 ^ j % 256 := by
  rw [Nat.pow_succ, ← Nat.div_div_eq_div_mul]; omega
theorem shr_nat (n j : Nat) : (n : Int) / 2 ^ (8 * j) = ((n / 256 ^ j : Nat) : Int) := by
  have : (2 : Int) ^ (8 * j) = ((256 ^ j : Nat) : Int) := by rw [show (256 : Nat) = 2 ^ 8 from rfl, ← Nat.pow_mul, Int.natCast_pow]; rfl
  rw [this]; simp
theorem byteCells_snoc (l : List UInt8) (c : UInt8) : Lib.byteCells (l ++ [c]) = Lib.byteCells l ++ [.int .u8 (c.toNat : Int)] := by simp [Lib.byteCells]
theorem bytes_grown {w wr w1 : World} {v : Value} {n : Nat} {l : List UInt8} {ob : Obj} (hb : Below w.heap.size w wr) (hO : wr.ownsRow w.heap.size 5 1 v n (Lib.byteCells l)) (hg : World.grownBy (wr.alloc ob) w1 (Value.ownBlock v)) : Below w.heap.size w w1 :=
  (hb.alloc hb.size ob).grown hg (hb.alloc hb.size ob).size fun j hj => (World.ownsRow.lt hO j hj).1

set_option maxHeartbeats 2000000 in
theorem greatOf_any (n : Int) (w : World) (hn : n < 9223372036854775808) : Calls Try.prog 64 #[.int .i64 n] w fun e w' => e = .returned (.string (ofI n)) ∧ Below w.heap.size w w' := by
  obtain ⟨i0, hi, hz0, hz1, hz2⟩ := info_parts Try.infoB
  by_cases h0 : n < 0
  · have E : Hid (ofI n = ⟨#[]⟩) := by show _ = _; unfold ofI; rw [show n.toNat = 0 from by omega]; exact gS_zero
    go_enter Try.func64, Try.ntmps64
    go_wp2
    go_ret
    exact ⟨by rw [E.out]; rfl, Below.refl _ _⟩
  obtain ⟨m, rfl⟩ : ∃ m : Nat, n = (m : Int) := ⟨n.toNat, by omega⟩
  go_enter Try.func64, Try.ntmps64
  go_wp2
  go_loopw [3, 4] (fun v iv wr => ∃ (i : Nat) (A : Option Addr) (cap : Nat), i ≤ 8 ∧ iv = .int .i64 ((i : Int) - 1) ∧ v = .slice A (gT (m / 256 ^ i)).length cap ∧ Hid (wr.ownsRow w.heap.size 5 1 (.slice A (gT (m / 256 ^ i)).length cap) (gT (m / 256 ^ i)).length (Lib.byteCells (gT (m / 256 ^ i)))) ∧ Below w.heap.size w wr) (fun _ iv _ => (intOf iv + 1).toNat)
  case atStart =>
    have e : gT (m / 256 ^ 8) = [] := by rw [show m / 256 ^ 8 = 0 from Nat.div_eq_of_lt (by omega)]; exact gT_zero
    refine ⟨8, some ⟨w.heap.size, 0, none⟩, 0, by omega, by go_num, by rw [e]; rfl, ?_, (Below.refl _ _).alloc (Nat.le_refl _) _⟩
    rw [e]
    exact World.ownsRow_made _ #[] 0 (Nat.le_refl _) (by decide) rfl
  case round =>
    obtain ⟨i, A, cap, hi8, rfl, rfl, hO, hb⟩ := hrel
    have hbs := hb.size
    by_cases hp : 0 < i
    · obtain ⟨j, rfl⟩ : ∃ j, i = j + 1 := ⟨i - 1, by omega⟩
      have hji : (((j + 1 : Nat) : Int) - 1) = (j : Int) := by omega
      have hj0 : (0 : Int) ≤ (j : Int) := by omega
      have hsh := shr_nat m j
      have hpd := pow_div m j
      obtain ⟨y, hy⟩ : ∃ y, m / 256 ^ j = y := ⟨_, rfl⟩
      obtain ⟨z, hz⟩ : ∃ z, m / 256 ^ (j + 1) = z := ⟨_, rfl⟩
      have HY := Lib.hid hy
      rw [hy] at hsh
      rw [hy, hz] at hpd
      rw [hz] at hO ⊢
      have hzm := hz
      clear hy hz
      obtain ⟨l, hl⟩ : ∃ l, gT z = l := ⟨_, rfl⟩
      have HL := Lib.hid hl
      rw [hl] at hO ⊢
      clear hl
      obtain ⟨k, hk⟩ : ∃ k, l.length = k := ⟨_, rfl⟩
      have HK := Lib.hid hk
      rw [hk] at hO ⊢
      clear hk
      obtain ⟨x, hx⟩ : ∃ x, y % 256 = x := ⟨_, rfl⟩
      rw [hx] at hpd
      have hwr : IntKind.u8.wrap (y : Int) = (x : Int) := by rw [IntKind.wrap_u8]; omega
      have hx2 : x < 256 := by omega
      have HPD := Lib.hid hpd
      have hj8 : j < 8 := by omega
      have u1 : IntKind.u64.wrap (j : Int) = (j : Int) := by rw [IntKind.wrap_u64]; omega
      have u2 : IntKind.u64.wrap (8 * (j : Int)) = 8 * (j : Int) := by rw [IntKind.wrap_u64]; omega
      have u3 : (8 * (j : Int)).toNat = 8 * j := by omega
      rw [hji]
      have hk8 : k ≤ 8 := by
        rw [← HK.out, ← HL.out]
        have h1 : z ≤ m := by rw [← hzm]; exact Nat.div_le_self _ _
        exact gT_len_lt (by omega)
      clear hpd hx hji hn hzm
      by_cases hx0 : x = 0
      · by_cases hk0 : k = 0
        · have b1 : ((x : Int) != 0) = false := by simp [hx0]
          have hz0' : z = 0 := by
            rcases Nat.eq_zero_or_pos z with h | h
            · exact h
            · exfalso
              have := gT_ne h
              rw [HL.out] at this
              exact this (List.eq_nil_of_length_eq_zero (by rw [HK.out]; exact hk0))
          have e : Hid (gT (m / 256 ^ j) = l) := by show _ = _; rw [HY.out, HPD.out, hx0, hz0', Nat.mul_zero, Nat.add_zero, ← HL.out, hz0']
          have hO2 : Hid (wr.ownsRow w.heap.size 5 1 (.slice A (gT (m / 256 ^ j)).length cap) (gT (m / 256 ^ j)).length (Lib.byteCells (gT (m / 256 ^ j)))) := by rw [e.out, HK.out]; exact hO
          have e2 : Hid ((gT (m / 256 ^ j)).length = k) := by show _ = _; rw [e.out, HK.out]
          clear hO e hz0' hx0
          go_wp2
          go_roundw
          case rel => exact ⟨j, A, cap, by omega, by go_num, by rw [e2.out], hO2, hb⟩
          case measure => simp [intOf]
        have b1 : ((x : Int) != 0) = false := by simp [hx0]
        have b2 : (0 : Int) < (k : Int) := by omega
        have hz0' : 0 < z := by
          rcases Nat.eq_zero_or_pos z with h | h
          · exfalso
            have := HL.out
            rw [h, gT_zero] at this
            rw [← this] at HK
            exact hk0 HK.out.symm
          · exact h
        clear hx0
        go_wp2_with (at_builtin; refine wpList_append_lies _ rfl (.tmp 26) (.tmp 28) _ rfl w.heap.size 5 i0 (.int .u8 0) 1 1 Try.underlying22 hi hz0 hz1 hz2 rfl (by omega) _ k _ rfl (World.ownsRow.alloc hO.out _) ⟨wr.heap.size, 0, none⟩ 1 1 [.int .u8 (x : Int)] rfl rfl (World.news_of_block (cs := #[.int .u8 (x : Int)]) (t := 5) (fr := (0, 0)) (heap_alloc_new wr _)) (by simp [Value.oneCell']) (by omega) (by unfold maxLen; omega) (by omega) (by simp; omega) _ rfl ?_)
        intro g cp w1 hown1 hgrow hat hlt1
        have hb2 := bytes_grown hb hO.out hgrow
        have R : Hid (w1.ownsRow w.heap.size 5 1 (.slice (some ⟨g, 0, none⟩) (gT (m / 256 ^ j)).length cp) (gT (m / 256 ^ j)).length (Lib.byteCells (gT (m / 256 ^ j)))) ∧ (gT (m / 256 ^ j)).length = k + 1 := by
          have e : gT (m / 256 ^ j) = l ++ [UInt8.ofNat x] := by rw [HY.out, HPD.out, gT_step (by omega) hx2, HL.out]
          have e2 : (l ++ [UInt8.ofNat x]).length = k + 1 := by rw [List.length_append, HK.out]; rfl
          refine ⟨?_, by rw [e, e2]⟩
          rw [e, e2, byteCells_snoc, byte_nat _ hx2]
          exact hown1
        clear hown1 hgrow hat hlt1 hO
        go_wp2
        go_roundw
        case rel => exact ⟨j, some ⟨g, 0, none⟩, cp, by omega, by go_num, by rw [R.2], R.1, hb2⟩
        case measure => simp [intOf]
      · have b1 : ((x : Int) != 0) = true := by simpa using hx0
        go_wp2_with (at_builtin; refine wpList_append_lies _ rfl (.tmp 26) (.tmp 28) _ rfl w.heap.size 5 i0 (.int .u8 0) 1 1 Try.underlying22 hi hz0 hz1 hz2 rfl (by omega) _ k _ rfl (World.ownsRow.alloc hO.out _) ⟨wr.heap.size, 0, none⟩ 1 1 [.int .u8 (x : Int)] rfl rfl (World.news_of_block (cs := #[.int .u8 (x : Int)]) (t := 5) (fr := (0, 0)) (heap_alloc_new wr _)) (by simp [Value.oneCell']) (by omega) (by unfold maxLen; omega) (by omega) (by simp; omega) _ rfl ?_)
        intro g cp w1 hown1 hgrow hat hlt1
        have hb2 := bytes_grown hb hO.out hgrow
        have R : Hid (w1.ownsRow w.heap.size 5 1 (.slice (some ⟨g, 0, none⟩) (gT (m / 256 ^ j)).length cp) (gT (m / 256 ^ j)).length (Lib.byteCells (gT (m / 256 ^ j)))) ∧ (gT (m / 256 ^ j)).length = k + 1 := by
          have e : gT (m / 256 ^ j) = l ++ [UInt8.ofNat x] := by rw [HY.out, HPD.out, gT_step (by omega) hx2, HL.out]
          have e2 : (l ++ [UInt8.ofNat x]).length = k + 1 := by rw [List.length_append, HK.out]; rfl
          refine ⟨?_, by rw [e, e2]⟩
          rw [e, e2, byteCells_snoc, byte_nat _ hx2]
          exact hown1
        clear hown1 hgrow hat hlt1 hO
        go_wp2
        go_roundw
        case rel => exact ⟨j, some ⟨g, 0, none⟩, cp, by omega, by go_num, by rw [R.2], R.1, hb2⟩
        case measure => simp [intOf]
    · obtain rfl : i = 0 := by omega
      have e : m / 256 ^ 0 = m := by simp
      rw [e] at hO ⊢
      have hcv := conv_own (P := Try.prog) Try.underlying22 Try.underlying5 Try.underlying9 hO.out
      have hji : ¬ (0 : Int) ≤ ((0 : Nat) : Int) - 1 := by omega
      have E : Hid (gS m = ofI (m : Int)) := by show _ = _; unfold ofI; rw [Int.toNat_natCast]
      obtain ⟨k, hk⟩ : ∃ k, (gT m).length = k := ⟨_, rfl⟩
      rw [hk] at hcv ⊢
      clear hO hn e
      go_wp2
      go_ret
      exact ⟨by rw [← E.out]; rfl, hb⟩
end Go.Proofs.Ytkpcocdflcpnoaa
