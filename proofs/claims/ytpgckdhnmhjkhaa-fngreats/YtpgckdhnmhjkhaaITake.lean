/-
  The contracts of impl's takeTimes and addBack.
-/
import Derived.Test.YtpgckdhnmhjkhaaIMul
import Derived.Test.YtpgckdhnmhjkhaaISub
import Derived.Test.YtpgckdhnmhjkhaaWDiv
import Derived.Deep.RegionLaw
namespace Go.Proofs.Ytpgckdhnmhjkhaa
open Go.RowKit
attribute [local go_sem ↓] Go.wp_at_zero Go.wp_at_succ

/-- Two rows that a call is handed, which lie apart: the first is written. -/
structure Two (w wr : World) (gu gv : Nat) (U : List Nat) (cu : Nat) (v : List Nat) (n : Nat) : Prop where
  u : RowI wr gu U cu
  v : RowI wr gv v n
  ne : gu ≠ gv
  g : w.grownBy wr (some gu)
theorem Two.refl {w : World} {gu gv cu n : Nat} {U v : List Nat} (hu : RowI w gu U cu) (hv : RowI w gv v n) (hne : gu ≠ gv) : Two w w gu gv U cu v n :=
  ⟨hu, hv, hne, ⟨rfl, rfl, rfl, Nat.le_refl _, fun _ _ _ => rfl⟩⟩
theorem Two.drewN {w wr : World} {gu gv cu n : Nat} {U v : List Nat} (h : Two w wr gu gv U cu v n) (k : Nat) : Two w (wr.drewN k) gu gv U cu v n :=
  ⟨h.u.other rfl, h.v.other rfl, h.ne, ⟨h.g.os, h.g.tape, h.g.output, h.g.size, h.g.block⟩⟩
theorem Two.set {w wr : World} {gu gv cu n k : Nat} {U v : List Nat} (h : Two w wr gu gv U cu v n) (y : Nat) (hk : k < 81) : Two w (wr.setCell ⟨gu, k, none⟩ (.int .u32 (y : Int))) gu gv (U.set k y) cu v n :=
  ⟨h.u.set y hk, h.v.apart (Ne.symm h.ne), h.ne, ⟨h.g.os, h.g.tape, h.g.output, by simpa using h.g.size, fun i hi hr => (Below.heap_setCell _ _ _ _ (fun e => hr (by rw [e]))).trans (h.g.block i hi hr)⟩⟩
def TakePost (gu gv cu n : Nat) (v : List Nat) (P : List Nat → Nat → Prop) (w : World) (e : Ending) (w' : World) : Prop :=
  ∃ Q br, P Q br ∧ br ≤ 1 ∧ e = .returned (.bool ((br : Int) != 0)) ∧ Two w w' gu gv Q cu v n

set_option maxRecDepth 8000 in
set_option maxHeartbeats 4000000 in
theorem takeTimes_any (gu gv cu n at_ g : Nat) (U v : List Nat) (w : World) (hT : Two w w gu gv U cu v n) (Lu : W.Limbs U) (Lv : W.Limbs v) (zv : ∀ k, n ≤ k → v.getD k 0 = 0) (hat : at_ + n < 81) (hg : g < 4294967296) :
    Calls Try.prog 84 #[.pointer (some ⟨gu, 0, none⟩), .pointer (some ⟨gv, 0, none⟩), .int .i64 (at_ : Int), .int .u32 (g : Int)] w (TakePost gu gv cu n v (fun Q br => W.D.MS U v at_ g (n + 1) br Q) w) := by
  have HT := Lib.hid hT
  have HU := Lib.hid Lu
  have HV := Lib.hid Lv
  have HZ := Lib.hid zv
  obtain ⟨x1, x2⟩ := hT.v.cnt
  clear hT Lu Lv zv
  go_enter Try.func84, Try.ntmps84
  go_wp2
  clear x1 x2
  go_loopw [9, 10, 17] (fun cv bv iv wr => ∃ (i c b : Nat) (Q : List Nat), i ≤ n ∧ c < 4294967296 ∧ b ≤ 1 ∧ iv = .int .i64 i ∧ cv = .int .u64 c ∧ bv = .int .u32 b ∧ Hid (W.D.MS U v at_ g i (c + b) Q) ∧ Hid (Two w wr gu gv Q cu v n)) (fun _ _ iv _ => n - (intOf iv).toNat)
  case atStart => exact ⟨0, 0, 0, U, Nat.zero_le _, by omega, by omega, rfl, rfl, rfl, W.D.MS.start HU.out at_ g, HT⟩
  case round =>
    clear HT
    obtain ⟨i, c, b, Q, hin, hc, hb, rfl, rfl, rfl, hI, hW⟩ := hrel
    by_cases hlt : i < n
    · have hlt' : (i : Int) < (n : Int) := by omega
      obtain ⟨v1, _⟩ := hW.out.v.cell (k := i) (by omega)
      obtain ⟨z1, f1⟩ := hW.out.u.cell (k := at_ + i) (by omega)
      have bv := W.getD_lt HV.out i
      have bz := W.getD_lt hI.out.1 (at_ + i)
      obtain ⟨y, hy⟩ : ∃ y, v.getD i 0 = y := ⟨_, rfl⟩
      obtain ⟨z, hz⟩ : ∃ z, Q.getD (at_ + i) 0 = z := ⟨_, rfl⟩
      rw [hy] at v1 bv
      rw [hz] at z1 bz
      obtain ⟨p, hp⟩ : ∃ p, g * y = p := ⟨_, rfl⟩
      obtain ⟨m, hm⟩ : ∃ m, c + p = m := ⟨_, rfl⟩
      obtain ⟨m1, m2, _, m4, m5⟩ := mul_bd hg bv (z := 0) (by omega) hc hp rfl (show c + (p + 0) = m by omega)
      rw [Nat.add_zero] at m4
      obtain ⟨lo, hlo⟩ : ∃ lo, m % 4294967296 = lo := ⟨_, rfl⟩
      obtain ⟨hi', hhi⟩ : ∃ h, m / 4294967296 = h := ⟨_, rfl⟩
      rw [hhi] at m5
      have hlo2 : lo < 4294967296 := by omega
      obtain ⟨d, hd, hn⟩ := brw_sub bz hlo2 hb
      obtain ⟨q, hq⟩ : ∃ q, brw z lo b = q := ⟨_, rfl⟩
      have hq1 : q ≤ 1 := by rw [← hq]; exact brw_le z lo b
      rw [hq] at hn
      have hNx := hI.out.next (y := d) (br' := hi' + q) HV.out (by rw [hW.out.u.len]; omega) hd (by rw [hz, hy, hp]; omega)
      have HN := Lib.hid hNx
      have HA := Lib.hid (fun w => sub32_any z lo b d q bz hlo2 hb hq hn w)
      obtain ⟨u1, u2⟩ := u32_of hlo
      have u3 : (m : Int) / 4294967296 = (hi' : Int) := by omega
      have a1 := u64_of hg
      have a2 := u64_of bv
      have HW3 := Lib.hid ((hW.out.drewN 1).set (k := at_ + i) d (by omega))
      have q0 : IntKind.i64.wrap ((at_ : Int) + (i : Int)) = (at_ : Int) + (i : Int) := IntWalk.i64_in _ (by omega)
      have q1 : (0 : Int) ≤ (at_ : Int) + (i : Int) := by omega
      have q2 : (at_ : Int) + (i : Int) < 81 := by omega
      have q3 : ((at_ : Int) + (i : Int)).toNat = at_ + i := by omega
      have q6 : (0 : Int) ≤ (i : Int) := by omega
      have q7 : (i : Int) < 81 := by omega
      clear hy hz hp hm hlo hhi hn hq hI hW hNx
      go_wp2_with fail
      go_region_law (first | (go_simp; go_at_call 67; refine (HA.out _).mono ?_; rintro e w' ⟨rfl, rfl⟩))
      clear q0 a1 a2
      go_wp2
      go_roundw
      case rel => exact ⟨i + 1, hi', q, Q.set (at_ + i) d, by omega, m5, hq1, by go_num, rfl, rfl, HN, HW3⟩
      case measure => simp [intOf]; omega
    · obtain rfl : i = n := by omega
      have hlt' : ¬ (i : Int) < (i : Int) := by omega
      obtain ⟨n1, _⟩ := hW.out.v.cnt
      obtain ⟨z1, f1⟩ := hW.out.u.cell (k := at_ + i) (by omega)
      have bz := W.getD_lt hI.out.1 (at_ + i)
      obtain ⟨z, hz⟩ : ∃ z, Q.getD (at_ + i) 0 = z := ⟨_, rfl⟩
      rw [hz] at z1 bz
      obtain ⟨d, hd, hn⟩ := brw_sub bz hc hb
      obtain ⟨q, hq⟩ : ∃ q, brw z c b = q := ⟨_, rfl⟩
      have hq1 : q ≤ 1 := by rw [← hq]; exact brw_le z c b
      rw [hq] at hn
      have hNx := hI.out.next (y := d) (br' := q) HV.out (by rw [hW.out.u.len]; omega) hd (by rw [hz, HZ.out i (Nat.le_refl _)]; omega)
      have HA := Lib.hid (fun w => sub32_any z c b d q bz hc hb hq hn w)
      have HW3 := Lib.hid ((hW.out.drewN 1).set (k := at_ + i) d (by omega))
      have R0 : ∀ e, e = Ending.returned (.bool ((q : Int) != 0)) → TakePost gu gv cu i v (fun Q br => W.D.MS U v at_ g (i + 1) br Q) w e ((wr.drewN 1).setCell ⟨gu, at_ + i, none⟩ (.int .u32 (d : Int))) := fun e he => ⟨Q.set (at_ + i) d, q, hNx, hq1, he, HW3.out⟩
      have R := Lib.hid R0
      have q0 : (at_ : Int) + (i : Int) = ((at_ + i : Nat) : Int) := by omega
      obtain ⟨top, htop⟩ : ∃ top, at_ + i = top := ⟨_, rfl⟩
      rw [htop] at z1 f1 R q0
      have q1 : (0 : Int) ≤ (top : Int) := by omega
      have q2 : (top : Int) < 81 := by omega
      have u1 : IntKind.u32.wrap (c : Int) = (c : Int) := by rw [IntKind.wrap_u32]; omega
      clear hz hn hq hI hW hNx htop R0 HW3
      go_wp2_with fail
      go_region_law (first | (go_simp; go_at_call 67; refine (HA.out _).mono ?_; rintro e w' ⟨rfl, rfl⟩))
      clear q0
      go_wp2
      go_ret
      exact R.out _ rfl

/-! addBack -/
def BackPost (gu gv cu n : Nat) (v : List Nat) (P : List Nat → Prop) (w : World) (e : Ending) (w' : World) : Prop :=
  ∃ R, P R ∧ e = .returned (.tuple #[]) ∧ Two w w' gu gv R cu v n
set_option maxRecDepth 8000 in
set_option maxHeartbeats 4000000 in
theorem addBack_any (gu gv cu n at_ : Nat) (U v : List Nat) (w : World) (hT : Two w w gu gv U cu v n) (Lu : W.Limbs U) (Lv : W.Limbs v) (zv : ∀ k, n ≤ k → v.getD k 0 = 0) (hat : at_ + n < 81) :
    Calls Try.prog 85 #[.pointer (some ⟨gu, 0, none⟩), .pointer (some ⟨gv, 0, none⟩), .int .i64 (at_ : Int)] w (BackPost gu gv cu n v (fun R => ∃ c, W.D.AB U v at_ (n + 1) c R) w) := by
  have HT := Lib.hid hT
  have HU := Lib.hid Lu
  have HV := Lib.hid Lv
  have HZ := Lib.hid zv
  obtain ⟨x1, x2⟩ := hT.v.cnt
  clear hT Lu Lv zv
  go_enter Try.func85, Try.ntmps85
  go_wp2
  clear x1 x2
  go_loopw [6, 12] (fun cv iv wr => ∃ (i c : Nat) (Q : List Nat), i ≤ n ∧ c ≤ 1 ∧ iv = .int .i64 i ∧ cv = .int .u32 c ∧ Hid (W.D.AB U v at_ i c Q) ∧ Hid (Two w wr gu gv Q cu v n)) (fun _ iv _ => n - (intOf iv).toNat)
  case atStart => exact ⟨0, 0, U, Nat.zero_le _, by omega, rfl, rfl, W.D.AB.start HU.out at_, HT⟩
  case round =>
    clear HT
    obtain ⟨i, c, Q, hin, hc, rfl, rfl, hI, hW⟩ := hrel
    by_cases hlt : i < n
    · have hlt' : (i : Int) < (n : Int) := by omega
      obtain ⟨v1, _⟩ := hW.out.v.cell (k := i) (by omega)
      obtain ⟨z1, f1⟩ := hW.out.u.cell (k := at_ + i) (by omega)
      have bv := W.getD_lt HV.out i
      have bz := W.getD_lt hI.out.1 (at_ + i)
      obtain ⟨y, hy⟩ : ∃ y, v.getD i 0 = y := ⟨_, rfl⟩
      obtain ⟨z, hz⟩ : ∃ z, Q.getD (at_ + i) 0 = z := ⟨_, rfl⟩
      obtain ⟨m, hm⟩ : ∃ m, z + y + c = m := ⟨_, rfl⟩
      have hNx := hI.out.next (n := m) (by rw [hW.out.u.len]; omega) (by rw [hz, hy]; exact hm.symm)
      rw [hy] at v1 bv
      rw [hz] at z1 bz
      obtain ⟨p, hp⟩ : ∃ p, m % 4294967296 = p := ⟨_, rfl⟩
      obtain ⟨q, hq⟩ : ∃ q, m / 4294967296 = q := ⟨_, rfl⟩
      rw [hp, hq] at hNx
      have hq1 : q ≤ 1 := by omega
      have HN := Lib.hid hNx
      have HA := Lib.hid (fun w => add32_any z y c m p q bz bv hc hm hp hq w)
      have HW3 := Lib.hid ((hW.out.drewN 1).set (k := at_ + i) p (by omega))
      have q0 : IntKind.i64.wrap ((at_ : Int) + (i : Int)) = (at_ : Int) + (i : Int) := IntWalk.i64_in _ (by omega)
      have q1 : (0 : Int) ≤ (at_ : Int) + (i : Int) := by omega
      have q2 : (at_ : Int) + (i : Int) < 81 := by omega
      have q3 : ((at_ : Int) + (i : Int)).toNat = at_ + i := by omega
      have q6 : (0 : Int) ≤ (i : Int) := by omega
      have q7 : (i : Int) < 81 := by omega
      have n1 : ¬ gu = gv := hW.out.ne
      have n2 : ¬ gv = gu := fun e => n1 e.symm
      clear hy hz hp hm hq hI hW hNx
      go_wp2_with fail
      go_region_law (first | (go_simp; go_at_call 63; refine (HA.out _).mono ?_; rintro e w' ⟨rfl, rfl⟩))
      all_goals (
        clear q0
        go_wp2
        go_roundw
        case rel => exact ⟨i + 1, q, Q.set (at_ + i) p, by omega, hq1, by go_num, rfl, HN, HW3⟩
        case measure => simp [intOf]; omega)
    · obtain rfl : i = n := by omega
      have hlt' : ¬ (i : Int) < (i : Int) := by omega
      obtain ⟨n1, _⟩ := hW.out.v.cnt
      obtain ⟨z1, f1⟩ := hW.out.u.cell (k := at_ + i) (by omega)
      have bz := W.getD_lt hI.out.1 (at_ + i)
      obtain ⟨z, hz⟩ : ∃ z, Q.getD (at_ + i) 0 = z := ⟨_, rfl⟩
      obtain ⟨m, hm⟩ : ∃ m, z + c = m := ⟨_, rfl⟩
      have hNx := hI.out.next (n := m) (by rw [hW.out.u.len]; omega) (by rw [hz, HZ.out i (Nat.le_refl _)]; omega)
      rw [hz] at z1 bz
      obtain ⟨p, hp⟩ : ∃ p, m % 4294967296 = p := ⟨_, rfl⟩
      rw [hp] at hNx
      have HW3 := Lib.hid ((hW.out.drewN 1).set (k := at_ + i) p (by omega))
      have R0 : BackPost gu gv cu i v (fun R => ∃ c, W.D.AB U v at_ (i + 1) c R) w (Ending.returned (.tuple #[])) ((wr.drewN 1).setCell ⟨gu, at_ + i, none⟩ (.int .u32 (p : Int))) := ⟨Q.set (at_ + i) p, ⟨_, hNx⟩, rfl, HW3.out⟩
      have R := Lib.hid R0
      obtain ⟨top, htop⟩ : ∃ top, at_ + i = top := ⟨_, rfl⟩
      rw [htop] at z1 f1 R
      have q0 : IntKind.i64.wrap ((at_ : Int) + (i : Int)) = (top : Int) := by rw [IntWalk.i64_in _ (by omega)]; omega
      have q1 : (0 : Int) ≤ (top : Int) := by omega
      have q2 : (top : Int) < 81 := by omega
      have u1 : IntKind.u32.wrap ((z : Int) + (c : Int)) = (p : Int) := by rw [IntKind.wrap_u32]; omega
      clear hz hp hm hI hW hNx htop R0 HW3
      go_wp2_with fail
      go_still_tail 16, (by kernel_rfl)
      change wpList _ _ _ _ _ wr.drew
      change Hid (BackPost gu gv cu i v _ w _ (wr.drew.setCell _ _)) at R
      change wr.drew.cell? _ = _ at z1
      change wr.drew.frozen? _ = _ at f1
      clear q0 n1 u1
      generalize wr.drew = wr at *
      go_wp2
      go_end0
      exact R.out
end Go.Proofs.Ytpgckdhnmhjkhaa
