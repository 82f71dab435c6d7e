/-
  The contract of impl's clearLow.
-/
import Derived.Test.YtdbjjnbmbeabeaaGreatIMid
import Derived.Test.YtdbjjnbmbeabeaaGreatXRow
namespace Go.Proofs.YtdbjjnbmbeabeaaGreat
open Go.RowKit

/-- Only one block is written. -/
structure OnlyAt (g : Nat) (w w' : World) : Prop where
  os : w'.os = w.os
  tape : w'.tape = w.tape
  output : w'.output = w.output
  size : w'.heap.size = w.heap.size
  block : ∀ k, k ≠ g → w'.heap[k]? = w.heap[k]?
theorem OnlyAt.refl (g : Nat) (w : World) : OnlyAt g w w := ⟨rfl, rfl, rfl, rfl, fun _ _ => rfl⟩
theorem OnlyAt.drewN {g : Nat} {w w' : World} (h : OnlyAt g w w') (n : Nat) : OnlyAt g w (w'.drewN n) := ⟨h.os, h.tape, h.output, h.size, h.block⟩
theorem OnlyAt.set {g i : Nat} {w w' : World} {v : Value} (h : OnlyAt g w w') : OnlyAt g w (w'.setCell ⟨g, i, none⟩ v) := by
  have b := (Below.refl g w').setCell (p := ⟨g, i, none⟩) (Nat.le_refl _) v
  exact ⟨b.os.trans h.os, b.tape.trans h.tape, b.output.trans h.output, (by rw [World.size_setCell]; exact h.size), fun k hk => (Below.heap_setCell _ _ _ _ hk).trans (h.block k hk)⟩
theorem OnlyAt.below {g B : Nat} {w w' : World} (h : OnlyAt g w w') (hB : B ≤ g) : Below B w w' := ⟨h.os, h.tape, h.output, by rw [h.size]; exact Nat.le_refl _, fun k hk => h.block k (by omega)⟩
/-- The row at work, which the call is handed. -/
structure AtK (k : IntKind) (t : TypeId) (g : Nat) (w wr : World) (l : List Nat) : Prop where
  row : RowK k t wr g l
  o : OnlyAt g w wr
theorem AtK.drewN {k : IntKind} {t : TypeId} {g : Nat} {w wr : World} {l : List Nat} (h : AtK k t g w wr l) (n : Nat) : AtK k t g w (wr.drewN n) l := ⟨h.row.other rfl, h.o.drewN n⟩
theorem AtK.set {k : IntKind} {t : TypeId} {g : Nat} {w wr : World} {l : List Nat} (h : AtK k t g w wr l) (i y : Nat) : AtK k t g w (wr.setCell ⟨g, i, none⟩ (.int k (y : Int))) (l.set i y) := ⟨h.row.set y, h.o.set⟩
theorem RowK.onlyAt {k : IntKind} {t : TypeId} {g g' : Nat} {w wr : World} {l : List Nat} (h : RowK k t w g l) (o : OnlyAt g' w wr) (hne : g ≠ g') : RowK k t wr g l := h.other (o.block g hne)
theorem clear_nums {x y z n : Nat} (hx : x < 16777216) (hy : y < 16777216) (hz : z < 36028797018963968) (hn : z + x * y = n) :
    ∃ p : Nat, IntKind.u64.wrap ((x : Int) * (y : Int)) = (p : Int) ∧ IntKind.u64.wrap ((z : Int) + (p : Int)) = (n : Int) ∧ n < 18446744073709551616 := by
  have h : x * y ≤ 16777215 * 16777215 := Nat.mul_le_mul (by omega) (by omega)
  obtain ⟨p, hp⟩ : ∃ p, x * y = p := ⟨_, rfl⟩
  have e : (x : Int) * (y : Int) = (p : Int) := by rw [← hp]; simp
  rw [hp] at h hn
  refine ⟨p, ?_, ?_, by omega⟩
  · rw [e, IntKind.wrap_u64]; omega
  · rw [IntKind.wrap_u64]; omega
theorem times_nums {z q m t : Nat} (hm : m < 16777216) (hq : z % 16777216 = q) (ht : q * m % 16777216 = t) :
    ∃ p : Nat, (z : Int) % 16777216 = (q : Int) ∧ (q : Int) * (m : Int) = (p : Int) ∧ IntKind.u64.wrap (p : Int) = (p : Int) ∧ (p : Int) % 16777216 = (t : Int) ∧ p < 18446744073709551616 ∧ t < 16777216 := by
  have h : q * m ≤ 16777215 * 16777215 := Nat.mul_le_mul (by omega) (by omega)
  obtain ⟨p, hp⟩ : ∃ p, q * m = p := ⟨_, rfl⟩
  have e : (q : Int) * (m : Int) = (p : Int) := by rw [← hp]; simp
  rw [hp] at h ht
  refine ⟨p, by omega, e, ?_, by omega, by omega, by omega⟩
  rw [IntKind.wrap_u64]; omega
def ClearP (S P L g : Nat) (w : World) (e : Ending) (w' : World) : Prop := ∃ l, e = .returned (.tuple #[]) ∧ ClearO S P L L l ∧ AtK .u64 41 g w w' l
set_option maxRecDepth 8000 in
set_option maxHeartbeats 2000000 in
theorem clearLow_any (g gp L m S P : Nat) (l0 lp : List Nat) (w : World) (hx : RowK .u64 41 w g l0) (hy : RowK .u32 37 w gp lp) (hne : gp ≠ g) (vx : SumW S L l0) (vy : LRow lp L) (hL : L ≤ 54) (hP : lV lp = P) (hm : m < 16777216) (hmP : (m * P + 1) % 16777216 = 0) :
    Calls Tryz.prog 48 #[.pointer (some ⟨g, 0, none⟩), .pointer (some ⟨gp, 0, none⟩), .int .i64 (L : Int), .int .u64 (m : Int)] w (ClearP S P L g w) := by
  have HY := Lib.hid hy
  have HVY := Lib.hid vy
  have HP := Lib.hid hP
  have HMP := Lib.hid hmP
  have HW : Hid (AtK .u64 41 g w w l0) := ⟨hx, OnlyAt.refl _ _⟩
  have HS := Lib.hid (ClearO.start (P := P) vx)
  clear hx hy vx vy hP hmP
  go_enter Tryz.func48, Tryz.ntmps48
  go_wp2
  go_loopw [12] (fun iv wr => ∃ (i : Nat) (l : List Nat), i ≤ L ∧ iv = .int .i64 i ∧ Hid (ClearO S P L i l) ∧ Hid (AtK .u64 41 g w wr l)) (fun iv _ => L - (intOf iv).toNat)
  case atStart => exact ⟨0, l0, Nat.zero_le _, rfl, HS, HW⟩
  case round =>
    clear HW HS
    obtain ⟨i, l, hiL, rfl, hM, hW⟩ := hrel
    by_cases hlt : i < L
    · have hlt' : (i : Int) < (L : Int) := by omega
      obtain ⟨z1, _⟩ := hW.out.row.cell (i := i) (by omega)
      have bz := hM.out.fits (by omega) i
      obtain ⟨z, hz⟩ : ∃ z, l.getD i 0 = z := ⟨_, rfl⟩
      obtain ⟨q, hq⟩ : ∃ q, z % 16777216 = q := ⟨_, rfl⟩
      obtain ⟨t, ht⟩ : ∃ t, q * m % 16777216 = t := ⟨_, rfl⟩
      rw [hz] at z1 bz
      obtain ⟨p, t1, t2, t3, t4, t5, t6⟩ := times_nums hm hq ht
      have HT : Hid (l.getD i 0 % 16777216 * m % 16777216 = t) := by show _ = _; rw [hz, hq]; exact ht
      have q5 : (i : Int) < 108 := by omega
      have q4 : (0 : Int) ≤ (i : Int) := by omega
      clear hz hq ht bz
      go_wp2
      rw [t4]
      clear t1 t2 t3 t4 t5 z1
      go_loopw [25] (fun kv wr => ∃ (k : Nat) (Q : List Nat), k ≤ L ∧ kv = .int .i64 k ∧ Hid (ClearI (lV (l.drop i)) lp L i t k Q) ∧ Hid (AtK .u64 41 g w wr Q)) (fun kv _ => L - (intOf kv).toNat)
      case atStart => exact ⟨0, l, Nat.zero_le _, rfl, hM.out.inner lp t, hW⟩
      case round =>
        clear hW
        obtain ⟨k, Q, hkc, rfl, hI, hW⟩ := hrel
        by_cases hk : k < L
        · have hk' : (k : Int) < (L : Int) := by omega
          obtain ⟨y1, _⟩ := (HY.out.onlyAt hW.out.o hne).cell (i := k) (by omega)
          obtain ⟨z1, f1⟩ := hW.out.row.cell (i := i + k) (by omega)
          have by_ := getD_lt HVY.out.lim k
          have bz := hI.out.fits (by omega) (i + k)
          have hNx := hI.out.next (n := Q.getD (i + k) 0 + t * lp.getD k 0) hlt hk hL t6 HVY.out.lim rfl
          obtain ⟨y, hy⟩ : ∃ y, lp.getD k 0 = y := ⟨_, rfl⟩
          obtain ⟨z, hz⟩ : ∃ z, Q.getD (i + k) 0 = z := ⟨_, rfl⟩
          rw [hy] at y1 by_ hNx
          rw [hz] at z1 bz hNx
          obtain ⟨n, hn⟩ : ∃ n, z + t * y = n := ⟨_, rfl⟩
          obtain ⟨p, m1, m2, m3⟩ := clear_nums t6 by_ bz hn
          rw [hn] at hNx
          have a2 := u64_of (x := y) (by omega)
          have HN := Lib.hid hNx
          have HW4 := Lib.hid ((hW.out.drewN 1).set (i + k) n)
          change Hid (AtK .u64 41 g w (wr.drew.setCell _ _) (Q.set (i + k) n)) at HW4
          have q0 : IntKind.i64.wrap ((i : Int) + (k : Int)) = (i : Int) + (k : Int) := IntWalk.i64_in _ (by omega)
          have q1 : (0 : Int) ≤ (i : Int) + (k : Int) := by omega
          have q2 : (i : Int) + (k : Int) < 108 := by omega
          have q3 : ((i : Int) + (k : Int)).toNat = i + k := by omega
          have q6 : (0 : Int) ≤ (k : Int) := by omega
          have q7 : (k : Int) < 108 := by omega
          clear hy hz hn hI hW hNx m3
          go_wp2
          go_still_tail 18, (by kernel_rfl)
          change wpList _ _ _ _ _ wr.drew
          change wr.drew.cell? _ = _ at z1
          change wr.drew.frozen? _ = _ at f1
          clear y1 m1 m2 a2 by_ bz
          generalize wr.drew = wr at *
          go_wp2
          go_roundw
          case rel => exact ⟨k + 1, Q.set (i + k) n, by omega, by go_num, HN, HW4⟩
          case measure => simp [intOf]; omega
        · obtain rfl : k = L := by omega
          have hk' : ¬ (k : Int) < (k : Int) := by omega
          obtain ⟨y1, f1⟩ := hW.out.row.cell (i := i + 1) (by omega)
          obtain ⟨z1, _⟩ := hW.out.row.cell (i := i) (by omega)
          have by_ := hI.out.fits (by omega) (i + 1)
          have bz := hI.out.fits (by omega) i
          have hNx := ClearI.done (c := Q.getD (i + 1) 0 + Q.getD i 0 / 16777216) hM.out hI.out hlt hL HVY.out.zero HP.out HMP.out HT.out rfl
          obtain ⟨y, hy⟩ : ∃ y, Q.getD (i + 1) 0 = y := ⟨_, rfl⟩
          obtain ⟨z, hz⟩ : ∃ z, Q.getD i 0 = z := ⟨_, rfl⟩
          rw [hy] at y1 by_ hNx
          rw [hz] at z1 bz hNx
          obtain ⟨d, hd⟩ : ∃ d, z / 16777216 = d := ⟨_, rfl⟩
          obtain ⟨n, hn⟩ : ∃ n, y + d = n := ⟨_, rfl⟩
          rw [hd, hn] at hNx
          have m1 : (z : Int) / 16777216 = (d : Int) := by omega
          have m4 : IntKind.u64.wrap (d : Int) = (d : Int) := by rw [IntKind.wrap_u64]; omega
          have m5 : IntKind.u64.wrap ((z : Int) / 16777216) = (d : Int) := by rw [m1]; exact m4
          have m2 : IntKind.u64.wrap ((y : Int) + (d : Int)) = (n : Int) := by rw [IntKind.wrap_u64]; omega
          have HN := Lib.hid hNx
          have HW4 := Lib.hid ((hW.out.drewN 1).set (i + 1) n)
          change Hid (AtK .u64 41 g w (wr.drew.setCell _ _) (Q.set (i + 1) n)) at HW4
          have q0 : IntKind.i64.wrap ((i : Int) + 1) = (i : Int) + 1 := IntWalk.i64_in _ (by omega)
          have q1 : (0 : Int) ≤ (i : Int) + 1 := by omega
          have q2 : (i : Int) + 1 < 108 := by omega
          have q3 : ((i : Int) + 1).toNat = i + 1 := by omega
          clear hy hz hn hd hI hW hNx hM HT
          go_wp2
          go_still_tail 15, (by kernel_rfl)
          change wpList _ _ _ _ _ wr.drew
          change wr.drew.cell? _ = _ at y1
          change wr.drew.frozen? _ = _ at f1
          clear z1 m1 m2 m4 m5 by_ bz
          generalize wr.drew = wr at *
          go_wp2
          go_roundw
          case rel => exact ⟨i + 1, Q.set (i + 1) n, by omega, by go_num, HN, HW4⟩
          case measure => simp [intOf]; omega
    · obtain rfl : i = L := by omega
      have hlt' : ¬ (i : Int) < (i : Int) := by omega
      have R : Hid (ClearP S P i g w (.returned (.tuple #[])) wr) := ⟨l, rfl, hM.out, hW.out⟩
      clear hM hW
      go_wp2
      go_end0
      exact R.out
end Go.Proofs.YtdbjjnbmbeabeaaGreat
