/-
  The contracts of the laws' own helpers on rows of texts: eqStringS, markText, markStringS, heldStringS.
-/
import Derived.Test.YtbncjdieilcjjaaRows
import Derived.Test.YtbncjdieilcjjaaWordsParts
import Derived.Test.YtbncjdieilcjjaaDigs
import Derived.Deep.QuietTactic
import Derived.BigQuiet
import Derived.Deep.RegionHeld3
import Derived.Deep.DrawnRows
namespace Go.Proofs.Ytbncjdieilcjjaa
open Go.RowKit

def mt (k : Nat) : ByteArray := ⟨(109 :: digs k []).toArray⟩

/-- A cell of a row that is owned. -/
theorem own_cell {w : World} {base e n g cap i : Nat} {l : List ByteArray} (h : w.ownsRow base e 1 (.slice (some ⟨g, 0, none⟩) n cap) n (strV l)) (hi : i < n) :
    ∃ hl : i < l.length, w.cell? ⟨g, i, none⟩ = some (.string l[i]) := by
  have hl : i < l.length := by have := h.1; simp [strV] at this; omega
  refine ⟨hl, ?_⟩
  have := h.cells (g := g) rfl i (.string l[i]) (by simp [strV, hl])
  rw [← this]
  congr 1
  unfold Addr.add; split <;> simp_all

def DrawsTrue (w : World) (e : Ending) (w' : World) : Prop := ∃ k, e = .returned (.bool true) ∧ w' = w.drewN k

set_option maxHeartbeats 1000000 in
theorem eqS_same (b1 b2 n : Nat) (va vb : Value) (l : List ByteArray) (w : World) (hn : n ≤ 1000000) (ha : w.ownsRow b1 9 1 va n (strV l)) (hb : w.ownsRow b2 9 1 vb n (strV l)) :
    Calls Try.prog 14 #[va, vb] w (DrawsTrue w) := by
  by_cases h0 : n = 0
  · subst h0
    obtain ⟨aa, ca, rfl⟩ := own_shape ha
    obtain ⟨ab, cb, rfl⟩ := own_shape hb
    clear ha hb
    go_enter Try.func14, Try.ntmps14
    go_wp2
    refine wp_loop_rounds 1 ?_
    rw [rounds_succ]
    go_wp2
    go_ret
    exact ⟨0, rfl, rfl⟩
  obtain ⟨ga, ca, rfl, _, _⟩ := ha.form (by omega)
  obtain ⟨gb, cb, rfl, _, _⟩ := hb.form (by omega)
  go_enter Try.func14, Try.ntmps14
  go_wp2
  go_loopw [5] (fun iv wr => ∃ i k : Nat, i ≤ n ∧ iv = .int .i64 i ∧ wr = w.drewN k) (fun iv _ => n - (intOf iv).toNat)
  case atStart => exact ⟨0, 0, Nat.zero_le _, rfl, rfl⟩
  case round =>
    obtain ⟨i, k, hi, rfl, rfl⟩ := hrel
    by_cases hlt : i < n
    · have hlt' : (i : Int) < (n : Int) := by omega
      have hi0 : (0 : Int) ≤ (i : Int) := Int.natCast_nonneg _
      obtain ⟨hl, c1⟩ := own_cell ha hlt
      obtain ⟨_, c2⟩ := own_cell hb hlt
      go_wp2
      go_quiet (fail)
      go_wp2
      go_roundw
      case rel => exact ⟨i + 1, k + nq, by omega, by go_num, rfl⟩
      case measure => simp [intOf]; omega
    · go_wp2
      go_ret
      exact ⟨k, rfl, rfl⟩

set_option maxHeartbeats 1000000 in
theorem mark_any (k : Nat) (w : World) (h0 : 0 < k) (h1 : k ≤ 1000000000) :
    Calls Try.prog 23 #[.int .i64 k] w fun e w' => e = .returned (.string (mt k)) ∧ Below w.heap.size w w' := by
  have h0' : ¬ (k : Int) ≤ 0 := by omega
  go_enter Try.func23, Try.ntmps23
  go_wp2
  go_loopw [0, 3] (fun kv ov wr => ∃ (m : Nat) (acc : List UInt8), m + acc.length ≤ 1000000000 ∧ kv = .int .i64 m ∧ ov = .string ⟨acc.toArray⟩ ∧ Hid (digs m acc = digs k []) ∧ Below w.heap.size w wr) (fun kv _ _ => (intOf kv).toNat)
  case atStart => exact ⟨k, [], by simp; omega, rfl, rfl, rfl, Below.refl _ _⟩
  case round =>
    obtain ⟨m, acc, hm, rfl, rfl, hd, hb⟩ := hrel
    have hbs := hb.size
    by_cases hp : 0 < m
    · have hp' : (0 : Int) < (m : Int) := by omega
      obtain ⟨d, hdd⟩ : ∃ d : UInt8, d = UInt8.ofNat (48 + m % 10) := ⟨_, rfl⟩
      have hd' : Hid (digs (m / 10) (d :: acc) = digs k []) := by show _ = _; rw [hdd, ← digs_pos hp]; exact hd.out
      have hcv := one_byte (P := Try.prog) Try.underlying33 Try.underlying5 Try.underlying9 wr (48 + (m : Int) % 10) d (by rw [hdd]; simp; omega)
      have had := add_front (P := Try.prog) d acc (by omega)
      clear hdd hd
      go_wp2
      go_roundw
      case rel => exact ⟨m / 10, d :: acc, by simp; omega, by go_num, rfl, hd', hb.alloc hbs _⟩
      case measure => simp [intOf]; omega
    · obtain rfl : m = 0 := by omega
      have hd2 := hd.out
      rw [digs_zero] at hd2
      have HD := Lib.hid hd2
      have had := add_front (P := Try.prog) 109 acc (by omega)
      clear hd2 hd
      go_wp2
      go_ret
      exact ⟨by rw [HD.out]; rfl, hb⟩
end Go.Proofs.Ytbncjdieilcjjaa
