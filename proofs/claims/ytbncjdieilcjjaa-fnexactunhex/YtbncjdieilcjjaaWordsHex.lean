/-
  The contracts of spec.Hex, impl.Hex and what they call: each hands back the text of hexL, or nothing and false behind 20000 bytes.
-/
import Derived.Test.YtbncjdieilcjjaaRows
import Derived.Test.YtbncjdieilcjjaaBase
import Derived.Deep.RegionHeld3
import Derived.Deep.DrawnRows
import Derived.Handy
import Derived.Lib.Hide
import Derived.Outline
namespace Go.Proofs.Ytbncjdieilcjjaa
open Go.RowKit
attribute [local go_sem ↓] Go.wp_at_zero Go.wp_at_succ

/-- The figure of a half byte. -/
def figI (n : Int) : Int := if n < 10 then 48 + n else 87 + n
def fig (n : Nat) : UInt8 := UInt8.ofNat (figI n).toNat
/-- Two figures for each byte, the higher half first. -/
def hexL (l : List UInt8) : List UInt8 := l.flatMap fun c => [fig (c.toNat / 16), fig (c.toNat % 16)]
theorem figI_bd (n : Int) (h0 : 0 ≤ n) (h1 : n < 16) : 0 ≤ figI n ∧ figI n < 256 := by unfold figI; split <;> omega
theorem fig_toNat (n : Nat) (h : n < 16) : ((fig n).toNat : Int) = figI n := by
  have := figI_bd n (by omega) (by omega)
  unfold fig
  simp only [UInt8.toNat_ofNat']
  omega
theorem hexL_snoc (l : List UInt8) (c : UInt8) : hexL (l ++ [c]) = hexL l ++ [fig (c.toNat / 16), fig (c.toNat % 16)] := by simp [hexL]
theorem hexL_length (l : List UInt8) : (hexL l).length = 2 * l.length := by
  unfold hexL
  induction l with
  | nil => rfl
  | cons a l ih => simp [List.flatMap_cons, ih]; omega
theorem cells_snoc (l : List UInt8) (c : UInt8) (a b : Int) (ha : a = figI ((c.toNat : Int) / 16)) (hb : b = figI ((c.toNat : Int) % 16)) :
    Lib.byteCells (hexL l) ++ [Value.int .u8 a, Value.int .u8 b] = Lib.byteCells (hexL (l ++ [c])) := by
  have hc := c.toNat_lt
  rw [hexL_snoc, Lib.byteCells_append]
  simp only [Lib.byteCells, List.map_cons, List.map_nil]
  rw [fig_toNat _ (by omega), fig_toNat _ (by omega), ha, hb]
  rfl

theorem half (c : UInt8) : IntKind.i64.wrap (c.toNat : Int) = c.toNat ∧ (c.toNat : Int).tdiv 16 = (c.toNat : Int) / 16 ∧ IntKind.i64.wrap ((c.toNat : Int) / 16) = (c.toNat : Int) / 16 ∧
    (c.toNat : Int).tmod 16 = (c.toNat : Int) % 16 ∧ IntKind.i64.wrap ((c.toNat : Int) % 16) = (c.toNat : Int) % 16 ∧ 0 ≤ (c.toNat : Int) / 16 ∧ (c.toNat : Int) / 16 < 16 ∧ 0 ≤ (c.toNat : Int) % 16 ∧ (c.toNat : Int) % 16 < 16 := by
  have hc := c.toNat_lt
  refine ⟨IntWalk.i64_in _ (by omega), Int.tdiv_eq_ediv_of_nonneg (by omega), IntWalk.i64_in _ (by omega), Int.tmod_eq_emod_of_nonneg (by omega), IntWalk.i64_in _ (by omega), ?_, ?_, ?_, ?_⟩ <;> omega

/-- What a round leaves. -/
theorem rel_hex {s : ByteArray} {k : Nat} {w wr w1 : World} {v v1 : Value} {e : TypeId} {o : Obj} (hlt : k < s.size) (hb : Below w.heap.size w wr)
    (hown : wr.ownsRow w.heap.size e 1 v (2 * k) (Lib.byteCells (hexL (s.data.toList.take k)))) (hg : World.grownBy ((wr.alloc o).drew) w1 v.ownBlock)
    (hown1 : w1.ownsRow w.heap.size e 1 v1 (2 * k + 2) (Lib.byteCells (hexL (s.data.toList.take k)) ++ [.int .u8 (figI ((s[k].toNat : Int) / 16)), .int .u8 (figI ((s[k].toNat : Int) % 16))])) :
    w1.ownsRow w.heap.size e 1 v1 (2 * (k + 1)) (Lib.byteCells (hexL (s.data.toList.take (k + 1)))) ∧ Below w.heap.size w w1 := by
  rw [cells_snoc _ s[k] _ _ rfl rfl, ← take_snoc s k hlt] at hown1
  refine ⟨hown1, ?_⟩
  have hb1 : Below w.heap.size w ((wr.alloc o).drew) := (hb.alloc hb.size o).drew
  exact hb1.grown hg hb1.size fun j hj => (hown.lt j hj).1

theorem Try.info5 : (Try.prog.info? 5).map (fun i => (i.zero, i.size, i.bytes)) = some (some (.int .u8 0), 1, 1) := by kernel_rfl

theorem fig_any (n : Int) (w : World) (h0 : 0 ≤ n) (h1 : n < 16) :
    Calls Try.prog 19 #[.int .i64 n] w fun e w' => e = .returned (.int .u8 (figI n)) ∧ w = w' := by
  by_cases h : n < 10
  · go_enter Try.func19, Try.ntmps19
    go_wp2
    go_ret
    exact ⟨ret_int (by unfold figI; rw [if_pos h]), rfl⟩
  · go_enter Try.func19, Try.ntmps19
    go_wp2
    go_ret
    exact ⟨ret_int (by unfold figI; rw [if_neg (by omega)]; omega), rfl⟩

theorem spec_Hex_long (s : ByteArray) (w : World) (hs : s.size ≤ maxLen) (h : 20000 < s.size) :
    Calls Try.prog 8 #[.string s] w fun e w' => e = .returned (.tuple #[.string ByteArray.empty, .bool false]) ∧ w = w' := by
  unfold maxLen at hs
  go_enter Try.func8, Try.ntmps8
  go_wp2
  go_ret2
  exact ⟨rfl, rfl⟩

set_option maxHeartbeats 1000000 in
theorem spec_Hex_short (s : ByteArray) (w : World) (h : s.size ≤ 20000) :
    Calls Try.prog 8 #[.string s] w fun e w' => e = .returned (.tuple #[.string ⟨(hexL s.data.toList).toArray⟩, .bool true]) ∧ Below w.heap.size w w' := by
  obtain ⟨i0, hi, hz0, hz1, hz2⟩ := info_parts Try.info5
  have hd : decide ((20000 : Int) < (s.size : Int)) = false := by simp; omega
  go_enter Try.func8, Try.ntmps8
  go_wp2
  go_loopw [4, 5] (fun v i wr => ∃ k : Nat, k ≤ s.size ∧ i = .int .i64 k ∧ wr.ownsRow w.heap.size 5 1 v (2 * k) (Lib.byteCells (hexL (s.data.toList.take k))) ∧ Below w.heap.size w wr) (fun _ i _ => s.size - (intOf i).toNat)
  case atStart => exact ⟨0, Nat.zero_le _, rfl, World.ownsRow_made _ #[] 0 (Nat.le_refl _) (by decide) rfl, (Below.refl _ _).alloc (Nat.le_refl _) _⟩
  case round =>
    obtain ⟨k, hk, rfl, hown, hb⟩ := hrel
    by_cases hlt : k < s.size
    · have hlt' : (k : Int) < (s.size : Int) := by omega
      have hk0 : (0 : Int) ≤ (k : Int) := Int.natCast_nonneg _
      have h63 : 2 * k + 2 ≤ maxLen := by unfold maxLen; omega
      have hby : (2 * k + 2) * 1 ≤ 140737488355328 := by omega
      have hbs := hb.size
      go_wp2_with fail
      obtain ⟨q1, q2, q3, q4, q5, q6, q7, q8, q9⟩ := half s[k]
      go_region_held3 (fun w' => True) (trivial)
        (first
          | (go_at_call 19; refine (fig_any _ _ ?_ ?_).mono ?_; assumption; assumption; rintro e w' ⟨rfl, rfl⟩)
          | (refine step_append_lies _ (by rfl) _ _ _ (by rfl) w.heap.size 5 i0 _ 1 1 Try.underlying33 hi hz0 hz1 hz2 rfl (by omega) u4 (2 * k) _ (by rfl) ((hown.alloc _).drew) ⟨wr.heap.size, 0, none⟩ 2 2 [.int .u8 (figI ((s[k].toNat : Int) / 16)), .int .u8 (figI ((s[k].toNat : Int) % 16))] (by rfl) (by rfl) (World.news_of_block (cs := #[.int .u8 (figI ((s[k].toNat : Int) / 16)), .int .u8 (figI ((s[k].toNat : Int) % 16))]) (t := 5) (fr := (0, 0)) (heap_alloc_new wr _)) (by simp [Value.oneCell']) (by omega) h63 hby (by simp; omega) (wr.heap.size + 1) (by simp) ?_; intro g cap w1 hown1 hgrow hat hlt1))
      all_goals
        clear q1 q2 q3 q4 q5 q6 q7 q8 q9
        have R := rel_hex hlt hb hown hgrow hown1
        clear hown hgrow hown1 hat hlt1
        go_wp2
        go_roundw
        case rel => exact ⟨k + 1, by omega, by go_num, R.1, R.2⟩
        case measure => simp [intOf]; omega
    · obtain rfl : k = s.size := by omega
      rw [take_all] at hown
      have hcv := conv_own (P := Try.prog) Try.underlying33 Try.underlying5 Try.underlying9 hown
      clear hown
      go_wp2
      go_ret2
      exact ⟨rfl, hb⟩
end Go.Proofs.Ytbncjdieilcjjaa
