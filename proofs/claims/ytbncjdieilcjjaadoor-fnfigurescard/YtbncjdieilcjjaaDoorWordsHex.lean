/-
  Figures of half bytes, and the contract of spec.l01Figure.
-/
import Derived.Test.YtbncjdieilcjjaaDoorRows
import Derived.Test.YtbncjdieilcjjaaDoorBase
import Derived.Deep.RegionHeld3
import Derived.Deep.DrawnRows
import Derived.Handy
import Derived.Lib.Hide
import Derived.Outline
namespace Go.Proofs.YtbncjdieilcjjaaDoor
open Go.RowKit
attribute [local go_sem ↓] Go.wp_at_zero Go.wp_at_succ

/-- The figure of a half byte. -/
def figI (n : Int) : Int := if n < 10 then 48 + n else 87 + n
def fig (n : Nat) : UInt8 := UInt8.ofNat (figI n).toNat
/-- Two figures for each byte, the higher half first. -/
def hexL (l : List UInt8) : List UInt8 := l.flatMap fun c => [fig (c.toNat / 16), fig (c.toNat % 16)]
theorem figI_bd (n : Int) (h0 : 0 ≤ n) (h1 : n < 16) : 0 ≤ figI n ∧ figI n < 256 := by unfold figI; split <;> omega
theorem fig_toNat (n : Nat) (h : n < 16) : ((fig n).toNat : Int) = figI n := by
  have := figI_bd n (by omega) (by omega)
  unfold fig
  simp only [UInt8.toNat_ofNat']
  omega
theorem hexL_snoc (l : List UInt8) (c : UInt8) : hexL (l ++ [c]) = hexL l ++ [fig (c.toNat / 16), fig (c.toNat % 16)] := by simp [hexL]
theorem hexL_length (l : List UInt8) : (hexL l).length = 2 * l.length := by
  unfold hexL
  induction l with
  | nil => rfl
  | cons a l ih => simp [List.flatMap_cons, ih]; omega
theorem cells_snoc (l : List UInt8) (c : UInt8) (a b : Int) (ha : a = figI ((c.toNat : Int) / 16)) (hb : b = figI ((c.toNat : Int) % 16)) :
    Lib.byteCells (hexL l) ++ [Value.int .u8 a, Value.int .u8 b] = Lib.byteCells (hexL (l ++ [c])) := by
  have hc := c.toNat_lt
  rw [hexL_snoc, Lib.byteCells_append]
  simp only [Lib.byteCells, List.map_cons, List.map_nil]
  rw [fig_toNat _ (by omega), fig_toNat _ (by omega), ha, hb]
  rfl

theorem half (c : UInt8) : IntKind.i64.wrap (c.toNat : Int) = c.toNat ∧ (c.toNat : Int).tdiv 16 = (c.toNat : Int) / 16 ∧ IntKind.i64.wrap ((c.toNat : Int) / 16) = (c.toNat : Int) / 16 ∧
    (c.toNat : Int).tmod 16 = (c.toNat : Int) % 16 ∧ IntKind.i64.wrap ((c.toNat : Int) % 16) = (c.toNat : Int) % 16 ∧ 0 ≤ (c.toNat : Int) / 16 ∧ (c.toNat : Int) / 16 < 16 ∧ 0 ≤ (c.toNat : Int) % 16 ∧ (c.toNat : Int) % 16 < 16 := by
  have hc := c.toNat_lt
  refine ⟨IntWalk.i64_in _ (by omega), Int.tdiv_eq_ediv_of_nonneg (by omega), IntWalk.i64_in _ (by omega), Int.tmod_eq_emod_of_nonneg (by omega), IntWalk.i64_in _ (by omega), ?_, ?_, ?_, ?_⟩ <;> omega

/-- What a round leaves. -/
theorem rel_hex {s : ByteArray} {k : Nat} {w wr w1 : World} {v v1 : Value} {e : TypeId} {o : Obj} (hlt : k < s.size) (hb : Below w.heap.size w wr)
    (hown : wr.ownsRow w.heap.size e 1 v (2 * k) (Lib.byteCells (hexL (s.data.toList.take k)))) (hg : World.grownBy ((wr.alloc o).drew) w1 v.ownBlock)
    (hown1 : w1.ownsRow w.heap.size e 1 v1 (2 * k + 2) (Lib.byteCells (hexL (s.data.toList.take k)) ++ [.int .u8 (figI ((s[k].toNat : Int) / 16)), .int .u8 (figI ((s[k].toNat : Int) % 16))])) :
    w1.ownsRow w.heap.size e 1 v1 (2 * (k + 1)) (Lib.byteCells (hexL (s.data.toList.take (k + 1)))) ∧ Below w.heap.size w w1 := by
  rw [cells_snoc _ s[k] _ _ rfl rfl, ← take_snoc s k hlt] at hown1
  refine ⟨hown1, ?_⟩
  have hb1 : Below w.heap.size w ((wr.alloc o).drew) := (hb.alloc hb.size o).drew
  exact hb1.grown hg hb1.size fun j hj => (hown.lt j hj).1

theorem Tryd.info5 : (Tryd.prog.info? 5).map (fun i => (i.zero, i.size, i.bytes)) = some (some (.int .u8 0), 1, 1) := by kernel_rfl

theorem fig_any (n : Int) (w : World) (h0 : 0 ≤ n) (h1 : n < 16) :
    Calls Tryd.prog 20 #[.int .i64 n] w fun e w' => e = .returned (.int .u8 (figI n)) ∧ w = w' := by
  by_cases h : n < 10
  · go_enter Tryd.func20, Tryd.ntmps20
    go_wp2
    go_ret
    exact ⟨ret_int (by unfold figI; rw [if_pos h]), rfl⟩
  · go_enter Tryd.func20, Tryd.ntmps20
    go_wp2
    go_ret
    exact ⟨ret_int (by unfold figI; rw [if_neg (by omega)]; omega), rfl⟩
end Go.Proofs.YtbncjdieilcjjaaDoor
