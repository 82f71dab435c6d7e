import Derived.Test.YtkmmlfocidfghaaRows
import Derived.Test.YtkmmlfocidfghaaBase
import Derived.Handy
import Derived.Lib.Hide
import Derived.Outline
import Derived.Deep.QuietTactic
import Derived.BigQuiet
import Derived.Laws.OwnMore
import Derived.OpenShut
namespace Go.Proofs.Ytkmmlfocidfghaa
open Go.RowKit
/-- What is known of the bytes of a draw: they lie below block B. -/
def DrawIn (w : World) (B : Nat) (A : Option Addr) (n : Nat) : Prop :=
  n ≤ 2000000 ∧ ∀ k, k < n → ∃ b off : Nat, ∃ c : Int, A = some ⟨b, off, none⟩ ∧ b < B ∧ 0 ≤ c ∧ c ≤ 255 ∧ w.cell? ⟨b, off + k, none⟩ = some (.int .u8 c)
theorem DrawIn.below {w w' : World} {B n : Nat} {A : Option Addr} (h : DrawIn w B A n) (hb : Below B w w') : DrawIn w' B A n :=
  ⟨h.1, fun k hk => by
    obtain ⟨b, off, c, e, hB, c0, c1, hc⟩ := h.2 k hk
    exact ⟨b, off, c, e, hB, c0, c1, (hb.cell (p := ⟨b, off + k, none⟩) hB).trans hc⟩⟩
/-- A slice of integers that came in: nil, or a row of cells. -/
def IsRow (k : IntKind) (w : World) (a : Option Addr) (len cap : Nat) (zs : List Int) : Prop :=
  (a = none ∧ len = 0 ∧ cap = 0 ∧ zs = []) ∨
  ∃ x, a = some x ∧ len ≤ cap ∧ cap ≤ maxLen ∧ zs.length = cap ∧ (∀ i, i < zs.length → w.cell? (x.add i) = some (.int k (zs.getD i 0))) ∧ ∀ n ∈ zs, (Lit.int k n).wf = true
theorem IsRow.draw {w : World} {A : Option Addr} {n cap : Nat} {zs : List Int} (h : IsRow .u8 w A n cap zs) (hn : n ≤ 2000000) : DrawIn w w.heap.size A n := by
  refine ⟨hn, fun k hk => ?_⟩
  rcases h with ⟨_, rfl, _⟩ | ⟨x, rfl, hl, _, hz, hc, hw⟩
  · omega
  · have h0 := hc k (by omega)
    obtain ⟨b, off, spot⟩ := x
    have hspot : spot = none := by simpa [Addr.add] using World.cell?_spot (hc 0 (by omega))
    subst hspot
    have e : (⟨b, off, none⟩ : Addr).add k = ⟨b, off + k, none⟩ := by unfold Addr.add; split <;> simp_all
    rw [e] at h0
    have hm : zs.getD k 0 ∈ zs := by
      rw [List.getD_eq_getElem?_getD, List.getElem?_eq_getElem (by omega)]
      exact List.getElem_mem _
    have hb := bounds_u8 (hw _ hm)
    exact ⟨b, off, _, rfl, World.block_lt_of_cell? w _ h0, hb.1, hb.2, h0⟩
theorem and255 (n : Int) : bits .and .i64 n 255 = n % 256 := by
  have h255 : (BitVec.ofInt 64 255).toNat = 2 ^ 8 - 1 := by decide
  have key : (BitVec.ofInt 64 n &&& BitVec.ofInt 64 255).toNat = (n % ((2 ^ 64 : Nat) : Int)).toNat % 2 ^ 8 := by
    rw [BitVec.toNat_and, BitVec.toNat_ofInt, h255, Nat.and_two_pow_sub_one_eq_mod]
  show IntKind.i64.wrap ((BitVec.ofInt 64 n &&& BitVec.ofInt 64 255).toNat : Nat) = n % 256
  rw [key, IntKind.wrap_i64]
  omega
theorem grow_setCell (w : World) (g i : Nat) (u : Value) : w.grownBy (w.setCell ⟨g, i, none⟩ u) (some g) :=
  ⟨rfl, rfl, rfl, by simp, fun k _ hk => Below.heap_setCell w _ u k (fun e => hk (by rw [e]))⟩
theorem grow_draws (w : World) (k : Nat) (row : Option Nat) : w.grownBy (w.drewN k) row := ⟨rfl, rfl, rfl, Nat.le_refl _, fun _ _ _ => rfl⟩
theorem grow_trans {a b c : World} {row : Option Nat} (h : a.grownBy b row) (k : b.grownBy c row) : a.grownBy c row :=
  ⟨k.os.trans h.os, k.tape.trans h.tape, k.output.trans h.output, Nat.le_trans h.size k.size, fun i hi hr => (k.block i (Nat.lt_of_lt_of_le hi h.size) hr).trans (h.block i hi hr)⟩
theorem below_setCell (w : World) (g i : Nat) {B : Nat} (u : Value) (h : B ≤ g) : Below B w (w.setCell ⟨g, i, none⟩ u) := (Below.refl _ _).setCell (p := ⟨g, i, none⟩) h u
theorem DrawIn.grown {w w' : World} {B g n : Nat} {A : Option Addr} (h : DrawIn w B A n) (hg : B ≤ g) (hB : B ≤ w.heap.size) (hb : w.grownBy w' (some g)) : DrawIn w' B A n :=
  h.below ((Below.refl _ _).grown hb hB (fun k hk => by cases hk; exact hg))
end Go.Proofs.Ytkmmlfocidfghaa
