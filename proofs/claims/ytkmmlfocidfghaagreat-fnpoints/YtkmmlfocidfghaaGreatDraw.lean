import Derived.Test.YtkmmlfocidfghaaGreatRows
import Derived.Test.YtkmmlfocidfghaaGreatBase
import Derived.Handy
import Derived.Lib.Hide
import Derived.Outline
import Derived.Deep.QuietTactic
import Derived.BigQuiet
import Derived.Laws.OwnMore
import Derived.OpenShut
namespace Go.Proofs.YtkmmlfocidfghaaGreat
open Go.RowKit
/-- What is known of the bytes of a draw: they lie below block B. -/
def DrawIn (w : World) (B : Nat) (A : Option Addr) (n : Nat) : Prop :=
  n ≤ 2000000 ∧ ∀ k, k < n → ∃ b off : Nat, ∃ c : Int, A = some ⟨b, off, none⟩ ∧ b < B ∧ 0 ≤ c ∧ c ≤ 255 ∧ w.cell? ⟨b, off + k, none⟩ = some (.int .u8 c)
theorem DrawIn.below {w w' : World} {B n : Nat} {A : Option Addr} (h : DrawIn w B A n) (hb : Below B w w') : DrawIn w' B A n :=
  ⟨h.1, fun k hk => by
    obtain ⟨b, off, c, e, hB, c0, c1, hc⟩ := h.2 k hk
    exact ⟨b, off, c, e, hB, c0, c1, (hb.cell (p := ⟨b, off + k, none⟩) hB).trans hc⟩⟩
/-- A slice of integers that came in: nil, or a row of cells. -/
def IsRow (k : IntKind) (w : World) (a : Option Addr) (len cap : Nat) (zs : List Int) : Prop :=
  (a = none ∧ len = 0 ∧ cap = 0 ∧ zs = []) ∨
  ∃ x, a = some x ∧ len ≤ cap ∧ cap ≤ maxLen ∧ zs.length = cap ∧ (∀ i, i < zs.length → w.cell? (x.add i) = some (.int k (zs.getD i 0))) ∧ ∀ n ∈ zs, (Lit.int k n).wf = true
theorem IsRow.draw {w : World} {A : Option Addr} {n cap : Nat} {zs : List Int} (h : IsRow .u8 w A n cap zs) (hn : n ≤ 2000000) : DrawIn w w.heap.size A n := by
  refine ⟨hn, fun k hk => ?_⟩
  rcases h with ⟨_, rfl, _⟩ | ⟨x, rfl, hl, _, hz, hc, hw⟩
  · omega
  · have h0 := hc k (by omega)
    obtain ⟨b, off, spot⟩ := x
    have hspot : spot = none := by simpa [Addr.add] using World.cell?_spot (hc 0 (by omega))
    subst hspot
    have e : (⟨b, off, none⟩ : Addr).add k = ⟨b, off + k, none⟩ := by unfold Addr.add; split <;> simp_all
    rw [e] at h0
    have hm : zs.getD k 0 ∈ zs := by
      rw [List.getD_eq_getElem?_getD, List.getElem?_eq_getElem (by omega)]
      exact List.getElem_mem _
    have hb := bounds_u8 (hw _ hm)
    exact ⟨b, off, _, rfl, World.block_lt_of_cell? w _ h0, hb.1, hb.2, h0⟩
/-- A cursor in block g. -/
def Cur (w : World) (g : Nat) (A : Option Addr) (n cap : Nat) : Prop :=
  ∃ i h : Int, 0 ≤ i ∧ i ≤ n ∧ w.heap[g]? = some (.cells #[.slice A n cap, .int .i64 i, .int .i64 h] 80 (0, 0))
theorem Cur.kept {w w' : World} {g n cap : Nat} {A : Option Addr} (h : Cur w g A n cap) (hb : w'.heap[g]? = w.heap[g]?) : Cur w' g A n cap := by
  obtain ⟨i, h, h0, h1, hg⟩ := h
  exact ⟨i, h, h0, h1, hb.trans hg⟩
def NewPost (A : Option Addr) (n cap : Nat) (w : World) (e : Ending) (w' : World) : Prop :=
  ∃ h : Int, e = .returned (.pointer (some ⟨w.heap.size, 0, none⟩)) ∧ w' = w.alloc (.cells #[.slice A n cap, .int .i64 0, .int .i64 h] 80)
set_option maxRecDepth 100000 in
set_option maxHeartbeats 1000000 in
theorem new_any (A : Option Addr) (n cap : Nat) (w : World) (hd : DrawIn w w.heap.size A n) :
    Calls Tryz.prog 23 #[.slice A n cap] w (NewPost A n cap w) := by
  have hn := hd.1
  have HD := Lib.hid hd
  clear hd
  go_enter Tryz.func23, Tryz.ntmps23
  go_wp2
  go_loop [3, 4] (fun hv iv => ∃ (i : Nat) (h : Int), i ≤ n ∧ iv = .int .i64 i ∧ hv = .int .i64 h) (fun _ iv => n - (intOf iv).toNat)
  case atStart => exact ⟨0, _, Nat.zero_le _, rfl, rfl⟩
  case round =>
    obtain ⟨i, h, hi, rfl, rfl⟩ := hrel
    by_cases hlt : i < n
    · by_cases h4 : i < 4000
      · obtain ⟨b, off, c, rfl, _, c0, c1, hc⟩ := HD.out.2 i hlt
        have hlt' : (i : Int) < (n : Int) := by omega
        go_wp2
        go_round
        case rel => exact ⟨i + 1, _, by omega, by go_num, rfl⟩
        case measure => simp [intOf]; omega
      · have h4' : ¬ (i : Int) < 4000 := by omega
        have hlt' : (i : Int) < (n : Int) := by omega
        go_wp2
        go_ret
        exact ⟨h, rfl, rfl⟩
    · have hlt' : ¬ (i : Int) < (n : Int) := by omega
      go_wp2
      go_ret
      exact ⟨h, rfl, rfl⟩
theorem and255 (n : Int) : bits .and .i64 n 255 = n % 256 := by
  have h255 : (BitVec.ofInt 64 255).toNat = 2 ^ 8 - 1 := by decide
  have key : (BitVec.ofInt 64 n &&& BitVec.ofInt 64 255).toNat = (n % ((2 ^ 64 : Nat) : Int)).toNat % 2 ^ 8 := by
    rw [BitVec.toNat_and, BitVec.toNat_ofInt, h255, Nat.and_two_pow_sub_one_eq_mod]
  show IntKind.i64.wrap ((BitVec.ofInt 64 n &&& BitVec.ofInt 64 255).toNat : Nat) = n % 256
  rw [key, IntKind.wrap_i64]
  omega
/-- What a byte of the draw leaves: a number of 0 .. 255; the cursor; all other blocks as they were. -/
def BytePost (g : Nat) (A : Option Addr) (n cap : Nat) (w : World) (e : Ending) (w' : World) : Prop :=
  ∃ x : Int, e = .returned (.int .i64 x) ∧ 0 ≤ x ∧ x < 256 ∧ Cur w' g A n cap ∧ w.grownBy w' (some g)
theorem grow_setCell (w : World) (g i : Nat) (u : Value) : w.grownBy (w.setCell ⟨g, i, none⟩ u) (some g) :=
  ⟨rfl, rfl, rfl, by simp, fun k _ hk => Below.heap_setCell w _ u k (fun e => hk (by rw [e]))⟩
theorem grow_draws (w : World) (k : Nat) (row : Option Nat) : w.grownBy (w.drewN k) row := ⟨rfl, rfl, rfl, Nat.le_refl _, fun _ _ _ => rfl⟩
theorem grow_trans {a b c : World} {row : Option Nat} (h : a.grownBy b row) (k : b.grownBy c row) : a.grownBy c row :=
  ⟨k.os.trans h.os, k.tape.trans h.tape, k.output.trans h.output, Nat.le_trans h.size k.size, fun i hi hr => (k.block i (Nat.lt_of_lt_of_le hi h.size) hr).trans (h.block i hi hr)⟩
theorem below_setCell (w : World) (g i : Nat) {B : Nat} (u : Value) (h : B ≤ g) : Below B w (w.setCell ⟨g, i, none⟩ u) := (Below.refl _ _).setCell (p := ⟨g, i, none⟩) h u
set_option maxRecDepth 100000 in
set_option maxHeartbeats 2000000 in
theorem byte_any (g B : Nat) (A : Option Addr) (n cap : Nat) (w : World) (hg : B ≤ g) (hc : Cur w g A n cap) (hd : DrawIn w B A n) :
    Calls Tryz.prog 53 #[.pointer (some ⟨g, 0, none⟩)] w (BytePost g A n cap w) := by
  have hn := hd.1
  have HD := Lib.hid hd
  clear hd
  obtain ⟨i, h, i0, i1, hb⟩ := hc
  have c0 : w.cell? ⟨g, 0, none⟩ = some (.slice A n cap) := cell_of_row w g 0 _ _ _ hb
  have c1 : w.cell? ⟨g, 1, none⟩ = some (.int .i64 i) := cell_of_row w g 1 _ _ _ hb
  have c2 : w.cell? ⟨g, 2, none⟩ = some (.int .i64 h) := cell_of_row w g 2 _ _ _ hb
  have f1 : w.frozen? ⟨g, 1, none⟩ = false := frozen_of_row w g 1 _ _ hb
  have f2 : w.frozen? ⟨g, 2, none⟩ = false := frozen_of_row w g 2 _ _ hb
  have HB := Lib.hid hb
  clear hb
  have hand := and255
  go_enter Tryz.func53, Tryz.ntmps53
  go_wp2
  generalize wrap64 (wrap64 (h * 6364136223846793005) + 1442695040888963407) = h1
  have HB1 := Lib.hid (heap_setCell_same w g 2 _ _ (.int .i64 h1) HB.out)
  have G1 := Lib.hid (grow_setCell w g 2 (.int .i64 h1))
  have D1 := Lib.hid (HD.out.below (below_setCell w g 2 (.int .i64 h1) hg))
  clear c0 c1 c2 f1 f2 HB HD
  generalize w.setCell ⟨g, 2, none⟩ (.int .i64 h1) = w1 at *
  have c0 : w1.cell? ⟨g, 0, none⟩ = some (.slice A n cap) := cell_of_row w1 g 0 _ _ _ HB1.out
  have c1 : w1.cell? ⟨g, 1, none⟩ = some (.int .i64 i) := cell_of_row w1 g 1 _ _ _ HB1.out
  have c2 : w1.cell? ⟨g, 2, none⟩ = some (.int .i64 h1) := cell_of_row w1 g 2 _ _ _ HB1.out
  have f1 : w1.frozen? ⟨g, 1, none⟩ = false := frozen_of_row w1 g 1 _ _ HB1.out
  go_quiet (fail)
  go_wp2
  by_cases hlt : i < (n : Int)
  · obtain ⟨k, rfl⟩ : ∃ k : Nat, i = (k : Int) := ⟨i.toNat, by omega⟩
    obtain ⟨b, off, c, rfl, _, d0, d1, hcell⟩ := D1.out.2 k (by omega)
    go_quiet (fail)
    go_wp2
    go_quiet (fail)
    go_wp2
    go_ret
    exact ⟨_, rfl, Int.emod_nonneg _ (by decide), Int.emod_lt_of_pos _ (by decide), ⟨(k : Int) + 1, h1, by omega, by omega, heap_setCell_same w1 g 1 _ _ _ HB1.out⟩, grow_trans (grow_trans G1.out (grow_draws w1 _ _)) (grow_setCell _ g 1 _)⟩
  · have hlt' : decide (i < (n : Int)) = false := by simpa using hlt
    go_quiet (fail)
    go_wp2
    go_ret
    exact ⟨_, rfl, Int.emod_nonneg _ (by decide), Int.emod_lt_of_pos _ (by decide), ⟨i, h1, by omega, by omega, HB1.out⟩, grow_trans G1.out (grow_draws w1 _ _)⟩
/-- What a number of the draw leaves. -/
def BelowPost (g : Nat) (A : Option Addr) (n cap : Nat) (m : Int) (w : World) (e : Ending) (w' : World) : Prop :=
  ∃ x : Int, e = .returned (.int .i64 x) ∧ 0 ≤ x ∧ x < m ∧ Cur w' g A n cap ∧ w.grownBy w' (some g)
theorem DrawIn.grown {w w' : World} {B g n : Nat} {A : Option Addr} (h : DrawIn w B A n) (hg : B ≤ g) (hB : B ≤ w.heap.size) (hb : w.grownBy w' (some g)) : DrawIn w' B A n :=
  h.below ((Below.refl _ _).grown hb hB (fun k hk => by cases hk; exact hg))
set_option maxRecDepth 8000 in
set_option maxHeartbeats 1000000 in
theorem below_small (g B : Nat) (A : Option Addr) (n cap : Nat) (m : Int) (w : World) (hg : B ≤ g) (hc : Cur w g A n cap) (hd : DrawIn w B A n) (m0 : 0 < m) (m1 : m ≤ 256) :
    Calls Tryz.prog 26 #[.pointer (some ⟨g, 0, none⟩), .int .i64 m] w (BelowPost g A n cap m w) := by
  have H := Lib.hid (byte_any g B A n cap w hg hc hd)
  clear hc hd hg
  have b1 : ¬ m ≤ 0 := by omega
  go_enter Tryz.func26, Tryz.ntmps26
  go_wp2_with (go_at_call 53; refine H.out.mono ?_; rintro e w1 ⟨x, rfl, x0, x1, hc, hgr⟩)
  go_ret
  exact ⟨_, rfl, Int.emod_nonneg _ (by omega), Int.emod_lt_of_pos _ m0, hc, hgr⟩
set_option maxRecDepth 8000 in
set_option maxHeartbeats 1000000 in
theorem below_big (g B : Nat) (A : Option Addr) (n cap : Nat) (m : Int) (w : World) (hg : B ≤ g) (hB : B ≤ w.heap.size) (hc : Cur w g A n cap) (hd : DrawIn w B A n) (m0 : 256 < m) (m1 : m ≤ 4294967296) :
    Calls Tryz.prog 26 #[.pointer (some ⟨g, 0, none⟩), .int .i64 m] w (BelowPost g A n cap m w) := by
  have H := Lib.hid (byte_any g B A n cap w hg hc hd)
  have HD := Lib.hid hd
  have HG := Lib.hid hg
  have HB := Lib.hid hB
  clear hc hd hB hg
  go_enter Tryz.func26, Tryz.ntmps26
  go_wp2_with fail
  refine H.out.mono ?_
  rintro e w1 ⟨x, rfl, x0, x1, hc, hgr⟩
  have HD1 := Lib.hid (HD.out.grown HG.out HB.out hgr)
  have HB1 := Lib.hid (Nat.le_trans HB.out hgr.size)
  have H1 := Lib.hid (byte_any g B A n cap w1 HG.out hc HD1.out)
  have G1 := Lib.hid hgr
  clear hc hgr H HD HB
  go_wp2_with fail
  refine H1.out.mono ?_
  rintro e w2 ⟨y, rfl, y0, y1, hc, hgr⟩
  have HD2 := Lib.hid (HD1.out.grown HG.out HB1.out hgr)
  have HB2 := Lib.hid (Nat.le_trans HB1.out hgr.size)
  have H2 := Lib.hid (byte_any g B A n cap w2 HG.out hc HD2.out)
  have G2 := Lib.hid (grow_trans G1.out hgr)
  clear hc hgr H1 HD1 HB1 G1
  go_wp2_with fail
  refine H2.out.mono ?_
  rintro e w3 ⟨z, rfl, z0, z1, hc, hgr⟩
  have HD3 := Lib.hid (HD2.out.grown HG.out HB2.out hgr)
  have H3 := Lib.hid (byte_any g B A n cap w3 HG.out hc HD3.out)
  have G3 := Lib.hid (grow_trans G2.out hgr)
  clear hc hgr H2 HD2 HB2 G2
  go_wp2_with fail
  refine H3.out.mono ?_
  rintro e w4 ⟨t, rfl, t0, t1, hc, hgr⟩
  have G4 := Lib.hid (grow_trans G3.out hgr)
  clear hgr H3 HD3 G3
  go_wp2
  go_ret
  exact ⟨_, rfl, Int.emod_nonneg _ (by omega), Int.emod_lt_of_pos _ (by omega), hc, G4.out⟩
end Go.Proofs.YtkmmlfocidfghaaGreat
