/-
  slices.Chunk at bytes, in nines: the contract of its iterator.
-/
import Derived.Test.YtkpcocdflcpnoaaJTake
import Derived.RangeFuncNested
import Derived.RangeFuncBound
import Derived.RangeFuncCalls
import Derived.RangeFuncLeaves
import Derived.RangeFuncBox
import Derived.Shelf.Abstract
import Derived.Shelf.RegionOpen
import Derived.OwnWalkIn
import Derived.TacticsInMore
import Derived.LoopNIn
import Derived.LoopIn
import Derived.Sort.QuietIn
namespace Go.Proofs.Ytkpcocdflcpnoaa
open Go.RowKit Go.Shelf
attribute [local go_sem] Oper.semAt_some

theorem chunk_any (A : Option Addr) (n cap : Nat) (w : World) : Calls Try.prog 36 #[.slice A n cap, .int .i64 9] w fun e w' =>
    e = .returned (.func (.func 59) #[] #[.pointer (some ⟨w.heap.size, 0, none⟩), .pointer (some ⟨w.heap.size + 1, 0, none⟩)]) ∧ w' = (w.alloc (.cells #[.slice A n cap] 22)).alloc (.cells #[.int .i64 9] 3) := by
  go_enter Try.func36, Try.ntmps36
  go_wp2
  go_ret
  exact ⟨rfl, rfl⟩

/-- A part of n bytes: where it begins, how many it has. -/
abbrev Part (n : Nat) := { p : Nat × Nat // p.1 + p.2 ≤ n ∧ p.2 ≤ 9 }
def ck (n k : Nat) : Part n := ⟨(min (9 * k) n, min 9 (n - 9 * k)), by simp only; omega, by simp only; omega⟩
def cks (n k : Nat) : List (Part n) := (List.range k).map (ck n)
theorem cks_succ (n k : Nat) : cks n (k + 1) = cks n k ++ [ck n k] := by simp [cks, List.range_succ]
theorem cks_len (n k : Nat) : (cks n k).length = k := by simp [cks]
def encP (b n : Nat) (x : Part n) : Array Value := #[.slice (some ⟨b, x.1.1, none⟩) x.1.2 x.1.2]
/-- What a round keeps: each block that lay, but for one. -/
def KeptBut (G n : Nat) (W W' : World) : Prop := ∀ i, i < n → i ≠ G → W'.heap[i]? = W.heap[i]?

set_option maxRecDepth 100000 in
set_option maxHeartbeats 4000000 in
theorem chunk1_in (d : Nat) (hd : 1 ≤ d) (l B1 B2 n₀ G b n cap : Nat) (hb1 : B1 < n₀) (hb2 : B2 < n₀) (h1G : B1 ≠ G) (h2G : B2 ≠ G) (hn : n ≤ 400) (hcap : n ≤ cap) (J Jx : List (Part n) → World → Prop) (hJ : ∀ s W W', J s W → W.grownBy W' none → J s W')
    (hY : ∀ pre x W, J pre W → pre.length < (n + 8) / 9 → YieldAt Fence.wide (d - 1) Try.prog l (encP b n x) W fun e W' =>
      (e = .returned (.bool true) ∧ J (pre ++ [x]) W' ∧ KeptBut G n₀ W W') ∨ (e = .returned (.bool false) ∧ Jx (pre ++ [x]) W'))
    (W : World) (hB1 : W.cell? ⟨B1, 0, none⟩ = some (.slice (some ⟨b, 0, none⟩) n cap)) (hB2 : W.cell? ⟨B2, 0, none⟩ = some (.int .i64 9)) (h0 : J [] W) :
    CallsIn Fence.wide d Try.prog 59 #[.func (.yield l) #[] #[], .pointer (some ⟨B1, 0, none⟩), .pointer (some ⟨B2, 0, none⟩)] W fun e W' => (∃ v, e = .returned v) ∧
      ((∃ ys, ys = cks n ((n + 8) / 9) ∧ J ys W') ∨ (∃ pre, (∃ k, k ≤ (n + 8) / 9 ∧ pre = cks n k) ∧ Jx pre W')) := by
  refine callsIn_of_wp Try.func59 rfl trivial ?_ rfl
  simp only [Try.ntmps59, List.size_toArray, List.length_cons, List.length_nil, Nat.reduceAdd, Nat.reduceSub, Array.replicate_succ, Array.replicate_zero, List.push_toArray, List.append_toArray, List.nil_append, List.cons_append]
  gi_wp2
  gi_loopw [4] (fun iv wr => ∃ k i : Nat, i = 9 * k ∧ k ≤ (n + 8) / 9 ∧ iv = .int .i64 i ∧ J (cks n k) wr ∧ wr.cell? ⟨B1, 0, none⟩ = some (.slice (some ⟨b, 0, none⟩) n cap) ∧ wr.cell? ⟨B2, 0, none⟩ = some (.int .i64 9))
    (fun iv _ => n + 9 - (intOf iv).toNat)
  case atStart => exact ⟨0, 0, rfl, Nat.zero_le _, rfl, h0, hB1, hB2⟩
  case round =>
    obtain ⟨k, i, hik, hk, rfl, hJs, c1, c2⟩ := hrel
    by_cases hlt : i < n
    · have hlt' : (i : Int) < (n : Int) := by omega
      obtain ⟨m, hm⟩ : ∃ m, min 9 (n - i) = m := ⟨_, rfl⟩
      have hk2 : k < (n + 8) / 9 := by omega
      have hck : encP b n (ck n k) = #[.slice (some ⟨b, i, none⟩) m m] := by
        simp only [encP, ck]
        rw [← hik, hm, Nat.min_eq_left (by omega)]
      have hif : (if ((n - i : Nat) : Int) < 9 then ((n - i : Nat) : Int) else 9) = (m : Int) := by split <;> omega
      have hmn : i + m ≤ n := by omega
      have hm0 : 0 < m := by omega
      have HIK := Lib.hid hik
      have HCK := Lib.hid hck
      have HIF := Lib.hid hif
      clear hik hck hif
      clear hm
      have q1 : (i : Int) ≤ (n : Int) := by omega
      have q2 : (n : Int) ≤ (cap : Int) := by omega
      gi_wp2
      gi_quiet (fail)
      have c1' : (wr.drewN nq).cell? ⟨B1, 0, none⟩ = some (.slice (some ⟨b, 0, none⟩) n cap) := c1
      have c2' : (wr.drewN nq).cell? ⟨B2, 0, none⟩ = some (.int .i64 9) := c2
      have hJ2 : J (cks n k) (wr.drewN nq) := hJ _ _ _ hJs ⟨rfl, rfl, rfl, Nat.le_refl _, fun _ _ _ => rfl⟩
      obtain ⟨fn, tmps, assign, body, hy, hR⟩ := hY _ (ck n k) (wr.drewN nq) hJ2 (by rw [cks_len]; exact hk2)
      rw [HCK.out] at hy
      clear c1 c2 hJs
      generalize wr.drewN nq = w2 at *
      rw [HIF.out]
      have q3 : (i : Int) + (m : Int) ≤ (cap : Int) := by omega
      have q4 : (0 : Int) ≤ (m : Int) := by omega
      gi_wp2
      refine hR.mono ?_
      rintro e W3 (⟨rfl, hJ3, hk3⟩ | ⟨rfl, hJx3⟩)
      · have c1 := (World.cell?_of_block (w := w2) (w' := W3) (a := ⟨B1, 0, none⟩) (hk3 B1 hb1 h1G)).trans c1'
        have c2 := (World.cell?_of_block (w := w2) (w' := W3) (a := ⟨B2, 0, none⟩) (hk3 B2 hb2 h2G)).trans c2'
        clear hR hy c1' c2' hk3
        gi_wp2
        go_roundw
        case rel => exact ⟨k + 1, i + 9, by rw [HIK.out]; omega, by omega, by go_num, by rw [cks_succ]; exact hJ3, c1, c2⟩
        case measure => simp [intOf]; omega
      · have HE : Hid (∃ pre, (∃ k, k ≤ (n + 8) / 9 ∧ pre = cks n k) ∧ Jx pre W3) := ⟨_, ⟨k + 1, by omega, (cks_succ n k).symm⟩, hJx3⟩
        clear hR hy c1' c2' hJx3
        gi_wp2
        refine bodyPost_ret (results_none rfl _ _ _) rfl ?_
        exact ⟨⟨_, rfl⟩, .inr HE.out⟩
    · have hlt' : ¬ (i : Int) < (n : Int) := by omega
      obtain rfl : k = (n + 8) / 9 := by omega
      have HIK := Lib.hid hik
      clear hik
      gi_wp2
      go_end0
      exact ⟨⟨_, rfl⟩, .inl (by first | exact hJs | exact ⟨_, rfl, hJs⟩)⟩
theorem chunk_stops (d : Nat) (hd : 1 ≤ d) (B1 B2 G b n cap : Nat) (hn : n ≤ 400) (hcap : n ≤ cap) (w : World) (hb1 : B1 < w.heap.size) (hb2 : B2 < w.heap.size) (h1G : B1 ≠ G) (h2G : B2 ≠ G)
    (hB1 : w.cell? ⟨B1, 0, none⟩ = some (.slice (some ⟨b, 0, none⟩) n cap)) (hB2 : w.cell? ⟨B2, 0, none⟩ = some (.int .i64 9)) :
    SeqStopsK Fence.wide d Try.prog 59 #[.pointer (some ⟨B1, 0, none⟩), .pointer (some ⟨B2, 0, none⟩)] (encP b n) (KeptBut G w.heap.size) (fun ys => ys = cks n ((n + 8) / 9)) (fun pre => ∃ k, k ≤ (n + 8) / 9 ∧ pre = cks n k) ((n + 8) / 9) w :=
  fun l J Jx W hW hJ _ hY h0 => chunk1_in d hd l B1 B2 w.heap.size G b n cap hb1 hb2 h1G h2G hn hcap J Jx (fun s W W' hs hg => hJ s W W' none hs hg (fun r e => by cases e)) hY W ((hW.cell (p := ⟨B1, 0, none⟩) hb1).trans hB1) ((hW.cell (p := ⟨B2, 0, none⟩) hb2).trans hB2) h0
theorem keptBut_t {G n : Nat} {A B C : World} (h : KeptBut G n A B) (k : KeptBut G n B C) : KeptBut G n A C := fun i hi hG => (k i hi hG).trans (h i hi hG)
theorem keptBut_b {G n : Nat} {w : World} (hn : n ≤ w.heap.size) (W : World) (l : Nat) (o o' : Obj) (hl : w.heap.size ≤ l) (_ : W.heap[l]? = some o) (_ : o.isCells = false) (_ : o.isWalk = false) : KeptBut G n W (W.putObj l o') :=
  fun i hi _ => World.putObj_heap_other (by omega)
theorem keptBut_g {G n : Nat} {A B : World} (h : A.grownBy B (some G)) (hn : n ≤ A.heap.size) : KeptBut G n A B := fun i hi hG => h.block i (by omega) (fun e => hG (by injection e))

/-! The number of parts that have come. -/
def partOf {n : Nat} (ds : List UInt8) (x : Part n) : List UInt8 := (ds.drop x.1.1).take x.1.2
def valP {n : Nat} (ds : List UInt8) (pre : List (Part n)) : Nat := pre.foldl (fun v x => v * 10 ^ (partOf ds x).length + fV (partOf ds x)) 0
theorem valP_snoc {n : Nat} (ds : List UInt8) (pre : List (Part n)) (x : Part n) : valP ds (pre ++ [x]) = valP ds pre * 10 ^ (partOf ds x).length + fV (partOf ds x) := by simp [valP]
theorem partOf_len {n : Nat} {ds : List UInt8} (hl : ds.length = n) (x : Part n) : (partOf ds x).length = x.1.2 := by
  unfold partOf
  have := x.2
  rw [List.length_take, List.length_drop]; omega
theorem partOf_fig {n : Nat} {ds : List UInt8} (hf : ds.all isF = true) (x : Part n) : (partOf ds x).all isF = true :=
  List.all_eq_true.2 fun c hc => List.all_eq_true.1 hf c (List.mem_of_mem_drop (List.mem_of_mem_take hc))
theorem partOf_at {n : Nat} {ds : List UInt8} (x : Part n) {i : Nat} (hi : i < x.1.2) : (partOf ds x).getD i 0 = ds.getD (x.1.1 + i) 0 := by
  unfold partOf
  simp [List.getD_eq_getElem?_getD, List.getElem?_drop, hi]
theorem valP_fold {n : Nat} {ds : List UInt8} (hl : ds.length = n) (hf : ds.all isF = true) (pre : List (Part n)) (v M : Nat) (hv : v < 10 ^ M) : pre.foldl (fun v x => v * 10 ^ (partOf ds x).length + fV (partOf ds x)) v < 10 ^ (M + 9 * pre.length) := by
  induction pre generalizing v M with
  | nil => simpa using hv
  | cons x pre ih =>
    rw [List.foldl_cons, List.length_cons, show M + 9 * (pre.length + 1) = (M + 9) + 9 * pre.length from by omega]
    refine ih _ _ ?_
    rw [Nat.pow_add]
    have h1 := fV_lt _ (partOf_fig hf x)
    have h2 := partOf_len hl x
    have h3 := x.2.2
    obtain ⟨L, hL⟩ : ∃ L, (partOf ds x).length = L := ⟨_, rfl⟩
    rw [hL] at h1 h2 ⊢
    have h4 : 10 ^ L ≤ 10 ^ 9 := Nat.pow_le_pow_right (by omega) (by omega)
    have h5 : (v + 1) * 10 ^ L ≤ 10 ^ M * 10 ^ 9 := Nat.mul_le_mul hv h4
    rw [Nat.add_mul, Nat.one_mul] at h5
    omega
theorem valP_lt {n : Nat} {ds : List UInt8} (hl : ds.length = n) (hf : ds.all isF = true) (pre : List (Part n)) : valP ds pre < 10 ^ (9 * pre.length) := by
  have := valP_fold hl hf pre 0 0 (by simp)
  rwa [Nat.zero_add] at this
theorem valP_cks {n : Nat} {ds : List UInt8} (hl : ds.length = n) (k : Nat) (hk : k ≤ (n + 8) / 9) : valP ds (cks n k) = fV (ds.take (9 * k)) := by
  induction k with
  | zero => simp [valP, cks, fV]
  | succ k ih =>
    rw [cks_succ, valP_snoc, ih (by omega)]
    have e : partOf ds (ck n k) = (ds.drop (9 * k)).take 9 := by
      simp only [partOf, ck]
      rw [Nat.min_eq_left (show 9 * k ≤ n by omega)]
      rcases Nat.le_total 9 (n - 9 * k) with h | h
      · rw [Nat.min_eq_left h]
      · rw [Nat.min_eq_right h, List.take_of_length_le (by rw [List.length_drop]; omega), List.take_of_length_le (by rw [List.length_drop]; omega)]
    rw [e, show 9 * (k + 1) = 9 * k + 9 from by omega, List.take_add, fV_append]
theorem valP_all {n : Nat} {ds : List UInt8} (hl : ds.length = n) : valP ds (cks n ((n + 8) / 9)) = fV ds := by
  rw [valP_cks hl _ (Nat.le_refl _), List.take_of_length_le (by omega)]
theorem cnt_small {l : List Nat} {c m : Nat} (h : RV l c) (hm : m ≤ 50) (hv : W.lV l < 10 ^ (9 * m)) : c ≤ 50 := by
  refine Nat.le_trans (h.cnt_le (k := m) (Nat.lt_of_lt_of_le hv ?_)) hm
  rw [Nat.pow_mul]
  exact Nat.pow_le_pow_left (by decide) _
/-- What stands between two rounds. -/
structure RdI (w w3 : World) (G n : Nat) (ds : List UInt8) (pre : List (Part n)) (X : World) : Prop where
  row : ∃ l c, RowI X G l c ∧ RV l c ∧ W.lV l = valP ds pre
  byt : X.heap[G + 1]? = w3.heap[G + 1]?
  bel : Below w.heap.size w X
  siz : w3.heap.size ≤ X.heap.size
theorem RdI.own {w w3 : World} {G n : Nat} {ds : List UInt8} {C : Array Value} {t : TypeId} {fr : Nat × Nat} (hb : w3.heap[G + 1]? = some (.cells C t fr)) (hs : w.heap.size ≤ w3.heap.size) : OwnFrom w3.heap.size (RdI w w3 G n ds) := by
  intro s X X' row h hg hr
  obtain ⟨l, c, h1, h2, h3⟩ := h.row
  refine ⟨⟨l, c, h1.other (hg.block G h1.lt (fun e => ?_)), h2, h3⟩, ?_, h.bel.grown hg (by have := h.siz; omega) (fun k e => by have := (hr k e).1; omega), Nat.le_trans h.siz hg.size⟩
  · obtain ⟨_, o, ho, hc⟩ := hr G e.symm
    rw [h1.blk] at ho; cases ho; cases hc
  · have hlt : G + 1 < X.heap.size := Nat.lt_of_lt_of_le (Array.getElem?_eq_some_iff.1 hb).1 h.siz
    rw [hg.block (G + 1) hlt (fun e => ?_), h.byt]
    obtain ⟨_, o, ho, hc⟩ := hr (G + 1) e.symm
    rw [h.byt, hb] at ho; cases ho; cases hc
end Go.Proofs.Ytkpcocdflcpnoaa
