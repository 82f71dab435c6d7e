/-
  The contracts of the laws' own helpers markStringS and heldStringS on a row of texts that the call owns.
-/
import Derived.Test.YtbncjdieilcjjaaTextRows
import Derived.Laws.OwnMore
namespace Go.Proofs.Ytbncjdieilcjjaa
open Go.RowKit
attribute [local go_sem ↓] Go.wp_at_zero Go.wp_at_succ

theorem below_grownBy {w w' : World} (row : Option Nat) (hb : Below w.heap.size w w') : w.grownBy w' row := ⟨hb.os, hb.tape, hb.output, hb.size, fun k hk _ => hb.block k hk⟩
theorem grownBy_trans {a b c : World} {row : Option Nat} (h : a.grownBy b row) (k : b.grownBy c row) : a.grownBy c row :=
  ⟨k.os.trans h.os, k.tape.trans h.tape, k.output.trans h.output, Nat.le_trans h.size k.size, fun i hi hr => (k.block i (Nat.lt_of_lt_of_le hi h.size) hr).trans (h.block i hi hr)⟩
theorem grownBy_setCell (w : World) (g i : Nat) (u : Value) : w.grownBy (w.setCell ⟨g, i, none⟩ u) (some g) :=
  ⟨rfl, rfl, rfl, by simp, fun k _ hk => Below.heap_setCell w _ u k (fun e => hk (by rw [e]))⟩

/-- The marks from k on, n of them. -/
def marks (k n : Nat) : List ByteArray := (List.range n).map fun i => mt (k + i)
theorem marks_length (k n : Nat) : (marks k n).length = n := by simp [marks]
theorem marks_succ (k n : Nat) : marks k (n + 1) = marks k n ++ [mt (k + n)] := by simp [marks, List.range_succ]
theorem marks_set (k i : Nat) (l : List ByteArray) (h : i < l.length) : (strV (marks k i ++ l.drop i)).set i (.string (mt (k + i))) = strV (marks k (i + 1) ++ l.drop (i + 1)) := by
  rw [marks_succ, List.drop_eq_getElem_cons h]
  unfold strV
  simp only [List.map_append, List.map_cons]
  rw [List.set_append_right _ _ (by simp [marks_length])]
  simp [marks_length]
theorem marks_get (k n i : Nat) (h : i < (marks k n).length) : (marks k n)[i] = mt (k + i) := by simp [marks]

/-- What markStringS leaves: the marks in the row, all other blocks as they were. -/
def MarkPost (base n k : Nat) (v : Value) (w : World) (e : Ending) (w' : World) : Prop :=
  e = .returned (.int .i64 (k + n : Nat)) ∧ w'.ownsRow base 9 1 v n (strV (marks k n)) ∧ w.grownBy w' v.ownBlock

set_option maxHeartbeats 1000000 in
theorem markS_any (base n k : Nat) (v : Value) (l : List ByteArray) (w : World) (hn : n ≤ 1000000) (hk0 : 0 < k) (hk : k ≤ 1000000) (hown : w.ownsRow base 9 1 v n (strV l)) :
    Calls Try.prog 15 #[v, .int .i64 k] w (MarkPost base n k v w) := by
  have hll : l.length = n := by have := hown.1; simpa [strV] using this
  by_cases h0 : n = 0
  · subst h0
    obtain rfl : l = [] := List.eq_nil_of_length_eq_zero hll
    obtain ⟨a, c, rfl⟩ := own_shape hown
    have H := Lib.hid hown
    clear hown hll
    go_enter Try.func15, Try.ntmps15
    go_wp2
    refine wp_loop_rounds 1 ?_
    rw [rounds_succ]
    go_wp2
    go_ret
    exact ⟨rfl, H.out, World.grownBy.refl _ _⟩
  obtain ⟨g, cap, rfl, _, hglt⟩ := hown.form (by omega)
  have HL := Lib.hid hll
  clear hll
  go_enter Try.func15, Try.ntmps15
  go_wp2
  go_loopw [1, 5] (fun kv iv wr => ∃ i : Nat, i ≤ n ∧ iv = .int .i64 i ∧ kv = .int .i64 ((k : Int) + i) ∧ wr.ownsRow base 9 1 (.slice (some ⟨g, 0, none⟩) n cap) n (strV (marks k i ++ l.drop i)) ∧ w.grownBy wr (some g)) (fun _ iv _ => n - (intOf iv).toNat)
  case atStart => exact ⟨0, Nat.zero_le _, rfl, by simp, by simpa [marks] using hown, World.grownBy.refl _ _⟩
  case round =>
    obtain ⟨i, hi, rfl, rfl, ho, hg⟩ := hrel
    by_cases hlt : i < n
    · have hlt' : (i : Int) < (n : Int) := by omega
      have hc := mark_any (k + i) wr (by omega) (by omega)
      rw [show (((k + i : Nat) : Int)) = (k : Int) + i from by omega] at hc
      have HC := Lib.hid hc
      clear hc
      go_wp2_with (go_at_call 23; refine HC.out.mono ?_; rintro e w1 ⟨rfl, hb1⟩; have ho1 := own_below ho hb1; have f1 := ho1.frozenAt i; obtain ⟨old, hold⟩ : ∃ u, w1.cell? ⟨g, i, none⟩ = some u := ⟨_, (ho1.cellAt i (by omega)).trans (List.getElem?_eq_getElem (by rw [ho1.1]; omega))⟩)
      go_roundw
      case rel =>
        refine ⟨i + 1, by omega, by go_num, by go_num, ?_, grownBy_trans hg (grownBy_trans (below_grownBy _ hb1) (grownBy_setCell _ _ _ _))⟩
        have := ho1.stored i (.string (mt (k + i)))
        rw [marks_set _ _ _ (by rw [HL.out]; exact hlt)] at this
        exact this.1
      case measure => simp [intOf]; omega
    · obtain rfl : i = n := by omega
      have ho2 : wr.ownsRow base 9 1 (.slice (some ⟨g, 0, none⟩) i cap) i (strV (marks k i)) := by
        rw [List.drop_of_length_le (by rw [HL.out]; omega), List.append_nil] at ho
        exact ho
      go_wp2
      go_ret
      exact ⟨rfl, ho2, hg⟩

set_option maxHeartbeats 1000000 in
theorem heldS_any (base n k : Nat) (v : Value) (w : World) (hn : n ≤ 1000000) (hk0 : 0 < k) (hk : k ≤ 1000000) (hown : w.ownsRow base 9 1 v n (strV (marks k n))) :
    Calls Try.prog 16 #[v, .int .i64 k] w fun e w' => e = .returned (.int .i64 (k + n : Nat)) ∧ Below w.heap.size w w' := by
  by_cases h0 : n = 0
  · subst h0
    obtain ⟨a, c, rfl⟩ := own_shape hown
    clear hown
    go_enter Try.func16, Try.ntmps16
    go_wp2
    refine wp_loop_rounds 1 ?_
    rw [rounds_succ]
    go_wp2
    go_ret
    exact ⟨rfl, Below.refl _ _⟩
  obtain ⟨g, cap, rfl, _, hglt⟩ := hown.form (by omega)
  go_enter Try.func16, Try.ntmps16
  go_wp2
  go_loopw [1, 5] (fun kv iv wr => ∃ i : Nat, i ≤ n ∧ iv = .int .i64 i ∧ kv = .int .i64 ((k : Int) + i) ∧ Below w.heap.size w wr) (fun _ iv _ => n - (intOf iv).toNat)
  case atStart => exact ⟨0, Nat.zero_le _, rfl, by simp, Below.refl _ _⟩
  case round =>
    obtain ⟨i, hi, rfl, rfl, hb⟩ := hrel
    by_cases hlt : i < n
    · have hlt' : (i : Int) < (n : Int) := by omega
      have hi0 : (0 : Int) ≤ (i : Int) := Int.natCast_nonneg _
      have hbs := hb.size
      have hcell : wr.cell? ⟨g, i, none⟩ = some (.string (mt (k + i))) := by
        obtain ⟨hl, c1⟩ := own_cell hown hlt
        rw [hb.cell (p := ⟨g, i, none⟩) hglt, c1, marks_get]
      have HC : ∀ W, Calls Try.prog 23 #[.int .i64 ((k : Int) + i)] W fun e w' => e = .returned (.string (mt (k + i))) ∧ Below W.heap.size W w' := by
        intro W
        have hc := mark_any (k + i) W (by omega) (by omega)
        rw [show (((k + i : Nat) : Int)) = (k : Int) + i from by omega] at hc
        exact hc
      have HC := Lib.hid HC
      go_wp2_with fail
      go_region_held3 (fun w' => w'.cell? ⟨g, i, none⟩ = some (.string (mt (k + i)))) (first | go_keep | (rw [hb1.cell (p := ⟨g, i, none⟩) (by simp; omega)]; first | assumption | (simp [*])))
        (first | (go_at_call 23; refine (HC.out _).mono ?_; rintro e w1 ⟨rfl, hb1⟩))
      all_goals
        go_wp2
        go_roundw
        case rel => exact ⟨i + 1, by omega, by go_num, by go_num, hb.drew.trans (hb1.mono hbs)⟩
        case measure => simp [intOf]; omega
    · obtain rfl : i = n := by omega
      go_wp2
      go_ret
      exact ⟨rfl, hb⟩

/-! As the laws call them. -/
theorem below_draws (w : World) (k : Nat) : Below w.heap.size w (w.drewN k) := ⟨rfl, rfl, rfl, Nat.le_refl _, fun _ _ => rfl⟩
theorem eqS_below (b1 b2 n : Nat) (va vb : Value) (l : List ByteArray) (w : World) (hn : n ≤ 1000000) (ha : w.ownsRow b1 9 1 va n (strV l)) (hb : w.ownsRow b2 9 1 vb n (strV l)) :
    Calls Try.prog 14 #[va, vb] w fun e w' => e = .returned (.bool true) ∧ Below w.heap.size w w' :=
  (eqS_same b1 b2 n va vb l w hn ha hb).mono fun _ _ ⟨k, he, hw⟩ => ⟨he, hw ▸ below_draws w k⟩
theorem markS_one (base n : Nat) (v : Value) (l : List ByteArray) (w : World) (hn : n ≤ 1000000) (hown : w.ownsRow base 9 1 v n (strV l)) :
    Calls Try.prog 15 #[v, .int .i64 1] w fun e w' => e = .returned (.int .i64 (1 + (n : Int))) ∧ w'.ownsRow base 9 1 v n (strV (marks 1 n)) ∧ w.grownBy w' v.ownBlock :=
  (markS_any base n 1 v l w hn (by omega) (by omega) hown).mono fun _ _ ⟨he, h1, h2⟩ => ⟨he.trans (ret_int (by omega)), h1, h2⟩
theorem heldS_one (base n : Nat) (v : Value) (w : World) (hn : n ≤ 1000000) (hown : w.ownsRow base 9 1 v n (strV (marks 1 n))) :
    Calls Try.prog 16 #[v, .int .i64 1] w fun e w' => e = .returned (.int .i64 (1 + (n : Int))) ∧ Below w.heap.size w w' :=
  (heldS_any base n 1 v w hn (by omega) (by omega) hown).mono fun _ _ ⟨he, h1⟩ => ⟨he.trans (ret_int (by omega)), h1⟩
/-- A row that lies below the base of the one that was written. -/
theorem own_far {w w' : World} {base base' e e' size n m : Nat} {v v' : Value} {xs ys : List Value} (h : w.ownsRow base e size v n xs) (hv : w.ownsRow base' e' size v' m ys) (hlt : ∀ k, v.ownBlock = some k → k < base') (hg : w.grownBy w' v'.ownBlock) : w'.ownsRow base e size v n xs := by
  refine h.kept hg ?_
  cases hb : v.ownBlock with
  | none => exact .inl rfl
  | some k =>
    right
    intro he
    have := (hv.lt k he.symm).1
    have := hlt k hb
    omega
end Go.Proofs.Ytbncjdieilcjjaa
