/-
  Rows of limbs that the call owns; the contracts of spec.GreatOk, l02Bound and l02Trim.
-/
import Derived.Test.YtkpcocdflcpnoaaRows
import Derived.Test.YtkpcocdflcpnoaaGreat
import Derived.Handy
import Derived.Lib.Hide
import Derived.Outline
import Derived.Laws.OwnMore
namespace Go.Proofs.Ytkpcocdflcpnoaa
open Go.RowKit

def natV (l : List Nat) : List Value := l.map fun x : Nat => Value.int .i64 (x : Int)
theorem natV_length (l : List Nat) : (natV l).length = l.length := by simp [natV]
theorem natV_take (l : List Nat) (k : Nat) : natV (l.take k) = (natV l).take k := by simp [natV]
/-- The slice v is a row of the limbs l. -/
def RowN (w : World) (base : Nat) (A : Option Addr) (cap : Nat) (l : List Nat) : Prop := w.ownsRow base 3 1 (.slice A l.length cap) l.length (natV l)
theorem RowN.base {w : World} {b b' cap : Nat} {A : Option Addr} {l : List Nat} (h : RowN w b A cap l) (hb : b' ≤ b) : RowN w b' A cap l := by
  refine ⟨h.1, ?_⟩
  rcases h.2 with h | ⟨g, cp, cur, hv, hg, hh, h3⟩
  · exact .inl h
  · exact .inr ⟨g, cp, cur, hv, by omega, hh, h3⟩
theorem RowN.below {w w' : World} {b cap : Nat} {A : Option Addr} {l : List Nat} (h : RowN w b A cap l) (hb : Below w.heap.size w w') : RowN w' b A cap l := own_below h hb
theorem RowN.take {w : World} {b cap : Nat} {A : Option Addr} {l : List Nat} (h : RowN w b A cap l) {m : Nat} (hm : m ≤ l.length) : RowN w b A cap (l.take m) := by
  have hl : (l.take m).length = m := by rw [List.length_take]; omega
  unfold RowN
  rw [hl]
  refine ⟨by rw [natV_length, hl]; omega, ?_⟩
  rcases h.2 with ⟨h1, h2⟩ | ⟨g, cp, cur, hv, hg, hh, h3, h4, h5, h6⟩
  · injection h1 with e1 e2 e3
    subst e1 e3
    exact .inl ⟨by rw [show m = 0 by omega], by omega⟩
  · injection hv with e1 e2 e3
    subst e1 e3
    refine .inr ⟨g, cap, cur, rfl, hg, hh, by omega, h4, h5, ?_⟩
    rw [natV_take, ← h6, List.take_take]
    congr 1
    omega
/-- An element of a row. -/
theorem RowN.at_ {w : World} {b cap : Nat} {A : Option Addr} {l : List Nat} (h : RowN w b A cap l) {k : Nat} (hk : k < l.length) :
    ∃ g, A = some ⟨g, 0, none⟩ ∧ b ≤ g ∧ g < w.heap.size ∧ w.cell? ⟨g, k, none⟩ = some (.int .i64 (l[k] : Int)) ∧ w.frozen? ⟨g, k, none⟩ = false := by
  obtain ⟨g, cp, hv, hb, hlt⟩ := World.ownsRow.form h (by omega)
  injection hv with e1 e2 e3
  subst e1 e3
  refine ⟨g, rfl, hb, hlt, ?_, World.ownsRow.frozenAt h k⟩
  rw [World.ownsRow.cellAt h k (by omega)]
  simp [natV, hk]
theorem RowN.form {w : World} {b cap : Nat} {A : Option Addr} {l : List Nat} (h : RowN w b A cap l) (hk : 0 < l.length) : ∃ g, A = some ⟨g, 0, none⟩ ∧ b ≤ g ∧ g < w.heap.size := by
  obtain ⟨g, e, h1, h2, _⟩ := h.at_ (k := 0) hk
  exact ⟨g, e, h1, h2⟩
/-- What a call hands back that makes a row. -/
def RowPost (P : List Nat → Prop) (w : World) (e : Ending) (w' : World) : Prop :=
  ∃ A cap l, e = .returned (.slice A l.length cap) ∧ P l ∧ RowN w' w.heap.size A cap l ∧ Below w.heap.size w w'

/-! spec.GreatOk, l02Bound -/
theorem isEmpty_size {s : ByteArray} : s.toList.isEmpty = decide (s.size = 0) := by
  have : s.toList.length = s.size := by rw [ByteArray.toList_eq]; simp
  cases h : s.toList with
  | nil => rw [h] at this; simp at this; simp [← this]
  | cons a l =>
    rw [h, List.length_cons] at this
    have : decide (s.size = 0) = false := by simp only [decide_eq_false_iff_not]; omega
    rw [this]; rfl
theorem okG_empty {s : ByteArray} (h : s.size = 0) : okG s = true := by
  have : s.data.toList = [] := List.eq_nil_of_length_eq_zero (by simpa using h)
  unfold okG; rw [this, h]; rfl
theorem okG_head {s : ByteArray} (h : 0 < s.size) (h1 : s.size ≤ 160) : okG s = ((s[0].toNat : Int) != 0) := by
  have hl : 0 < s.data.toList.length := by simpa using h
  have e : s.data.toList = s[0] :: s.data.toList.tail := by
    cases hs : s.data.toList with
    | nil => rw [hs] at hl; simp at hl
    | cons a l =>
      have : s.data.toList[0] = s[0] := rfl
      simp only [hs, List.getElem_cons_zero] at this
      rw [← this]; rfl
  have hd : decide (s.size ≤ 160) = true := by simpa using h1
  unfold okG
  rw [hd, e]
  simp only [headOk, Bool.true_and]
  by_cases hz : s[0].toNat = 0
  · simp [hz]
  · simp [hz]
theorem okG_long {s : ByteArray} (h : 160 < s.size) : okG s = false := by
  unfold okG
  have : decide (s.size ≤ 160) = false := by simp; omega
  rw [this]; rfl
theorem greatOk_any (s : ByteArray) (w : World) : Calls Try.prog 14 #[.string s] w fun e w' => e = .returned (.bool (okG s)) ∧ w = w' := by
  by_cases h1 : 160 < s.size
  · have hd : decide ((s.size : Int) ≤ 160) = false := by simp; omega
    rw [okG_long h1]
    go_enter Try.func14, Try.ntmps14
    go_wp2
    go_ret
    exact ⟨rfl, rfl⟩
  have hd : decide ((s.size : Int) ≤ 160) = true := by simp; omega
  by_cases h2 : s.size = 0
  · have he : s.toList = [] := by have := isEmpty_size (s := s); rw [h2] at this; simpa using this
    rw [okG_empty h2]
    clear h2
    go_enter Try.func14, Try.ntmps14
    go_wp2
    go_ret
    exact ⟨rfl, rfl⟩
  · have he : s.toList.isEmpty = false := by rw [isEmpty_size]; simpa using h2
    have h3 : 0 < s.size := by omega
    have h4 : (0 : Int) < (s.size : Int) := by omega
    rw [okG_head h3 (by omega)]
    clear h2
    go_enter Try.func14, Try.ntmps14
    go_wp2
    go_ret
    exact ⟨rfl, rfl⟩
end Go.Proofs.Ytkpcocdflcpnoaa
