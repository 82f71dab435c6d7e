/-
  The contracts of spec.Unhex and of spec.l01Value, at every text: unS and unB.
-/
import Derived.Test.YtbncjdieilcjjaaWordsHex
namespace Go.Proofs.Ytbncjdieilcjjaa
open Go.RowKit

/-- The value of a figure; -1 where it is none. -/
def valI (n : Int) : Int := if 48 ≤ n ∧ n ≤ 57 then n - 48 else if 97 ≤ n ∧ n ≤ 102 then n - 97 + 10 else -1
theorem valI_bd (n : Int) : -1 ≤ valI n ∧ valI n < 16 := by unfold valI; split; omega; split <;> omega
def un : List UInt8 → List UInt8
  | a :: b :: r => UInt8.ofNat (16 * valI a.toNat + valI b.toNat).toNat :: un r
  | _ => []
def okL : List UInt8 → Bool
  | a :: b :: r => decide (0 ≤ valI a.toNat) && decide (0 ≤ valI b.toNat) && okL r
  | [] => true
  | [_] => false
def unB (s : ByteArray) : Bool := decide (s.size ≤ 40000) && decide (s.size % 2 = 0) && okL s.data.toList
def unS (s : ByteArray) : ByteArray := if unB s then ⟨(un s.data.toList).toArray⟩ else ⟨#[]⟩

theorem un_snoc : ∀ (l : List UInt8) (a b : UInt8), l.length % 2 = 0 → un (l ++ [a, b]) = un l ++ [UInt8.ofNat (16 * valI a.toNat + valI b.toNat).toNat]
  | [], _, _, _ => rfl
  | [_], _, _, h => by simp at h
  | x :: y :: r, a, b, h => by
    have := un_snoc r a b (by simp at h; omega)
    simp only [List.cons_append, un, this]
theorem okL_append : ∀ (l m : List UInt8), l.length % 2 = 0 → okL (l ++ m) = (okL l && okL m)
  | [], _, _ => by simp [okL]
  | [_], _, h => by simp at h
  | x :: y :: r, m, h => by
    have := okL_append r m (by simp at h; omega)
    simp only [List.cons_append, okL, this, Bool.and_assoc]
theorem unB_bad {s : ByteArray} (h : 40000 < s.size ∨ s.size % 2 ≠ 0) : unB s = false ∧ unS s = ⟨#[]⟩ := by
  have : unB s = false := by unfold unB; rcases h with h | h <;> simp <;> omega
  exact ⟨this, by unfold unS; rw [this]; rfl⟩
theorem unB_no {s : ByteArray} (h : okL s.data.toList = false) : unB s = false ∧ unS s = ⟨#[]⟩ := by
  have : unB s = false := by unfold unB; rw [h]; simp
  exact ⟨this, by unfold unS; rw [this]; rfl⟩
theorem unB_yes {s : ByteArray} (h1 : s.size ≤ 40000) (h2 : s.size % 2 = 0) (h : okL s.data.toList = true) : unB s = true ∧ unS s = ⟨(un s.data.toList).toArray⟩ := by
  have : unB s = true := by unfold unB; rw [h]; simp; omega
  exact ⟨this, by unfold unS; rw [this]; rfl⟩

section
variable {s : ByteArray} {p : Nat}
theorem take_two (h : p + 1 < s.size) : s.data.toList.take (p + 2) = s.data.toList.take p ++ [s[p], s[p + 1]] := by
  rw [take_snoc s (p + 1) h, take_snoc s p (by omega), List.append_assoc]; rfl
/-- A figure that is none: the whole is none. -/
theorem pair_no (h : p + 1 < s.size) (h2 : p % 2 = 0) (hn : valI s[p].toNat < 0 ∨ valI s[p + 1].toNat < 0) : unB s = false ∧ unS s = ⟨#[]⟩ := by
  refine unB_no ?_
  have hl : (s.data.toList.take p).length = p := by rw [List.length_take, Array.length_toList]; show min p s.size = p; omega
  have e := List.take_append_drop (p + 2) s.data.toList
  rw [take_two h, List.append_assoc] at e
  rw [← e, okL_append _ _ (by omega)]
  have : okL ([s[p], s[p + 1]] ++ s.data.toList.drop (p + 2)) = false := by
    simp only [List.cons_append, List.nil_append, okL]
    rcases hn with hn | hn <;> simp <;> omega
  rw [this]; simp
theorem pair_yes (h : p + 1 < s.size) (h2 : p % 2 = 0) (ho : okL (s.data.toList.take p) = true) (ha : 0 ≤ valI s[p].toNat) (hb : 0 ≤ valI s[p + 1].toNat) : okL (s.data.toList.take (p + 2)) = true := by
  have hl : (s.data.toList.take p).length = p := by rw [List.length_take, Array.length_toList]; show min p s.size = p; omega
  rw [take_two h, okL_append _ _ (by omega), ho]
  simp only [okL]
  simp; omega
/-- What a round leaves. -/
theorem rel_un {w wr w1 : World} {v v1 : Value} {e : TypeId} {o : Obj} {c : Int} (h : p + 1 < s.size) (h2 : p % 2 = 0) (ha : 0 ≤ valI s[p].toNat) (hbb : 0 ≤ valI s[p + 1].toNat) (hb : Below w.heap.size w wr)
    (hown : wr.ownsRow w.heap.size e 1 v (p / 2) (Lib.byteCells (un (s.data.toList.take p)))) (hg : World.grownBy (wr.alloc o) w1 v.ownBlock) (hc : c = 16 * valI s[p].toNat + valI s[p + 1].toNat)
    (hown1 : w1.ownsRow w.heap.size e 1 v1 (p / 2 + 1) (Lib.byteCells (un (s.data.toList.take p)) ++ [.int .u8 c])) :
    w1.ownsRow w.heap.size e 1 v1 ((p + 2) / 2) (Lib.byteCells (un (s.data.toList.take (p + 2)))) ∧ Below w.heap.size w w1 := by
  have hl : (s.data.toList.take p).length = p := by rw [List.length_take, Array.length_toList]; show min p s.size = p; omega
  have v1b := valI_bd s[p].toNat
  have v2b := valI_bd s[p + 1].toNat
  have hx : Lib.byteCells (un (s.data.toList.take p)) ++ [.int .u8 c] = Lib.byteCells (un (s.data.toList.take (p + 2))) := by
    rw [take_two h, un_snoc _ _ _ (by omega), Lib.byteCells_append]
    congr 1
    simp only [Lib.byteCells, List.map_cons, List.map_nil, UInt8.toNat_ofNat']
    rw [hc]
    congr 2
    omega
  rw [hx] at hown1
  have hn : p / 2 + 1 = (p + 2) / 2 := by omega
  rw [hn] at hown1
  refine ⟨hown1, ?_⟩
  have hb1 : Below w.heap.size w (wr.alloc o) := hb.alloc hb.size o
  exact hb1.grown hg hb1.size fun j hj => (hown.lt j hj).1
end

theorem fin_un {s : ByteArray} {b : Bool} {t : ByteArray} (E : unB s = b ∧ unS s = t) : Ending.returned (.tuple #[.string t, .bool b]) = .returned (.tuple #[.string (unS s), .bool (unB s)]) := by rw [E.1, E.2]
end Go.Proofs.Ytbncjdieilcjjaa
