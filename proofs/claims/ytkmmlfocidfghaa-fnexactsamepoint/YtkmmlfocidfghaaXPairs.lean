import Derived.Test.YtkmmlfocidfghaaJTri
/-
  The helpers of the exact laws over pairs: laws.szPair, toPair, eqPair.
-/
namespace Go.Proofs.Ytkmmlfocidfghaa
open Go.RowKit
def szG (x : Pt) (l : Int) : Int := if l - (x.1.size : Int) < 0 then -1 else if l - (x.1.size : Int) - (x.2.size : Int) < 0 then -1 else l - (x.1.size : Int) - (x.2.size : Int)
theorem szG_le {x : Pt} {l : Int} (hl : 0 ≤ l ∧ l ≤ 1048576) (h : 0 ≤ szG x l) : 0 ≤ szG x l ∧ szG x l ≤ 1048576 := by
  refine ⟨h, ?_⟩
  unfold szG at *
  split <;> (try split) <;> omega
end Go.Proofs.Ytkmmlfocidfghaa
/-
  Blocks that stand without a result of their own: for the exact laws over two pairs.
-/
namespace Go.Proofs.Ytkmmlfocidfghaa
open Go.RowKit
/-! Blocks that stand, without a result's. -/
structure Stand (w w' : World) (L : List (Nat × Array Value × TypeId)) : Prop where
  h : Held w' L
  b : Below w.heap.size w w'
theorem Stand.on {w w' w'' : World} {L : List (Nat × Array Value × TypeId)} (h : Stand w w' L) (b : Below w'.heap.size w' w'') : Stand w w'' L := ⟨h.h.on b, bt h.b b⟩
theorem Stand.drew {w w' : World} {L : List (Nat × Array Value × TypeId)} (h : Stand w w' L) : Stand w w'.drew L := ⟨h.h, ⟨h.b.os, h.b.tape, h.b.output, h.b.size, h.b.block⟩⟩
theorem Stand.new {w w' : World} {L : List (Nat × Array Value × TypeId)} (h : Stand w w' L) (C : Array Value) (t : TypeId) : Stand w (w'.alloc (.cells C t)) ((w'.heap.size, C, t) :: L) := by
  have b : Below w'.heap.size w' (w'.alloc (.cells C t)) := (Below.refl _ _).alloc (Nat.le_refl _) _
  exact ⟨(h.h.on b).cons (heap_alloc_new w' _), bt h.b b⟩
theorem Stand.putAt {w w' : World} {L : List (Nat × Array Value × TypeId)} {g : Nat} {C : Array Value} {t : TypeId} (h : Stand w w' ((g, C, t) :: L)) (hg : w.heap.size ≤ g) (ap : ∀ q ∈ L, q.1 ≠ g) (C' : Array Value) : Stand w (w'.setRow g C') ((g, C', t) :: L) :=
  ⟨(h.h.tail.setRow ap).cons (setRow_heap _ _ _ _ _ _ (h.h _ List.mem_cons_self)), below_setRow2 h.b hg _⟩
theorem stand2 (w : World) (A B : Array Value) (tA tB : TypeId) : Stand w ((w.alloc (.cells A tA)).alloc (.cells B tB)) ((w.heap.size + 1, B, tB) :: [(w.heap.size, A, tA)]) := by
  have h1 : Stand w (w.alloc (.cells A tA)) [(w.heap.size, A, tA)] := Stand.new ⟨Held.none w, Below.refl _ _⟩ A tA
  have h2 := h1.new B tB
  have e : (w.alloc (.cells A tA)).heap.size = w.heap.size + 1 := by simp
  rw [e] at h2
  exact h2
theorem Try.zeroPair : (Try.prog.info? 37).map (·.zero) = some (some (.agg #[.string ⟨#[]⟩, .string ⟨#[]⟩])) := by kernel_rfl
theorem zero_pair (w : World) : (zeroValue 37).run Try.prog w = .ok (.agg #[.string ⟨#[]⟩, .string ⟨#[]⟩]) w := by
  have h := Try.zeroPair
  cases hq : Try.prog.info? 37 with
  | none => rw [hq] at h; cases h
  | some i =>
    rw [hq] at h
    simp only [Option.map_some, Option.some.injEq] at h
    simp [zeroValue, typeInfo, hq, h]
end Go.Proofs.Ytkmmlfocidfghaa
