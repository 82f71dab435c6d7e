import Derived.Test.YtdajgcgliidjbaaGreatJTri
namespace Go.Proofs.YtdajgcgliidjbaaGreat
open Go.RowKit
end Go.Proofs.YtdajgcgliidjbaaGreat
namespace Go.Proofs.YtdajgcgliidjbaaGreat
open Go.RowKit
structure Stand (w w' : World) (L : List (Nat × Array Value × TypeId)) : Prop where
 h : Held w' L
 b : Below w.heap.size w w'
theorem Stand.on {w w' w'' : World} {L : List (Nat × Array Value × TypeId)} (h : Stand w w' L) (b : Below w'.heap.size w' w'') : Stand w w'' L := ⟨h.h.on b, bt h.b b⟩
theorem Stand.drew {w w' : World} {L : List (Nat × Array Value × TypeId)} (h : Stand w w' L) : Stand w w'.drew L := ⟨h.h, ⟨h.b.os, h.b.tape, h.b.output, h.b.size, h.b.block⟩⟩
theorem Stand.new {w w' : World} {L : List (Nat × Array Value × TypeId)} (h : Stand w w' L) (C : Array Value) (t : TypeId) : Stand w (w'.alloc (.cells C t)) ((w'.heap.size, C, t) :: L) := by
 have b : Below w'.heap.size w' (w'.alloc (.cells C t)) := (Below.refl _ _).alloc (Nat.le_refl _) _
 exact ⟨(h.h.on b).cons (heap_alloc_new w' _), bt h.b b⟩
theorem Stand.putAt {w w' : World} {L : List (Nat × Array Value × TypeId)} {g : Nat} {C : Array Value} {t : TypeId} (h : Stand w w' ((g, C, t) :: L)) (hg : w.heap.size ≤ g) (ap : ∀ q ∈ L, q.1 ≠ g) (C' : Array Value) : Stand w (w'.setRow g C') ((g, C', t) :: L) :=
 ⟨(h.h.tail.setRow ap).cons (setRow_heap _ _ _ _ _ _ (h.h _ List.mem_cons_self)), below_setRow2 h.b hg _⟩
theorem stand2 (w : World) (A B : Array Value) (tA tB : TypeId) : Stand w ((w.alloc (.cells A tA)).alloc (.cells B tB)) ((w.heap.size + 1, B, tB) :: [(w.heap.size, A, tA)]) := by
 have h1 : Stand w (w.alloc (.cells A tA)) [(w.heap.size, A, tA)] := Stand.new ⟨Held.none w, Below.refl _ _⟩ A tA
 have h2 := h1.new B tB
 have e : (w.alloc (.cells A tA)).heap.size = w.heap.size + 1 := by simp
 rw [e] at h2
 exact h2
end Go.Proofs.YtdajgcgliidjbaaGreat
