import Derived.Test.YtdajgcgliidjbaaGreatUOps
namespace Go.Proofs.YtdajgcgliidjbaaGreat
open Go.RowKit
def Held (w : World) (l : List (Nat × Array Value × TypeId)) : Prop := ∀ q ∈ l, w.heap[q.1]? = some (.cells q.2.1 q.2.2 (0, 0))
theorem Held.on {w w' : World} {l : List (Nat × Array Value × TypeId)} (h : Held w l) (b : Below w.heap.size w w') : Held w' l := fun q hq => (b.block _ (Array.getElem?_eq_some_iff.1 (h q hq)).1).trans (h q hq)
theorem Held.apart {w : World} {l : List (Nat × Array Value × TypeId)} (h : Held w l) : ∀ q ∈ l, q.1 ≠ w.heap.size := fun q hq e => by
 have := (Array.getElem?_eq_some_iff.1 (h q hq)).1
 omega
theorem Held.tail {w : World} {q : Nat × Array Value × TypeId} {l : List (Nat × Array Value × TypeId)} (h : Held w (q :: l)) : Held w l := fun r hr => h r (List.mem_cons_of_mem _ hr)
theorem Held.cons {w : World} {g : Nat} {C : Array Value} {t : TypeId} {l : List (Nat × Array Value × TypeId)} (h : Held w l) (hg : w.heap[g]? = some (.cells C t (0, 0))) : Held w ((g, C, t) :: l) := fun q hq => by
 rcases List.mem_cons.1 hq with rfl | hq
 ·exact hg
 ·exact h q hq
theorem Held.none (w : World) : Held w [] := fun q hq => by cases hq
theorem Held.put {w : World} {l : List (Nat × Array Value × TypeId)} {g : Nat} {C : Array Value} {t : TypeId} (h : Held w l) (ap : ∀ q ∈ l, q.1 ≠ g) (hg : w.heap[g]? = some (.cells C t (0, 0))) (C' : Array Value) : Held (w.setRow g C') ((g, C', t) :: l) :=
 Held.cons (fun q hq => (setRow_other _ _ _ _ (ap q hq)).trans (h q hq)) (setRow_heap _ _ _ _ _ _ hg)
theorem Held.new {w : World} {l : List (Nat × Array Value × TypeId)} (h : Held w l) (C C' : Array Value) (t : TypeId) : Held ((w.alloc (.cells C t)).setRow w.heap.size C') ((w.heap.size, C', t) :: l) ∧ Below w.heap.size w ((w.alloc (.cells C t)).setRow w.heap.size C') :=
 ⟨(h.on ((Below.refl _ _).alloc (Nat.le_refl _) _)).put h.apart (heap_alloc_new w _) C', below_setRow2 ((Below.refl _ _).alloc (Nat.le_refl _) _) (Nat.le_refl _) _⟩
end Go.Proofs.YtdajgcgliidjbaaGreat
