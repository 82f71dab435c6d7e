import Derived.Test.YtkmmlfocidfghaaGreatUInvs
import Derived.Test.YtkmmlfocidfghaaGreatQMath
namespace Go.Proofs.YtkmmlfocidfghaaGreat
open Go.RowKit
/-- A block that was made behind w stays while the cursor goes on. -/
theorem Curs.kept {w w1 : World} {B g k n cap : Nat} {A : Option Addr} {o : Obj} (h : Curs w w1 B g A n cap) (hk : k < w.heap.size) (hne : k ≠ g) (ho : w.heap[k]? = some o) : w1.heap[k]? = some o :=
  (h.gr.block k hk (fun e => hne (Option.some.inj e))).trans ho
/-- A store into a block that was made behind w. -/
theorem Curs.put {w w1 : World} {B g k n cap : Nat} {A : Option Addr} {C : Array Value} (h : Curs w w1 B g A n cap) (hk : w.heap.size ≤ k) (hg : g < w.heap.size) : Curs w (w1.setRow k C) B g A n cap :=
  ⟨h.c.kept (setRow_other _ _ _ _ (by omega)), h.d.below (below_setRow2 (Below.refl _ _) (Nat.le_trans h.hg (by omega)) _), h.hg, by rw [size_setRow]; exact h.hB,
    ⟨h.gr.os, h.gr.tape, h.gr.output, by rw [size_setRow]; exact h.gr.size, fun i hi hne => (setRow_other _ _ _ _ (by omega)).trans (h.gr.block i hi hne)⟩⟩
theorem Curs.putC {w w1 : World} {B g g' k n cap : Nat} {A : Option Addr} {v : Value} (h : Curs w w1 B g A n cap) (hk : w.heap.size ≤ g') (hg : g < w.heap.size) : Curs w (w1.setCell ⟨g', k, none⟩ v) B g A n cap :=
  ⟨h.c.kept (Below.heap_setCell _ _ _ _ (show g ≠ g' by omega)), h.d.below ((Below.refl _ _).setCell (p := ⟨g', k, none⟩) (Nat.le_trans h.hg (show g ≤ g' by omega)) v), h.hg, by rw [World.size_setCell]; exact h.hB,
    ⟨h.gr.os, h.gr.tape, h.gr.output, by rw [World.size_setCell]; exact h.gr.size, fun i hi hne => (Below.heap_setCell _ _ _ _ (show i ≠ g' by omega)).trans (h.gr.block i hi hne)⟩⟩
end Go.Proofs.YtkmmlfocidfghaaGreat
