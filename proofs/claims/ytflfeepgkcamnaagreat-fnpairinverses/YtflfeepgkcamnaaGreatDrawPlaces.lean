/-
  The contract of spec.DrawPlaces: a row of its own with twelve numbers of 0 .. 9999.
-/
import Derived.Test.YtflfeepgkcamnaaGreatDraw
namespace Go.Proofs.YtflfeepgkcamnaaGreat
open Go.RowKit

theorem Tryz.info3 : (Tryz.prog.info? 3).map (fun i => (i.zero, i.size, i.bytes)) = some (some (.int .i64 0), 1, 8) := by kernel_rfl
def intV (zs : List Int) : List Value := zs.map (Value.int .i64)
def Small (n : Nat) (zs : List Int) : Prop := zs.length = n ∧ ∀ z ∈ zs, 0 ≤ z ∧ z < 10000
theorem Small.snoc {n : Nat} {zs : List Int} {x : Int} (h : Small n zs) (h0 : 0 ≤ x) (h1 : x < 10000) : Small (n + 1) (zs ++ [x]) :=
  ⟨by simp [h.1], fun z hz => by
    rcases List.mem_append.1 hz with hz | hz
    · exact h.2 z hz
    · have : z = x := by simpa using hz
      subst this; exact ⟨h0, h1⟩⟩
def PlacesPost (w : World) (e : Ending) (w' : World) : Prop :=
  ∃ v zs, e = .returned v ∧ Small 12 zs ∧ w'.ownsRow w.heap.size 3 1 v 12 (intV zs) ∧ Below w.heap.size w w'
theorem own_base {w : World} {base base' e size n : Nat} {v : Value} {xs : List Value} (h : w.ownsRow base e size v n xs) (hb : base' ≤ base) : w.ownsRow base' e size v n xs := by
  refine ⟨h.1, ?_⟩
  rcases h.2 with h | ⟨g, cap, cur, hv, hg, hh, h3⟩
  · exact .inl h
  · exact .inr ⟨g, cap, cur, hv, by omega, hh, h3⟩

theorem made_two (w : World) (o : Obj) (e : TypeId) : ((w.alloc o).alloc (.cells #[] e)).ownsRow (w.heap.size + 1) e 1 (.slice (some ⟨w.heap.size + 1, 0, none⟩) 0 0) 0 [] := by
  have h := World.ownsRow_made (base := w.heap.size + 1) (e := e) (size := 1) (w.alloc o) #[] 0 (by simp) (by decide) rfl
  rw [World.size_alloc] at h
  exact h

end Go.Proofs.YtflfeepgkcamnaaGreat
