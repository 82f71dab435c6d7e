import Derived.Test.YtkmmlfocidfghaaZPt
import Derived.Test.YtkmmlfocidfghaaXPairs
namespace Go.Proofs.Ytkmmlfocidfghaa
open Go.RowKit
theorem PairX.q {w : World} {v : Value} {x : Pn} (h : PairX w v x) : ∃ q : Array Value, v = .agg q := by
  obtain ⟨a, b, rfl, _⟩ := h
  exact ⟨_, rfl⟩
theorem Begun.more {w w' : World} {L : List (Nat × Array Value × TypeId)} {o g : Nat} {Z C : Array Value} {t tC : TypeId} (h : Begun w w' L o Z t) (hg : w'.heap[g]? = some (.cells C tC (0, 0))) (ne : g ≠ o) : Begun w w' ((g, C, tC) :: L) o Z t :=
  ⟨h.h.cons hg, h.out, fun q hq => by
    rcases List.mem_cons.1 hq with rfl | hq
    · exact ne
    · exact h.ne q hq, h.b⟩
theorem zero_7 (w : World) : (zeroValue 46).run Try.prog w = .ok (.agg #[.slice none 0 0, .slice none 0 0]) w := by kernel_rfl
theorem Begun.sub {w w' : World} {L L' : List (Nat × Array Value × TypeId)} {o : Nat} {Z : Array Value} {t : TypeId} (h : Begun w w' L o Z t) (hs : ∀ q ∈ L', q ∈ L) : Begun w w' L' o Z t := ⟨fun q hq => h.h q (hs q hq), h.out, fun q hq => h.ne q (hs q hq), h.b⟩
theorem ld_var {L : List (Nat × Array Value × TypeId)} {g : Nat} {q : Array Value} (hm : (g, q, 46) ∈ L) (hs : q.size = 2) : ∀ w', Held w' L → (Instr.loadAt 46 (.pointer (some ⟨g, 0, none⟩))).run Try.prog w' = .ok (.agg q) w' := fun _ hw => cells_load (show _ = some (Obj.cells q 46 (0, 0)) from hw _ hm) Try.underlying46 rfl (by rw [hs]; exact Try.info7)
theorem ld_mid {L : List (Nat × Array Value × TypeId)} {g k : Nat} {C : Array Value} {t : TypeId} {u v : Value} (hm : (g, C, t) ∈ L) (h0 : C[k]? = some u) (h1 : C[k + 1]? = some v) : ∀ w', Held w' L → (Instr.loadAt 46 (.pointer (some ⟨g, k, none⟩))).run Try.prog w' = .ok (.agg #[u, v]) w' := fun _ hw => mid_load7 (show _ = some (Obj.cells C t (0, 0)) from hw _ hm) h0 h1
theorem Begun.new_ne {w w' : World} {L : List (Nat × Array Value × TypeId)} {o : Nat} {Z : Array Value} {t : TypeId} (h : Begun w w' L o Z t) : w'.heap.size ≠ o := by have := (Array.getElem?_eq_some_iff.1 h.out).1; omega
theorem mem_front {α : Type} {L : List α} (i : Nat) {q : α} (hq : q ∈ (L[i]?.toList ++ L.take i ++ L.drop (i + 1))) : q ∈ L := by
  rcases List.mem_append.1 hq with hq | hq
  · rcases List.mem_append.1 hq with hq | hq
    · cases he : L[i]? with
      | none => rw [he] at hq; cases hq
      | some x =>
        rw [he] at hq
        simp at hq
        subst hq
        exact List.mem_of_getElem? he
    · exact List.mem_of_mem_take hq
  · exact List.mem_of_mem_drop hq
/-- A load taken where it stands: what it loads need not stay. -/
theorem sq_now {P : Program} {ops : Array Oper} {Q : Exit → Act → World → Prop} {S : World → Prop} {K : Act → World → Prop} {i : Nat} {r : List (Bool × Nat)} {a : Act} {w : World} (d : Option Tmp) {t : TypeId} {p v : Value} (F : (Instr.loadAt t p).run P w = .ok v w) (hS : S w) (h : ((oAt ops i).dst, Nat.blt i ops.size, Region.wanted (oAt ops i) (yielded ops a.tmps), (loadOf (oAt ops i).op).map (fun q => (q.1, a.eval q.2))) = (d, true, true, some (t, p))) (k : seqH P ops Q S K r (a.put d v) w) : seqH P ops Q S K ((false, i) :: r) a w := by
  simp only [Prod.mk.injEq] at h
  obtain ⟨hd, hi, hw, hl⟩ := h
  cases hq : loadOf (oAt ops i).op with
  | none => rw [hq] at hl; cases hl
  | some q =>
    obtain ⟨t', x⟩ := q
    rw [hq] at hl
    simp only [Option.map_some, Option.some.injEq, Prod.mk.injEq] at hl
    obtain ⟨rfl, rfl⟩ := hl
    refine sq_op hi hw ?_
    have he : (execOp a.eval (oAt ops i)).run P w = .ok (.value v) w := by
      unfold execOp
      rw [loadOf_spec hq]
      simp only
      simp [F]
    unfold Oper.wp
    rw [he]
    rw [← hd] at k
    exact ⟨hS, k⟩
end Go.Proofs.Ytkmmlfocidfghaa
