/-
  The contracts of impl's RestOk, RestOf and of what works on rests out of a list of functions.
-/
import Derived.Test.YtflfeepgkcamnaaGreatJRow
import Derived.Test.YtflfeepgkcamnaaGreatRLaw
import Derived.Test.YtflfeepgkcamnaaGreatIDivGreat
import Derived.Test.YtflfeepgkcamnaaGreatICmp
namespace Go.Proofs.YtflfeepgkcamnaaGreat
open Go.RowKit

theorem cmp_rest (a p : ByteArray) : decide (cmpG a p < 0) = restB a p := by
  unfold cmpG restB okT
  cases ha : okG a <;> cases hp : okG p <;> simp [cmp_lt]
theorem cmp_mod (p : ByteArray) : decide (0 < cmpG p ⟨#[1]⟩) = modB p := by
  unfold cmpG modB okT
  rw [show okG ⟨#[1]⟩ = true from rfl, show gV ⟨#[1]⟩ = 1 from rfl]
  cases hp : okG p
  · rfl
  · simp only [Bool.true_and, Bool.and_self, if_true, cmpI]
    rcases Nat.lt_trichotomy (gV p) 1 with h | h | h
    · rw [if_pos h, decide_eq_false (by omega : ¬ 1 < gV p)]; rfl
    · rw [if_neg (by omega), if_pos h, decide_eq_false (by omega : ¬ 1 < gV p)]; rfl
    · rw [if_neg (by omega), if_neg (by omega), decide_eq_true h]; rfl
theorem restOk_s (a p : ByteArray) (w : World) : Calls Tryz.prog 49 #[.string a, .string p] w fun e w' => e = .returned (.bool (restB a p)) ∧ w = w' := by
  rw [← cmp_rest]
  have H := Lib.hid (compareGreat_i a p)
  generalize cmpG a p = v at *
  go_enter Tryz.func49, Tryz.ntmps49
  go_wp2_with fail
  refine (H.out _).mono ?_
  rintro e w1 ⟨rfl, rfl⟩
  go_wp2
  go_ret
  exact ⟨rfl, rfl⟩
theorem restOk_i (a p : ByteArray) (w : World) : Calls Tryz.prog 49 #[.string a, .string p] w fun e w' => e = .returned (.bool (restB a p)) ∧ Below w.heap.size w w' :=
  (restOk_s a p w).mono fun _ _ ⟨h1, h2⟩ => ⟨h1, h2 ▸ Below.refl _ _⟩
theorem leaves_s (p : ByteArray) (w : World) : Calls Tryz.prog 48 #[.string p] w fun e w' => e = .returned (.bool (modB p)) ∧ w = w' := by
  rw [← cmp_mod]
  have H := Lib.hid (compareGreat_i p ⟨#[1]⟩)
  generalize cmpG p ⟨#[1]⟩ = v at *
  go_enter Tryz.func48, Tryz.ntmps48
  go_wp2_with fail
  refine (H.out _).mono ?_
  rintro e w1 ⟨rfl, rfl⟩
  go_wp2
  go_ret
  exact ⟨rfl, rfl⟩
theorem divR_rest (a p : ByteArray) : divR a p = restG a p := by
  unfold divR restG divB modB okT
  cases ha : okG a <;> cases hp : okG p <;> simp
  by_cases h : 1 < gV p
  · rw [if_pos (by omega), if_pos h]
  · rw [if_neg h]
    by_cases h0 : 0 < gV p
    · rw [if_pos h0, show gV p = 1 from by omega, Nat.mod_one, gS_zero]
    · rw [if_neg h0]
/-! The list of functions. -/
def workF (k : Nat) : Nat := if k = 0 then 78 else if k = 1 then 80 else 79
def workL : Array Value := #[.func (.func 78) #[] #[], .func (.func 80) #[] #[], .func (.func 79) #[] #[]]
theorem workL_at {k : Nat} (h : k < 3) : workL[k]? = some (.func (.func (workF k)) #[] #[]) := by
  match k, h with
  | 0, _ => rfl
  | 1, _ => rfl
  | 2, _ => rfl
theorem enter_of {P : Program} {f : FuncId} {fn : Func} (hf : P.funcs[f]? = some fn) (hname : (fn.name == "runtime.NumGoroutine") = false) (hb : fn.body.isSome = true) (args : Array Value) (w : World) : (callFunc f args).run P w = .ok (.enter f args) w := by
  have h1 : fn.name ≠ "runtime.NumGoroutine" := by simpa using hname
  obtain ⟨c, hc⟩ := Option.isSome_iff_exists.1 hb
  simp [callFunc, hf, h1, hc]
theorem work_enter {k : Nat} (h : k < 3) (args : Array Value) (w : World) : (callFunc (workF k) args).run Tryz.prog w = .ok (.enter (workF k) args) w := by
  match k, h with
  | 0, _ => exact enter_of Tryz.func78 (by kernel_rfl) (by kernel_rfl) args w
  | 1, _ => exact enter_of Tryz.func80 (by kernel_rfl) (by kernel_rfl) args w
  | 2, _ => exact enter_of Tryz.func79 (by kernel_rfl) (by kernel_rfl) args w
/-- What a work of the list does. -/
def Works (F : Nat) (R : Nat → Nat → Nat → Nat) : Prop :=
  ∀ (lx ly lp : List Nat) (cx cy cp : Nat) (w : World), lx.length = 81 → ly.length = 81 → lp.length = 81 → RV lx cx → RV ly cy → RV lp cp → W.lV lx < W.lV lp → W.lV ly < W.lV lp → W.lV lp < GB → 1 < W.lV lp →
    Calls Tryz.prog F #[.agg (rowC lx cx), .agg (rowC ly cy), .agg (rowC lp cp)] w (AggPost (fun l _ => W.lV l = R (W.lV lx) (W.lV ly) (W.lV lp)) w)
/-- Three rows in three variables that follow each other. -/
structure Row3 (w : World) (g : Nat) (lx : List Nat) (cx : Nat) (ly : List Nat) (cy : Nat) (lp : List Nat) (cp : Nat) : Prop where
  x : RowI w g lx cx
  y : RowI w (g + 1) ly cy
  p : RowI w (g + 2) lp cp
theorem Row3.on {w w' : World} {g : Nat} {lx ly lp : List Nat} {cx cy cp : Nat} (h : Row3 w g lx cx ly cy lp cp) (b : Below w.heap.size w w') : Row3 w' g lx cx ly cy lp cp :=
  ⟨h.x.below b h.x.lt, h.y.below b h.y.lt, h.p.below b h.p.lt⟩
/-- Three new variables, zero. -/
theorem Row3.zero (w : World) {Z : Array Value} (hZ : rowC Z81 0 = Z) :
    Row3 (((w.alloc (.cells Z 41)).alloc (.cells Z 41)).alloc (.cells Z 41)) w.heap.size Z81 0 Z81 0 Z81 0 ∧ Below w.heap.size w (((w.alloc (.cells Z 41)).alloc (.cells Z 41)).alloc (.cells Z 41)) := by
  have h := Work.start w hZ
  have s : ((w.alloc (.cells Z 41)).alloc (.cells Z 41)).heap.size = w.heap.size + 2 := by simp
  generalize (w.alloc (.cells Z 41)).alloc (.cells Z 41) = w1 at *
  have o := one_var w1 hZ
  rw [s] at o
  refine ⟨⟨h.out.below o.2 (by omega), h.row.below o.2 (by omega), o.1⟩, h.b.trans (o.2.mono (by omega))⟩
theorem Row3.laid {w w' : World} {lx ly lp : List Nat} {cx cy cp : Nat} (h : Row3 w' w.heap.size Z81 0 Z81 0 Z81 0 ∧ Below w.heap.size w w') (hx : lx.length = 81) (hy : ly.length = 81) (hp : lp.length = 81) :
    Row3 (((w'.setRow w.heap.size (rowC lx cx)).setRow (w.heap.size + 1) (rowC ly cy)).setRow (w.heap.size + 2) (rowC lp cp)) w.heap.size lx cx ly cy lp cp ∧ Below w.heap.size w (((w'.setRow w.heap.size (rowC lx cx)).setRow (w.heap.size + 1) (rowC ly cy)).setRow (w.heap.size + 2) (rowC lp cp)) := by
  obtain ⟨r, b⟩ := h
  refine ⟨⟨((r.x.stored hx).storedApart (by omega)).storedApart (by omega), (((r.y.storedApart (by omega)).stored hy).storedApart (by omega)), (((r.p.storedApart (by omega)).storedApart (by omega)).stored hp)⟩, ?_⟩
  exact below_setRow (below_setRow (below_setRow b (Nat.le_refl _) _) (by omega) _) (by omega) _
theorem Row3.apart {w : World} {g A : Nat} {lx ly lp : List Nat} {cx cy cp : Nat} {cs : Array Value} (h : Row3 w g lx cx ly cy lp cp) (hA : g + 2 < A) : Row3 (w.setRow A cs) g lx cx ly cy lp cp :=
  ⟨h.x.storedApart (by omega), h.y.storedApart (by omega), h.p.storedApart (by omega)⟩
theorem great_gS {V : Nat} (h : V < GB) : boundG (gS V) = gS V := by rw [boundG_gS, if_pos h]

end Go.Proofs.YtflfeepgkcamnaaGreat
