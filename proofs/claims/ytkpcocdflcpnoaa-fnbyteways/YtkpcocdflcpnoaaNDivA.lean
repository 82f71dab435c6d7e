/-
  The contract of spec.l02Div: what is less, and one limb.
-/
import Derived.Test.YtkpcocdflcpnoaaNLeft
import Derived.Test.YtkpcocdflcpnoaaNKnuthB
namespace Go.Proofs.Ytkpcocdflcpnoaa
open Go.RowKit

/-- What l02Div hands back. -/
def DivPost (va vb : Nat) (w : World) (e : Ending) (w' : World) : Prop :=
  ∃ A ca lq B cb lr, e = .returned (.tuple #[.slice A (List.length lq) ca, .slice B (List.length lr) cb]) ∧ InP (va / vb) lq ∧ InP (va % vb) lr ∧ RowN w' w.heap.size A ca lq ∧ RowN w' w.heap.size B cb lr ∧ Below w.heap.size w w'

/-- Two empty rows, the one after the other. -/
theorem two_rows (w w1 : World) (b : Below w.heap.size w w1) : RowN ((w1.alloc (.cells #[] 3)).alloc (.cells #[] 3)) w.heap.size (some ⟨w1.heap.size, 0, none⟩) 0 [] ∧
    ((w1.alloc (.cells #[] 3)).alloc (.cells #[] 3)).ownsRow (w1.heap.size + 1) 3 1 (.slice (some ⟨w1.heap.size + 1, 0, none⟩) 0 0) 0 [] ∧
    Below w.heap.size w ((w1.alloc (.cells #[] 3)).alloc (.cells #[] 3)) := by
  have h1 : RowN (w1.alloc (.cells #[] 3)) w.heap.size (some ⟨w1.heap.size, 0, none⟩) 0 [] := World.ownsRow_made _ #[] 0 b.size (by decide) rfl
  refine ⟨h1.below ((Below.refl _ _).alloc (Nat.le_refl _) _), ?_, (b.alloc b.size _).alloc (b.alloc b.size _).size _⟩
  have := World.ownsRow_made (base := w1.heap.size + 1) (e := 3) (size := 1) (w1.alloc (.cells #[] 3)) #[] 0 (by simp) (by decide) rfl
  rw [World.size_alloc] at this
  exact this
theorem RowN.nil_form {w : World} {b cap : Nat} {A : Option Addr} (h : RowN w b A cap []) : A = none ∧ cap = 0 ∨ ∃ g, A = some ⟨g, 0, none⟩ := by
  rcases h.2 with ⟨h1, _⟩ | ⟨g, cp, cur, hv, _⟩
  · injection h1 with e1 e2 e3; exact .inl ⟨e1, e3⟩
  · injection hv with e1 e2 e3; exact .inr ⟨g, e1⟩
theorem natV_one (l : List Nat) : ∀ u ∈ natV l, u.oneCell' = true := by
  intro u hu
  obtain ⟨x, _, rfl⟩ := List.mem_map.1 hu
  rfl

set_option maxRecDepth 8000 in
set_option maxHeartbeats 4000000 in
theorem div_less (b1 b2 ca cb : Nat) (A B : Option Addr) (la lb : List Nat) (w : World) (ha : RowN w b1 A ca la) (hb : RowN w b2 B cb lb) (La : Limbs la) (Lb : Limbs lb) (ta : Trimmed la) (tb : Trimmed lb) (hla : la.length ≤ 400000) (hlt : lV la < lV lb) :
    Calls Try.prog 49 #[.slice A la.length ca, .slice B lb.length cb] w (DivPost (lV la) (lV lb) w) := by
  obtain ⟨i0, hi, hz0, hz1, hz2⟩ := info_parts Try.infoI
  have hc := cmp_any b1 b2 ca cb A B la lb w ha hb La Lb ta tb (by omega)
  rw [show cmpI (lV la) (lV lb) = -1 from by unfold cmpI; rw [if_pos hlt]] at hc
  have HC := Lib.hid hc
  have HA := Lib.hid ha
  have HP : Hid (InP (lV la % lV lb) la ∧ InP (lV la / lV lb) []) := ⟨⟨La, ta, (Nat.mod_eq_of_lt hlt).symm⟩, ⟨Limbs.nil, .inl rfl, (Nat.div_eq_of_lt hlt).symm⟩⟩
  clear hc ha hb La Lb ta tb hlt
  obtain ⟨na, hna⟩ : ∃ n, la.length = n := ⟨_, rfl⟩
  obtain ⟨nb, hnb⟩ : ∃ n, lb.length = n := ⟨_, rfl⟩
  rw [hna] at hla
  rw [hna, hnb] at HC ⊢
  have HNA := Lib.hid hna
  clear hna hnb
  go_enter Try.func49, Try.ntmps49
  go_wp2_with fail
  refine HC.out.mono ?_
  rintro e w1 ⟨rfl, b⟩
  obtain ⟨r1, r2, r3⟩ := two_rows w w1 b
  have R1 := Lib.hid r1
  have R2 := Lib.hid r2
  have R3 := Lib.hid r3
  clear r1 r2 r3
  by_cases h0 : na = 0
  · have hl : la = [] := List.eq_nil_of_length_eq_zero (by rw [HNA.out]; exact h0)
    have Z : DivPost (lV la) (lV lb) w (.returned (.tuple #[.slice (some ⟨w1.heap.size, 0, none⟩) 0 0, .slice (some ⟨w1.heap.size + 1, 0, none⟩) 0 0])) ((w1.alloc (.cells #[] 3)).alloc (.cells #[] 3)) := by
      refine ⟨_, 0, [], _, 0, la, by rw [hl]; rfl, HP.out.2, HP.out.1, R1.out, ?_, R3.out⟩
      rw [hl]
      exact RowN.base (b := w1.heap.size + 1) R2.out (by have := b.size; omega)
    have hA := HA.out
    rw [hl] at hA
    have hf := hA.nil_form
    have HZ := Lib.hid Z
    subst h0
    clear Z hA hl HA HP R1 R2 R3 HC
    rcases hf with ⟨rfl, rfl⟩ | ⟨g, rfl⟩
    · go_wp2
      go_ret2
      exact HZ.out
    · go_wp2
      go_ret2
      exact HZ.out
  · have hn0 : 0 < na := by omega
    obtain ⟨g, rfl, _, hgl⟩ := HA.out.form (by rw [HNA.out]; exact hn0)
    have hnews : Hid (∀ j u, (natV la)[j]? = some u → ((w1.alloc (.cells #[] 3)).alloc (.cells #[] 3)).cell? ((⟨g, 0, none⟩ : Addr).add j) = some u) := by
      intro j u hj
      have hjl : j < la.length := by
        rcases Nat.lt_or_ge j la.length with h | h
        · exact h
        · rw [List.getElem?_eq_none (by rw [natV_length]; exact h)] at hj; cases hj
      obtain ⟨g', e, _, _, hc, _⟩ := (HA.out.below R3.out).at_ hjl
      injection e with e; injection e with e1; subst e1
      have e2 : (⟨g, 0, none⟩ : Addr).add j = ⟨g, j, none⟩ := by unfold Addr.add; split <;> simp_all
      rw [e2, hc, ← hj]
      simp [natV, hjl]
    have hbs := b.size
    have hlen : Hid ((natV la).length = na * 1) := by show _ = _; rw [natV_length, HNA.out]; omega
    go_wp2_with (at_builtin; refine wpList_append_lies _ rfl (.tmp 34) (.tmp 35) _ rfl (w1.heap.size + 1) 3 i0 (.int .i64 0) 1 8 Try.underlying55 hi hz0 hz1 hz2 rfl (by omega) _ 0 _ rfl R2.out ⟨g, 0, none⟩ na ca (natV la) rfl hlen.out hnews.out (natV_one la) hn0 (by unfold maxLen; omega) (by omega) (by simp) _ rfl ?_)
    intro g2 cp w2 hown1 hgrow hat hlt1
    have Z : DivPost (lV la) (lV lb) w (.returned (.tuple #[.slice (some ⟨w1.heap.size, 0, none⟩) 0 0, .slice (some ⟨g2, 0, none⟩) na cp])) w2 := by
      refine ⟨_, 0, [], _, cp, la, by rw [HNA.out]; rfl, HP.out.2, HP.out.1, ?_, ?_, ?_⟩
      · have h1 : RowN (w1.alloc (.cells #[] 3)) w.heap.size (some ⟨w1.heap.size, 0, none⟩) 0 [] := World.ownsRow_made _ #[] 0 b.size (by decide) rfl
        have h2 : Below (w1.alloc (.cells #[] 3)).heap.size (w1.alloc (.cells #[] 3)) ((w1.alloc (.cells #[] 3)).alloc (.cells #[] 3)) := (Below.refl _ _).alloc (Nat.le_refl _) _
        exact h1.below (h2.grown hgrow (by simp) fun k hk => by have := (World.ownsRow.lt R2.out k hk).1; simpa using this)
      · refine RowN.base (b := w1.heap.size + 1) ?_ (by omega)
        unfold RowN
        rw [HNA.out]
        exact hown1
      · exact R3.out.grown hgrow R3.out.size fun k hk => by have := (World.ownsRow.lt R2.out k hk).1; omega
    have HZ := Lib.hid Z
    clear Z hown1 hgrow hat hlt1
    go_wp2
    go_ret2
    exact HZ.out
end Go.Proofs.Ytkpcocdflcpnoaa
