/-
  The contracts of spec's functions of chapter 5.
-/
import Derived.Test.YtdbjjnbmbeabeaaGreatSMath
namespace Go.Proofs.YtdbjjnbmbeabeaaGreat
open Go.RowKit

theorem limbsOf_any (p : ByteArray) (w : World) : Calls Tryz.prog 54 #[.string p] w fun e w' => e = .returned (.int .i64 (limbG p)) ∧ w = w' := by
  have HG := greatOk_any p
  unfold limbG limbN
  cases ok : okG p with
  | false =>
    rw [ok] at HG
    rw [if_neg (by decide)]
    go_enter Tryz.func54, Tryz.ntmps54
    go_wp2_with fail
    refine (HG _).mono ?_
    rintro e w1 ⟨rfl, rfl⟩
    go_wp2
    go_ret
    exact ⟨rfl, rfl⟩
  | true =>
    rw [ok] at HG
    rw [if_pos rfl]
    have hs := okG_size ok
    obtain ⟨L, hL⟩ : ∃ L, (p.size + 2) / 3 = L := ⟨_, rfl⟩
    rw [hL]
    have e1 : Hid (((p.size : Int) + 2) / 3 = (L : Int)) := by show _ = _; omega
    clear hL
    go_enter Tryz.func54, Tryz.ntmps54
    go_wp2_with fail
    refine (HG _).mono ?_
    rintro e w1 ⟨rfl, rfl⟩
    go_wp2
    go_ret
    exact ⟨congrArg (fun x => Ending.returned (Value.int .i64 x)) e1.out, rfl⟩
theorem odd_any (p : ByteArray) (w : World) : Calls Tryz.prog 26 #[.string p] w fun e w' => e = .returned (.bool (oddB p)) ∧ w = w' := by
  have HM := mod_any p
  unfold oddB
  cases hm : modB p with
  | false =>
    rw [hm] at HM
    rw [Bool.false_and]
    go_enter Tryz.func26, Tryz.ntmps26
    go_wp2_with fail
    refine (HM _).mono ?_
    rintro e w1 ⟨rfl, rfl⟩
    go_wp2
    go_ret
    exact ⟨rfl, rfl⟩
  | true =>
    rw [hm] at HM
    obtain ⟨okp, h1⟩ := modB_parts hm
    have HBt := fun w => bitOf_any p 0 w (by omega)
    rw [bit_zero okp h1] at HBt
    rw [Bool.true_and]
    by_cases ho : gV p % 2 = 1
    · rw [decide_eq_true ho]
      rw [ho] at HBt
      clear ho okp h1 hm
      go_enter Tryz.func26, Tryz.ntmps26
      go_wp2_with fail
      refine (HM _).mono ?_
      rintro e w1 ⟨rfl, rfl⟩
      go_wp2_with fail
      refine (HBt _).mono ?_
      rintro e w1 ⟨rfl, rfl⟩
      go_wp2
      go_ret
      exact ⟨rfl, rfl⟩
    · rw [decide_eq_false ho]
      rw [show gV p % 2 = 0 from by omega] at HBt
      clear ho okp h1 hm
      go_enter Tryz.func26, Tryz.ntmps26
      go_wp2_with fail
      refine (HM _).mono ?_
      rintro e w1 ⟨rfl, rfl⟩
      go_wp2_with fail
      refine (HBt _).mono ?_
      rintro e w1 ⟨rfl, rfl⟩
      go_wp2
      go_ret
      exact ⟨rfl, rfl⟩
theorem lV_zeros24 : ∀ n, lV (List.replicate n 0) = 0
  | 0 => rfl
  | n + 1 => by rw [List.replicate_succ, lV_cons, lV_zeros24 n]
theorem top_in (L : Nat) : InP (16777216 ^ L) (List.replicate L 0 ++ [1]) :=
  ⟨Limbs.snoc (fun x hx => by have := List.eq_of_mem_replicate hx; omega) (by omega), .inr ⟨_, 1, rfl, by omega⟩, by rw [lV_snoc, lV_zeros24, List.length_replicate]; omega⟩
theorem top_set (L : Nat) : (List.replicate (L + 1) 0).set L 1 = List.replicate L 0 ++ [1] := by
  rw [List.replicate_succ', List.set_append_right _ _ (by simp)]
  simp
theorem natV_set' (l : List Nat) (k x : Nat) : (natV l).set k (.int .i64 (x : Int)) = natV (l.set k x) := by simp [natV, List.map_set]
set_option maxRecDepth 8000 in
set_option maxHeartbeats 2000000 in
theorem shift_x (p : ByteArray) (w : World) (ho : oddB p = true) : Calls Tryz.prog 28 #[.string p] w (RowTo (shN p) w) := by
  obtain ⟨hm, _⟩ := oddB_parts ho
  obtain ⟨okp, h1⟩ := modB_parts hm
  have sp := okG_size okp
  obtain ⟨i0, hi, hz0, hz1, hz2⟩ := info_parts Tryz.infoI
  have HL := fun w => limbsOf_any p w
  have EL : limbG p = (limbN p : Int) := by unfold limbG; rw [okp]; rfl
  rw [EL] at HL
  have hLs : limbN p ≤ 54 := by unfold limbN; omega
  have IP := Lib.hid (fun w => in_x p w (by omega))
  unfold shN
  obtain ⟨n, hn⟩ : ∃ n, gV p = n := ⟨_, rfl⟩
  generalize limbN p = L at *
  rw [hn] at IP h1 ⊢
  have hsm : 16777216 ^ L < SM := Nat.pow_lt_pow_right (by omega) (by omega)
  have HSM := Lib.hid hsm
  clear ho hm okp EL hn hsm sp
  go_enter Tryz.func28, Tryz.ntmps28
  go_wp2_with fail
  refine (HL _).mono ?_
  rintro e w1 ⟨rfl, rfl⟩
  go_wp2_with (at_make; refine wpList_make_full _ rfl _ _ 47 rfl w.heap.size 3 i0 (.int .i64 0) 1 Tryz.underlying47 hi hz0 hz1 .i64 .i64 _ _ (L + 1) rfl rfl (by omega) (by omega) (by rw [hz2]; omega) (by unfold maxLen; omega) (Nat.le_refl _) ?_; intro w0 hown0 hgrow0)
  have hb0 : Below w.heap.size w w0 := (Below.refl _ _).grown hgrow0 (Nat.le_refl _) (fun k hk => by cases hk)
  have hO0 : w0.ownsRow w.heap.size 3 1 (.slice (some ⟨w.heap.size, 0, none⟩) (L + 1) (L + 1)) (L + 1) (natV (List.replicate (L + 1) 0)) := by
    have e : natV (List.replicate (L + 1) 0) = (madeCells (Value.cells (.int .i64 0)) ((L + 1) * 1)).toList := by
      have := toList_madeCells_one (.int .i64 0) ((L + 1) * 1)
      simp only [Value.cells] at this ⊢
      rw [this]
      simp [natV]
    rw [e]; exact hown0
  have S1 := (hO0.stored L (.int .i64 ((1 : Nat) : Int))).1
  rw [natV_set', top_set] at S1
  have R1 : RowX (w0.setCell ⟨w.heap.size, L, none⟩ (.int .i64 ((1 : Nat) : Int))) (.slice (some ⟨w.heap.size, 0, none⟩) (L + 1) (L + 1)) (16777216 ^ L) :=
    ⟨w.heap.size, some ⟨w.heap.size, 0, none⟩, L + 1, List.replicate L 0 ++ [1], by simp, by unfold RowN; simpa using S1, top_in L⟩
  have HR1 := Lib.hid R1
  have HB1 := Lib.hid (hb0.setCell (p := ⟨w.heap.size, L, none⟩) (Nat.le_refl _) (.int .i64 ((1 : Nat) : Int)))
  obtain ⟨v, hcv⟩ : ∃ v, w0.cell? ⟨w.heap.size, L, none⟩ = some v := ⟨_, (hO0.cellAt L (by omega)).trans (List.getElem?_eq_getElem (by rw [hO0.1]; omega))⟩
  have hfv := hO0.frozenAt L
  have q1 : (L : Int) < (L : Int) + 1 := by omega
  clear hown0 hgrow0 hO0 S1 R1 hb0
  go_wp2_with fail
  refine (HL _).mono ?_
  rintro e w1 ⟨rfl, rfl⟩
  go_wp2_with fail
  refine (IP.out _).mono ?_
  rintro e w2 ⟨q, rfl, hq, b2⟩
  obtain ⟨aq, nq, cq, rfl⟩ := hq.shape
  have D1 := Lib.hid (div_x (HR1.out.below b2) hq HSM.out (by omega))
  have B2 := Lib.hid (bt HB1.out b2)
  clear hq b2 HR1 HB1 IP hcv hfv
  go_wp2_with fail
  refine D1.out.mono ?_
  rintro e w3 ⟨d, s, rfl, _, hs, b3⟩
  have R : Hid (RowTo (16777216 ^ L % n) w (.returned s) w3) := ⟨s, rfl, hs, bt B2.out b3⟩
  clear hs b3 D1 B2
  go_wp2
  go_ret
  exact R.out
end Go.Proofs.YtdbjjnbmbeabeaaGreat
