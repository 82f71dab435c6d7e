/-
  The contracts of impl.mayBeFigures and of takeIn (a group of figures put behind those of a row).
-/
import Derived.Test.YtkpcocdflcpnoaaJText
import Derived.Test.YtkpcocdflcpnoaaTRead
namespace Go.Proofs.Ytkpcocdflcpnoaa
open Go.RowKit

/-! mayBeFigures -/
def mayB (t : ByteArray) : Bool := (decide (1 ≤ t.size) && decide (t.size ≤ 400)) && (decide (∀ c, t.data.toList.head? = some c → c.toNat ≠ 48) && t.data.toList.all isF)
def allF (t : ByteArray) : Bool := t.data.toList.all isF
theorem head_at {t : ByteArray} (h : 0 < t.size) : t.data.toList.head? = some t[0] := by
  have hl : 0 < t.data.toList.length := by rw [Array.length_toList]; exact h
  rw [List.head?_eq_getElem?, List.getElem?_eq_getElem hl]; rfl
theorem isF_no {c : UInt8} (h : isF c = false) : c.toNat < 48 ∨ 57 < c.toNat := by
  unfold isF at h
  by_cases h1 : 48 ≤ c.toNat
  · by_cases h2 : c.toNat ≤ 57
    · rw [decide_eq_true h1, decide_eq_true h2] at h; cases h
    · omega
  · omega
theorem isF_yes {c : UInt8} (h : isF c = true) : 48 ≤ c.toNat ∧ c.toNat ≤ 57 := by
  simpa [isF] using h
set_option maxHeartbeats 1000000 in
theorem mayBe_any (t : ByteArray) (w : World) : Calls Try.prog 35 #[.string t] w fun e w' => e = .returned (.bool (mayB t)) ∧ w = w' := by
  by_cases h0 : t.size = 0
  · have he : t.toList = [] := by have := isEmpty_size (s := t); rw [h0] at this; simpa using this
    have E : mayB t = false := by unfold mayB; rw [decide_eq_false (show ¬ 1 ≤ t.size by omega)]; rfl
    rw [E]
    clear h0 E
    go_enter Try.func35, Try.ntmps35
    go_wp2
    go_ret
    exact ⟨rfl, rfl⟩
  have he : t.toList.isEmpty = false := by rw [isEmpty_size]; simpa using h0
  by_cases h4 : 400 < t.size
  · have E : mayB t = false := by unfold mayB; rw [decide_eq_false (show ¬ t.size ≤ 400 by omega)]; simp
    have h4' : (400 : Int) < (t.size : Int) := by omega
    rw [E]
    clear h0 E
    go_enter Try.func35, Try.ntmps35
    go_wp2
    go_ret
    exact ⟨rfl, rfl⟩
  have h4' : ¬ (400 : Int) < (t.size : Int) := by omega
  have hp : 0 < t.size := by omega
  have hp' : (0 : Int) < (t.size : Int) := by omega
  have E0 : mayB t = (decide (∀ c, t.data.toList.head? = some c → c.toNat ≠ 48) && t.data.toList.all isF) := by
    unfold mayB; rw [decide_eq_true (show 1 ≤ t.size by omega), decide_eq_true (show t.size ≤ 400 by omega)]; rfl
  by_cases hz : t[0].toNat = 48
  · have E : mayB t = false := by
      rw [E0, decide_eq_false (fun h => h _ (head_at hp) hz)]; rfl
    have hz' : ((t[0].toNat : Int) == 48) = true := by simp [hz]
    rw [E]
    clear h0 E E0 hz
    go_enter Try.func35, Try.ntmps35
    go_wp2
    go_ret
    exact ⟨rfl, rfl⟩
  have hz' : ((t[0].toNat : Int) == 48) = false := by
    have : ¬ ((t[0].toNat : Int) = 48) := by omega
    simpa using this
  have E1 : mayB t = allF t := by
    unfold allF
    rw [E0, decide_eq_true (fun c hc => by rw [head_at hp] at hc; injection hc with hc; rw [← hc]; exact hz)]; rfl
  rw [E1]
  have hbl : t.data.toList.length = t.size := by simp
  have HBL := Lib.hid hbl
  clear E0 E1 h0 hz hbl
  go_enter Try.func35, Try.ntmps35
  go_wp2
  go_loop [18] (fun iv => ∃ i : Nat, i ≤ t.size ∧ iv = .int .i64 i ∧ Hid ((t.data.toList.take i).all isF = true)) (fun iv => t.size - (intOf iv).toNat)
  case atStart => exact ⟨0, Nat.zero_le _, rfl, rfl⟩
  case round =>
    obtain ⟨i, hi, rfl, hA⟩ := hrel
    by_cases hlt : i < t.size
    · have hlt' : (i : Int) < (t.size : Int) := by omega
      have hib : i < t.data.toList.length := by rw [HBL.out]; exact hlt
      have eb : t.data.toList[i] = t[i] := rfl
      have hgt : (0 : Int) ≤ (t[i].toNat : Int) := by omega
      cases hf : isF t[i] with
      | true =>
        obtain ⟨f1, f2⟩ := isF_yes hf
        have d1 : ¬ (t[i].toNat : Int) < 48 := by omega
        have d2 : ¬ (57 : Int) < (t[i].toNat : Int) := by omega
        have hN : Hid ((t.data.toList.take (i + 1)).all isF = true) := by
          show _ = _
          rw [List.take_succ_eq_append_getElem hib, List.all_append, hA.out, eb]
          simpa using hf
        clear hf f1 f2 hA
        go_wp2
        go_round
        case rel => exact ⟨i + 1, by omega, by go_num, hN⟩
        case measure => simp [intOf]; omega
      | false =>
        have E : Hid (allF t = false) := by
          show _ = _
          unfold allF
          rw [← Bool.not_eq_true]
          intro h
          have := List.all_eq_true.1 h t[i] (by rw [← eb]; exact List.getElem_mem hib)
          rw [hf] at this; cases this
        rcases isF_no hf with f1 | f1
        · have d1 : (t[i].toNat : Int) < 48 := by omega
          clear hf hA
          go_wp2
          go_ret
          exact ⟨congrArg (fun x => Ending.returned (Value.bool x)) E.out.symm, rfl⟩
        · have d1 : ¬ (t[i].toNat : Int) < 48 := by omega
          have d2 : (57 : Int) < (t[i].toNat : Int) := by omega
          clear hf hA
          go_wp2
          go_ret
          exact ⟨congrArg (fun x => Ending.returned (Value.bool x)) E.out.symm, rfl⟩
    · obtain rfl : i = t.size := by omega
      have hlt' : ¬ (t.size : Int) < (t.size : Int) := by omega
      have E : Hid (allF t = true) := by
        show _ = _
        unfold allF
        have := hA.out
        rw [List.take_of_length_le (by rw [HBL.out]; exact Nat.le_refl _)] at this
        exact this
      clear hA
      go_wp2
      go_ret
      exact ⟨congrArg (fun x => Ending.returned (Value.bool x)) E.out.symm, rfl⟩

/-! takeIn -/
theorem fV_append (a b : List UInt8) : fV (a ++ b) = fV a * 10 ^ b.length + fV b := by
  have : fV (a ++ b) = b.foldl (fun a c => 10 * a + dgv c) (fV a) := by unfold fV; rw [List.foldl_append]
  rw [this, fV_acc]
/-- What lies in the row behind i limbs. -/
structure ScW (l0 : List Nat) (F C i m : Nat) (Q : List Nat) : Prop where
  lim : W.Limbs Q
  len : Q.length = 81
  car : m < F
  val : W.lV Q + W.lV (l0.take i) + 4294967296 ^ i * m = W.lV l0 + F * W.lV (l0.take i) + C
  rest : ∀ j, i ≤ j → Q.getD j 0 = l0.getD j 0
theorem ScW.start {l0 : List Nat} {F C : Nat} (h : W.Limbs l0) (hl : l0.length = 81) (hC : C < F) : ScW l0 F C 0 C l0 :=
  ⟨h, hl, hC, by simp [W.lV], fun _ _ => rfl⟩
theorem ScW.next {l0 Q : List Nat} {F C i m n x : Nat} (h : ScW l0 F C i m Q) (hi : i < 81) (hx : l0.getD i 0 = x) (hxl : x < 4294967296) (hn : m + F * x = n) : ScW l0 F C (i + 1) (n / 4294967296) (Q.set i (n % 4294967296)) := by
  have hu : n % 4294967296 < 4294967296 := Nat.mod_lt _ (by omega)
  have hs := W.lV_set Q i (n % 4294967296) (by rw [h.len]; exact hi)
  rw [h.rest i (Nat.le_refl _), hx] at hs
  refine ⟨h.lim.set _ hu, by rw [List.length_set]; exact h.len, ?_, ?_, fun j hj => by rw [W.getD_set_ne _ (by omega)]; exact h.rest j (by omega)⟩
  · rw [Nat.div_lt_iff_lt_mul (by omega)]
    have h1 := h.car
    have h2 : F * x ≤ F * 4294967295 := Nat.mul_le_mul_left _ (by omega)
    have h3 : F * 4294967296 = F * 4294967295 + F := by rw [show 4294967296 = 4294967295 + 1 from rfl, Nat.mul_add, Nat.mul_one]
    omega
  · rw [W.lV_take_succ, hx, Nat.pow_succ, Nat.mul_add, Nat.mul_assoc]
    have hv := h.val
    have e : n % 4294967296 + 4294967296 * (n / 4294967296) = n := Nat.mod_add_div n _
    have e2 : 4294967296 ^ i * (n % 4294967296) + 4294967296 ^ i * (4294967296 * (n / 4294967296)) = 4294967296 ^ i * m + F * (4294967296 ^ i * x) := by
      rw [← Nat.mul_add, e, ← hn, Nat.mul_add, Nat.mul_left_comm]
    omega
theorem ScW.done {l0 Q : List Nat} {F C c m : Nat} (h : ScW l0 F C c m Q) (hv : RV l0 c) (hc : c ≤ 79) (hF : F ≤ 1000000000) : W.Limbs (Q.set c m) ∧ (Q.set c m).length = 81 ∧ W.lV (Q.set c m) = W.lV l0 * F + C ∧ ∀ j, c + 1 ≤ j → (Q.set c m).getD j 0 = 0 := by
  have hs := W.lV_set Q c m (by rw [h.len]; omega)
  rw [h.rest c (Nat.le_refl _), hv.zero c (Nat.le_refl _), Nat.mul_zero, Nat.add_zero] at hs
  have hval := h.val
  have hcar := h.car
  rw [W.lV_take_all hv.zero] at hval
  refine ⟨h.lim.set _ (by omega), by rw [List.length_set]; exact h.len, ?_, fun j hj => by rw [W.getD_set_ne _ (by omega), h.rest j (by omega)]; exact hv.zero j (by omega)⟩
  rw [hs, Nat.mul_comm (W.lV l0) F]
  omega
theorem gr_set {w wr : World} {g k : Nat} {v : Value} (h : w.grownBy wr (some g)) : w.grownBy (wr.setCell ⟨g, k, none⟩ v) (some g) :=
  ⟨h.os, h.tape, h.output, by rw [World.size_setCell]; exact h.size, fun i hi hr => (Below.heap_setCell _ _ _ _ (fun e => hr (by rw [e]))).trans (h.block i hi hr)⟩
theorem gr_dr {w wr : World} {row : Option Nat} (h : w.grownBy wr row) (k : Nat) : w.grownBy (wr.drewN k) row := ⟨h.os, h.tape, h.output, h.size, h.block⟩
def TakePost (g : Nat) (l : List Nat) (ds : List UInt8) (w : World) (e : Ending) (w' : World) : Prop :=
  ∃ (l' : List Nat) (c' : Nat), e = .returned (.tuple #[]) ∧ RowI w' g l' c' ∧ RV l' c' ∧ W.lV l' = W.lV l * 10 ^ ds.length + fV ds ∧ w.grownBy w' (some g)
theorem dig_wrap {u : UInt8} {d : Nat} (hf : isF u = true) (hd : dgv u = d) : IntKind.u8.wrap ((u.toNat : Int) - 48) = (d : Int) ∧ (u.toNat : Int) - 48 = (d : Int) ∧ d < 10 := by
  obtain ⟨f1, f2⟩ := isF_yes hf
  have := dgv_eq u
  refine ⟨?_, by omega, by omega⟩
  rw [IntKind.wrap_u8]; omega
/-- What the first loop holds behind i figures. -/
structure GrpW (ds : List UInt8) (i F C : Nat) : Prop where
  fac : F = 10 ^ i
  val : C = fV (ds.take i)
theorem GrpW.next {ds : List UInt8} {i F C d : Nat} (h : GrpW ds i F C) (hi : i < ds.length) (hd : dgv (ds.getD i 0) = d) : GrpW ds (i + 1) (F * 10) (10 * C + d) := by
  refine ⟨by rw [h.fac, Nat.pow_succ], ?_⟩
  rw [List.take_succ_eq_append_getElem hi, fV_snoc, ← h.val]
  rw [List.getD_eq_getElem?_getD, List.getElem?_eq_getElem hi] at hd
  rw [← hd]; rfl
theorem GrpW.bd {ds : List UInt8} {i F C : Nat} (h : GrpW ds i F C) (hf : ds.all isF = true) (hi : i ≤ ds.length) (h9 : i ≤ 9) : C < F ∧ F ≤ 1000000000 ∧ (i ≤ 8 → F ≤ 100000000) := by
  have h1 := fV_lt (ds.take i) (List.all_eq_true.2 fun x hx => List.all_eq_true.1 hf x (List.mem_of_mem_take hx))
  rw [List.length_take, Nat.min_eq_left hi, ← h.val, ← h.fac] at h1
  refine ⟨h1, ?_, fun h8 => ?_⟩
  · rw [h.fac]
    exact Nat.le_trans (Nat.pow_le_pow_right (by omega) h9) (by decide)
  · rw [h.fac]
    exact Nat.le_trans (Nat.pow_le_pow_right (by omega) h8) (by decide)
theorem sc_bd {m F x n : Nat} (hm : m < F) (hF : F ≤ 1000000000) (hx : x < 4294967296) (hn : m + F * x = n) : (F : Int) * (x : Int) = ((n - m : Nat) : Int) ∧ n < 4294967296000000000 ∧ n / 4294967296 < 4294967296 := by
  have h1 : F * x ≤ 1000000000 * 4294967295 := Nat.mul_le_mul hF (by omega)
  refine ⟨?_, by omega, by omega⟩
  rw [show n - m = F * x from by omega]
  simp
set_option maxRecDepth 8000 in
set_option maxHeartbeats 4000000 in
theorem takeIn_any (g c b off cap k : Nat) (l : List Nat) (ds : List UInt8) (w : World) (h : RowI w g l c) (hv : RV l c) (hc : c ≤ 79) (hk : ds.length = k) (hk9 : k ≤ 9) (hf : ds.all isF = true)
    (hcell : ∀ i, i < k → w.cell? ⟨b, off + i, none⟩ = some (.int .u8 ((ds.getD i 0).toNat : Int))) :
    Calls Try.prog 37 #[.pointer (some ⟨g, 0, none⟩), .slice (some ⟨b, off, none⟩) k cap] w (TakePost g l ds w) := by
  have H := Lib.hid h
  have HV := Lib.hid hv
  have HK := Lib.hid hk
  have HF := Lib.hid hf
  have HC := Lib.hid hcell
  have hgl := h.lt
  clear h hv hk hf hcell
  go_enter Try.func37, Try.ntmps37
  go_wp2
  go_loop [4, 5, 11] (fun fv cv iv => ∃ i F C : Nat, i ≤ k ∧ fv = .int .u64 F ∧ cv = .int .u64 C ∧ iv = .int .i64 i ∧ Hid (GrpW ds i F C)) (fun _ _ iv => k - (intOf iv).toNat)
  case atStart => exact ⟨0, 1, 0, Nat.zero_le _, rfl, rfl, rfl, ⟨rfl, rfl⟩⟩
  case round =>
    obtain ⟨i, F, C, hi, rfl, rfl, rfl, hW⟩ := hrel
    by_cases hlt : i < k
    · have hlt' : (i : Int) < (k : Int) := by omega
      have hcl := HC.out i hlt
      obtain ⟨b1, _, b2⟩ := hW.out.bd HF.out (by rw [HK.out]; omega) (by omega)
      have b3 := b2 (by omega)
      obtain ⟨d, hd⟩ : ∃ d, dgv (ds.getD i 0) = d := ⟨_, rfl⟩
      have hfi : isF (ds.getD i 0) = true := by
        have hib : i < ds.length := by rw [HK.out]; exact hlt
        have := List.all_eq_true.1 HF.out ds[i] (List.getElem_mem hib)
        rw [List.getD_eq_getElem?_getD, List.getElem?_eq_getElem hib]; exact this
      have HN := Lib.hid (hW.out.next (by rw [HK.out]; exact hlt) hd)
      obtain ⟨w1, w2, w3⟩ := dig_wrap hfi hd
      generalize ds.getD i 0 = u at *
      clear hd hfi b2 hW
      go_wp2
      go_round
      case rel => exact ⟨i + 1, F * 10, 10 * C + d, by omega, by go_num, by go_num, by go_num, HN⟩
      case measure => simp [intOf]; omega
    · obtain rfl : i = k := by omega
      have hlt' : ¬ (i : Int) < (i : Int) := by omega
      obtain ⟨b1, b2, _⟩ := hW.out.bd HF.out (by rw [HK.out]; omega) (by omega)
      have HS := Lib.hid (ScW.start HV.out.lim H.out.len b1)
      have HG0 : Hid (w.grownBy w (some g)) := ⟨rfl, rfl, rfl, Nat.le_refl _, fun _ _ _ => rfl⟩
      have hE : W.lV l * F + C = W.lV l * 10 ^ ds.length + fV ds := by
        rw [hW.out.fac, hW.out.val, HK.out, List.take_of_length_le (by rw [HK.out]; exact Nat.le_refl _)]
      have HE := Lib.hid hE
      obtain ⟨x1, _⟩ := H.out.cnt
      clear hW hE HC hlt
      go_wp2
      clear x1
      go_loopw [5, 28] (fun cv jv wr => ∃ (j m : Nat) (Q : List Nat), j ≤ c ∧ cv = .int .u64 m ∧ jv = .int .i64 j ∧ Hid (ScW l F C j m Q) ∧ Hid (RowI wr g Q c) ∧ Hid (w.grownBy wr (some g))) (fun _ jv _ => c - (intOf jv).toNat)
      case atStart => exact ⟨0, C, l, Nat.zero_le _, rfl, rfl, HS, H, HG0⟩
      case round =>
        clear HS HG0
        obtain ⟨j, m, Q, hj, rfl, rfl, hS, hR, hG⟩ := hrel
        have hcar := hS.out.car
        by_cases hjc : j < c
        · have hjc' : (j : Int) < (c : Int) := by omega
          have hj81 : (j : Int) < 81 := by omega
          obtain ⟨x1, f1⟩ := hR.out.cell (k := j) (by omega)
          rw [hS.out.rest j (Nat.le_refl _)] at x1
          obtain ⟨x, hx⟩ : ∃ x, l.getD j 0 = x := ⟨_, rfl⟩
          have hxl : x < 4294967296 := by rw [← hx]; exact W.getD_lt HV.out.lim j
          rw [hx] at x1
          obtain ⟨n, hn⟩ : ∃ n, m + F * x = n := ⟨_, rfl⟩
          have hNx := hS.out.next (by omega) hx hxl hn
          obtain ⟨m1, m2, m3⟩ := sc_bd hcar b2 hxl hn
          obtain ⟨p, hp⟩ : ∃ p, n - m = p := ⟨_, rfl⟩
          rw [hp] at m1
          have hmp : (m : Int) + (p : Int) = (n : Int) := by omega
          obtain ⟨u, hu⟩ : ∃ u, n % 4294967296 = u := ⟨_, rfl⟩
          obtain ⟨v, hv⟩ : ∃ v, n / 4294967296 = v := ⟨_, rfl⟩
          rw [hu, hv] at hNx
          rw [hv] at m3
          obtain ⟨u1, u2⟩ := u32_of hu
          have u3 : (n : Int) / 4294967296 = (v : Int) := by omega
          have p2 : p < 4294967296000000000 := by omega
          have HN := Lib.hid hNx
          have HR2 := Lib.hid (hR.out.set (k := j) u (by omega))
          have HG2 := Lib.hid (gr_set (k := j) (v := .int .u32 (u : Int)) hG.out)
          clear hx hn hu hv hNx hS hR hG hp
          go_wp2
          go_roundw
          case rel => exact ⟨j + 1, v, Q.set j u, by omega, rfl, by go_num, HN, HR2, HG2⟩
          case measure => simp [intOf]; omega
        · obtain rfl : j = c := by omega
          have hjc' : ¬ (j : Int) < (j : Int) := by omega
          have hD := hS.out.done HV.out hc b2
          obtain ⟨x1, x2⟩ := hR.out.cnt
          obtain ⟨y1, f1⟩ := hR.out.cell (k := j) (by omega)
          generalize Q.getD j 0 = z at *
          have u1 : IntKind.u32.wrap (m : Int) = (m : Int) := by rw [IntKind.wrap_u32]; omega
          have HR2 := ((hR.out.other (w' := wr.drewN 1) rfl).set (k := j) m (by omega))
          have HG2 := (gr_set (k := j) (v := .int .u32 (m : Int)) (gr_dr hG.out 1))
          have hj81 : (j : Int) < 81 := by omega
          have hj0 : (0 : Int) ≤ (j : Int) := by omega
          change RowI (wr.drew.setCell _ _) g _ _ at HR2
          change w.grownBy (wr.drew.setCell _ _) _ at HG2
          have HRR := Lib.hid HR2
          have HGG := Lib.hid HG2
          have HDD := Lib.hid hD
          clear HR2 HG2 hD hS hR hG
          go_wp2_with fail
          go_still_tail 10, (by kernel_rfl)
          change wpList _ _ _ _ _ wr.drew
          change wr.drew.cell? _ = _ at y1
          change wr.drew.frozen? _ = _ at f1
          obtain ⟨z1, z2⟩ := HRR.out.cnt
          have HC2 := Lib.hid (countBelow_any g j (j + 1) (Q.set j m) _ HRR.out (by omega))
          clear x1 x2
          generalize wr.drew = wr at *
          go_wp2_with fail
          refine HC2.out.mono ?_
          rintro e w1 ⟨cc, hcc, rfl, rfl⟩
          have HR3 := HRR.out.setC cc
          have HG3 := gr_set (k := 81) (v := .int .i64 (cc : Int)) HGG.out
          have R : Hid (TakePost g l ds w (.returned (.tuple #[])) ((wr.setCell ⟨g, j, none⟩ (.int .u32 (m : Int))).setCell ⟨g, 81, none⟩ (.int .i64 (cc : Int)))) :=
            ⟨Q.set j m, cc, rfl, HR3, hcc.right HDD.out.1 HDD.out.2.2.2, HDD.out.2.2.1.trans HE.out, HG3⟩
          clear HR3 HG3 HRR HGG HC2 hcc z1 z2 y1 f1
          go_wp2
          go_end0
          exact R.out
end Go.Proofs.Ytkpcocdflcpnoaa
