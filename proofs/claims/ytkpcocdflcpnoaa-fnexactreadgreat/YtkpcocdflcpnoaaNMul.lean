/-
  The contract of spec.l02Mul.
-/
import Derived.Test.YtkpcocdflcpnoaaNAdd
namespace Go.Proofs.Ytkpcocdflcpnoaa
open Go.RowKit

theorem lV_set : ∀ (l : List Nat) (k v : Nat), k < l.length → lV (l.set k v) + 16777216 ^ k * l.getD k 0 = lV l + 16777216 ^ k * v
  | [], _, _, h => by simp at h
  | x :: r, 0, v, _ => by
    simp only [List.set_cons_zero, lV_cons, List.getD_cons_zero]; omega
  | x :: r, k + 1, v, h => by
    have ih := lV_set r k v (by simpa using h)
    rw [List.set_cons_succ, lV_cons, lV_cons, List.getD_cons_succ, Nat.pow_succ, Nat.mul_comm (16777216 ^ k) 16777216, Nat.mul_assoc, Nat.mul_assoc]
    omega
theorem Limbs.set {l : List Nat} (h : Limbs l) (k : Nat) {v : Nat} (hv : v < 16777216) : Limbs (l.set k v) := fun y hy => by
  rcases List.mem_or_eq_of_mem_set hy with hy | rfl
  · exact h y hy
  · exact hv
theorem getD_set_ne {l : List Nat} {k j : Nat} (v : Nat) (h : k ≠ j) : (l.set k v).getD j 0 = l.getD j 0 := by
  simp only [List.getD_eq_getElem?_getD]
  rw [List.getElem?_set_ne h]
def MulRel (la lb : List Nat) (i : Nat) (O : List Nat) : Prop := Limbs O ∧ O.length = la.length + lb.length ∧ lV O = lV (la.take i) * lV lb ∧ ∀ j, i + lb.length ≤ j → O.getD j 0 = 0
def MulIn (la lb : List Nat) (i : Nat) (O : List Nat) (k c : Nat) (Q : List Nat) : Prop :=
  Limbs Q ∧ Q.length = O.length ∧ lV Q + 16777216 ^ (i + k) * c = lV O + la.getD i 0 * 16777216 ^ i * lV (lb.take k) ∧ ∀ j, i + k ≤ j → Q.getD j 0 = O.getD j 0
theorem MulIn.next {la lb O Q : List Nat} {i k c n : Nat} (h : MulIn la lb i O k c Q) (hk : i + k < Q.length) (hn : n = Q.getD (i + k) 0 + la.getD i 0 * lb.getD k 0 + c) :
    MulIn la lb i O (k + 1) (n / 16777216) (Q.set (i + k) (n % 16777216)) := by
  obtain ⟨h1, h2, h3, h4⟩ := h
  refine ⟨h1.set _ (by omega), by simp [h2], ?_, fun j hj => by rw [getD_set_ne _ (by omega)]; exact h4 j (by omega)⟩
  have hs := lV_set Q (i + k) (n % 16777216) hk
  have e : 16777216 ^ (i + k) * (n % 16777216) + 16777216 ^ (i + (k + 1)) * (n / 16777216) = 16777216 ^ (i + k) * n := by
    rw [show i + (k + 1) = i + k + 1 from by omega, Nat.pow_succ, Nat.mul_assoc, ← Nat.mul_add]; congr 1; omega
  have e2 : 16777216 ^ (i + k) * n = 16777216 ^ (i + k) * Q.getD (i + k) 0 + la.getD i 0 * 16777216 ^ i * (16777216 ^ k * lb.getD k 0) + 16777216 ^ (i + k) * c := by
    rw [hn, Nat.mul_add, Nat.mul_add, Nat.pow_add]
    congr 2
    simp only [Nat.mul_assoc, Nat.mul_comm, Nat.mul_left_comm]
  rw [lV_take_succ, Nat.mul_add]
  omega
theorem MulIn.done {la lb O Q : List Nat} {i c : Nat} (hO : MulRel la lb i O) (h : MulIn la lb i O lb.length c Q) (hi : i < la.length) (hc : c < 16777216) : MulRel la lb (i + 1) (Q.set (i + lb.length) c) := by
  obtain ⟨h1, h2, h3, h4⟩ := h
  obtain ⟨o1, o2, o3, o4⟩ := hO
  have hlt : i + lb.length < Q.length := by rw [h2, o2]; omega
  have hz : Q.getD (i + lb.length) 0 = 0 := by rw [h4 _ (Nat.le_refl _)]; exact o4 _ (Nat.le_refl _)
  refine ⟨h1.set _ hc, by rw [List.length_set, h2, o2], ?_, fun j hj => ?_⟩
  · have hs := lV_set Q (i + lb.length) c hlt
    rw [hz, Nat.mul_zero, Nat.add_zero] at hs
    rw [hs, h3, o3, List.take_of_length_le (Nat.le_refl _), lV_take_succ, Nat.add_mul]
    congr 1
    rw [Nat.mul_comm (la.getD i 0)]
  · rw [getD_set_ne _ (by omega), h4 j (by omega)]
    exact o4 j (by omega)

/-- A limb stored into a row. -/
theorem natV_stored {w : World} {base g cap n : Nat} {l : List Nat} (h : w.ownsRow base 3 1 (.slice (some ⟨g, 0, none⟩) n cap) n (natV l)) (j v : Nat) :
    (w.setCell ⟨g, j, none⟩ (.int .i64 (v : Int))).ownsRow base 3 1 (.slice (some ⟨g, 0, none⟩) n cap) n (natV (l.set j v)) := by
  have := (h.stored j (.int .i64 (v : Int))).1
  have e : natV (l.set j v) = (natV l).set j (.int .i64 (v : Int)) := by simp [natV, List.map_set]
  rw [e]; exact this

set_option maxHeartbeats 4000000 in
theorem mul_any (b1 b2 ca cb : Nat) (A B : Option Addr) (la lb : List Nat) (w : World) (ha : RowN w b1 A ca la) (hb : RowN w b2 B cb lb) (La : Limbs la) (Lb : Limbs lb) (hla : la.length ≤ 500000) (hlb : lb.length ≤ 500000) :
    Calls Try.prog 46 #[.slice A la.length ca, .slice B lb.length cb] w (RowPost (InP (lV la * lV lb)) w) := by
  obtain ⟨i0, hi, hz0, hz1, hz2⟩ := info_parts Try.infoI
  have HA := Lib.hid ha
  have HB := Lib.hid hb
  have HLA := Lib.hid La
  have HLB := Lib.hid Lb
  obtain ⟨na, hna⟩ : ∃ n, la.length = n := ⟨_, rfl⟩
  obtain ⟨nb, hnb⟩ : ∃ n, lb.length = n := ⟨_, rfl⟩
  obtain ⟨N, hN⟩ : ∃ N, na + nb = N := ⟨_, rfl⟩
  rw [hnb] at hlb
  rw [hna] at hla
  rw [hna, hnb]
  have HNA := Lib.hid hna
  have HNB := Lib.hid hnb
  have HN := Lib.hid hN
  have N1 : na + nb ≤ N := by omega
  have N2 : N ≤ na + nb := by omega
  clear ha hb La Lb hna hnb hN
  have hand := andL
  go_enter Try.func46, Try.ntmps46
  go_wp2_with (at_make; refine wpList_make_full _ rfl _ _ 55 rfl w.heap.size 3 i0 (.int .i64 0) 1 Try.underlying55 hi hz0 hz1 .i64 .i64 _ _ N rfl rfl (by omega) (by omega) (by rw [hz2]; omega) (by unfold maxLen; omega) (Nat.le_refl _) ?_; intro w0 hown0 hgrow0)
  have hb0 : Below w.heap.size w w0 := (Below.refl _ _).grown hgrow0 (Nat.le_refl _) (fun k hk => by cases hk)
  have HO0 : Hid (w0.ownsRow w.heap.size 3 1 (.slice (some ⟨w.heap.size, 0, none⟩) N N) N (natV (List.replicate N 0))) := by
    have e : natV (List.replicate N 0) = (madeCells (Value.cells (.int .i64 0)) (N * 1)).toList := by
      have := toList_madeCells_one (.int .i64 0) (N * 1)
      simp only [Value.cells] at this ⊢
      rw [this]
      simp [natV]
    show w0.ownsRow _ _ _ _ _ _
    rw [e]; exact hown0
  have HM0 : Hid (MulRel la lb 0 (List.replicate N 0)) := by
    refine ⟨fun x hx => by have := List.eq_of_mem_replicate hx; omega, by rw [List.length_replicate, HNA.out, HNB.out]; omega, ?_, fun j _ => ?_⟩
    · have : ∀ n, lV (List.replicate n 0) = 0 := by
        intro n
        induction n with
        | zero => rfl
        | succ n ih => rw [List.replicate_succ, lV_cons, ih]
      rw [this]; simp [lV]
    · simp only [List.getD_eq_getElem?_getD, List.getElem?_replicate]; split <;> rfl
  clear hown0 hgrow0
  go_loopw [6] (fun iv wr => ∃ (i : Nat) (O : List Nat), i ≤ na ∧ iv = .int .i64 i ∧ Hid (MulRel la lb i O) ∧ Hid (wr.ownsRow w.heap.size 3 1 (.slice (some ⟨w.heap.size, 0, none⟩) N N) N (natV O)) ∧ Below w.heap.size w wr) (fun iv _ => na - (intOf iv).toNat)
  case atStart => exact ⟨0, _, by omega, rfl, HM0, HO0, hb0⟩
  case round =>
    clear HO0 hb0 HM0
    obtain ⟨i, O, hin, rfl, hM, hO, hb⟩ := hrel
    have hbs := hb.size
    by_cases hlt : i < na
    · have hia : i < la.length := by rw [HNA.out]; exact hlt
      have hlt' : (i : Int) < (na : Int) := by omega
      have hdi : decide (i < na) = true := by simpa using hlt
      go_wp2
      go_loopw [7, 8] (fun cv kv ws => ∃ (k c : Nat) (Q : List Nat), k ≤ nb ∧ c < 16777216 ∧ kv = .int .i64 k ∧ cv = .int .i64 c ∧ Hid (MulIn la lb i O k c Q) ∧ Hid (ws.ownsRow w.heap.size 3 1 (.slice (some ⟨w.heap.size, 0, none⟩) N N) N (natV Q)) ∧ Below w.heap.size w ws) (fun _ kv _ => nb - (intOf kv).toNat)
      case atStart => exact ⟨0, 0, O, by omega, by omega, rfl, rfl, ⟨hM.out.1, rfl, by simp [lV], fun _ _ => rfl⟩, hO, hb⟩
      case round =>
        obtain ⟨k, c, Q, hkn, hc, rfl, rfl, hI, hQ, hbw⟩ := hrel
        have hbws := hbw.size
        have hQl : Q.length = N := by rw [hI.out.2.1, hM.out.2.1, HNA.out, HNB.out]; exact HN.out
        by_cases hk : k < nb
        · have hkb : k < lb.length := by rw [HNB.out]; exact hk
          obtain ⟨gb, rfl, _, _, c2, _⟩ := (HB.out.below hbw).at_ hkb
          obtain ⟨ga, rfl, _, _, c1, _⟩ := (HA.out.below hbw).at_ hia
          have hik : i + k < N := by omega
          have hikQ : i + k < Q.length := by omega
          have c3 : wr.cell? ⟨w.heap.size, i + k, none⟩ = some (.int .i64 (Q[i + k] : Int)) := by
            rw [hQ.out.cellAt (i + k) (by omega)]
            simp [natV, hikQ]
          have f3 := hQ.out.frozenAt (i + k)
          have xa := HLA.out.get hia
          have xb := HLB.out.get hkb
          have xq := hI.out.1.get hikQ
          have hN2 := hI.out.next (n := Q[i + k] + la[i] * lb[k] + c) hikQ (by rw [getD_eq hikQ, getD_eq hia, getD_eq hkb])
          obtain ⟨p, hp⟩ : ∃ p, la[i] * lb[k] = p := ⟨_, rfl⟩
          have hpb : p ≤ 16777215 * 16777215 := by rw [← hp]; exact Nat.mul_le_mul (by omega) (by omega)
          have hpi : (la[i] : Int) * (lb[k] : Int) = (p : Int) := by rw [← hp]; simp
          rw [hp] at hN2
          obtain ⟨n, hn⟩ : ∃ n, Q[i + k] + p + c = n := ⟨_, rfl⟩
          rw [hn] at hN2
          obtain ⟨y, hy⟩ : ∃ y, n % 16777216 = y := ⟨_, rfl⟩
          obtain ⟨z, hz⟩ : ∃ z, n / 16777216 = z := ⟨_, rfl⟩
          rw [hy, hz] at hN2
          have HN2 := Lib.hid hN2
          have hzl : z < 16777216 := by omega
          have HS := Lib.hid (natV_stored hQ.out (i + k) y)
          have g2 : (n : Int) % 16777216 = (y : Int) := by omega
          have g3 : (n : Int) / 16777216 = (z : Int) := by omega
          have q1 : IntKind.i64.wrap ((la[i] : Int) * (lb[k] : Int)) = (p : Int) := by rw [hpi]; exact IntWalk.i64_in _ (by omega)
          have q2 : IntKind.i64.wrap ((Q[i + k] : Int) + (p : Int)) = (Q[i + k] : Int) + (p : Int) := IntWalk.i64_in _ (by omega)
          have q3 : IntKind.i64.wrap ((Q[i + k] : Int) + (p : Int) + (c : Int)) = (n : Int) := by rw [IntWalk.i64_in _ (by omega)]; omega
          have q0 : IntKind.i64.wrap ((i : Int) + (k : Int)) = (i : Int) + (k : Int) := IntWalk.i64_in _ (by omega)
          have q4 : 0 ≤ (i : Int) + (k : Int) := by omega
          have q5 : ((i : Int) + (k : Int)).toNat = i + k := by omega
          have q6 : (i : Int) + (k : Int) < (N : Int) := by omega
          have q7 : (k : Int) < (nb : Int) := by omega
          have q8 : (0 : Int) ≤ (k : Int) := by omega
          have q9 : (0 : Int) ≤ (i : Int) := by omega
          clear hp hn hy hz hN2 hpi hI hQ
          generalize Q[i + k] = xQ at *
          generalize la[i] = xA at *
          generalize lb[k] = xB at *
          go_wp2_with fail
          go_quiet (fail)
          clear q0 q1 q2 q3
          go_wp2
          go_roundw
          case rel => exact ⟨k + 1, z, Q.set (i + k) y, by omega, hzl, by go_num, rfl, HN2, HS, (bd hbw _).setCell (p := ⟨w.heap.size, i + k, none⟩) (Nat.le_refl _) _⟩
          case measure => simp [intOf]; omega
        · obtain rfl : k = nb := by omega
          have hk' : ¬ (k : Int) < (k : Int) := by omega
          have hI2 := hI.out
          rw [← HNB.out] at hI2
          have hD := hI2.done hM.out hia hc
          rw [HNB.out] at hD
          have HD := Lib.hid hD
          have HS := Lib.hid (natV_stored hQ.out (i + k) c)
          have hik : i + k < N := by omega
          have hikQ : i + k < Q.length := by omega
          have c3 : wr.cell? ⟨w.heap.size, i + k, none⟩ = some (.int .i64 (Q[i + k] : Int)) := by
            rw [hQ.out.cellAt (i + k) (by omega)]
            simp [natV, hikQ]
          have f3 := hQ.out.frozenAt (i + k)
          have q6 : (i : Int) + (k : Int) < (N : Int) := by omega
          have q5 : ((i : Int) + (k : Int)).toNat = i + k := by omega
          generalize Q[i + k] = xQ at *
          clear hI2 hD hI hQ
          go_wp2
          go_roundw
          case rel => exact ⟨i + 1, Q.set (i + k) c, by omega, by go_num, HD, HS, hbw.setCell (p := ⟨w.heap.size, i + k, none⟩) (Nat.le_refl _) _⟩
          case measure => simp [intOf]; omega
    · obtain rfl : i = na := by omega
      have hlt' : ¬ (i : Int) < (i : Int) := by omega
      have hOl : O.length = N := by rw [hM.out.2.1, HNA.out, HNB.out]; exact HN.out
      have hP : Hid (Limbs O ∧ lV O = lV la * lV lb) := by
        refine ⟨hM.out.1, ?_⟩
        rw [hM.out.2.2.1, List.take_of_length_le (by rw [HNA.out]; omega)]
      have hO2 : RowN wr w.heap.size (some ⟨w.heap.size, 0, none⟩) N O := by unfold RowN; rw [hOl]; exact hO.out
      have hTr := trim_any _ N _ O wr hO2 (by rw [hOl]; omega)
      rw [hOl] at hTr
      have HT := Lib.hid hTr
      have HO2 := Lib.hid hO2
      have HOL := Lib.hid hOl
      clear hTr hO2 hOl hM hO
      go_wp2_with (go_at_call 44; refine HT.out.mono ?_; rintro e w1 ⟨m, hm, rfl, rfl, hv, ht⟩)
      go_ret
      have hL : (O.take m).length = m := by rw [List.length_take]; omega
      exact ⟨_, N, O.take m, by rw [hL]; rfl, ⟨hP.out.1.take m, ht, by rw [hv]; exact hP.out.2⟩, HO2.out.take hm, hb⟩
end Go.Proofs.Ytkpcocdflcpnoaa
