/-
  The walk of laws.FnByteWays: at every text and every width.
-/
import Derived.Test.YtkpcocdflcpnoaaGTold
import Derived.Test.YtkpcocdflcpnoaaJBytes
namespace Go.Proofs.Ytkpcocdflcpnoaa
open Go.RowKit

def Yes (w : World) (e : Ending) (w' : World) : Prop := e = .returned (.bool true) ∧ Below w.heap.size w w'
theorem ok_five : okG ⟨#[5]⟩ = true := rfl
theorem first_five : firstG ⟨#[5]⟩ 2 = ⟨#[0, 5]⟩ := rfl
theorem last_five : lastG ⟨#[5]⟩ 2 = ⟨#[5, 0]⟩ := rfl
theorem empty_of {s : ByteArray} (h : s.size = 0) : s = ⟨#[]⟩ := by
  obtain ⟨⟨l⟩⟩ := s
  have : l = [] := List.eq_nil_of_length_eq_zero h
  rw [this]
theorem last_none {s : ByteArray} {x : Int} (h : (firstG s x).size = 0) : lastG s x = ⟨#[]⟩ := by
  unfold lastG; rw [empty_of h]; rfl
theorem first_some {s : ByteArray} {x : Int} (h : (firstG s x).size ≠ 0) : ∃ k : Nat, x = (k : Int) ∧ (firstG s x).size = k ∧ (lastG s x).size = k ∧ fromG (firstG s x) = s ∧ fromL (lastG s x) = s := by
  cases hw : wideB s x with
  | false => exact absurd (by unfold firstG; rw [hw]; rfl) h
  | true =>
    have hw2 := hw
    simp only [wideB, Bool.and_eq_true, decide_eq_true_eq] at hw2
    obtain ⟨⟨ok, h1⟩, h2⟩ := hw2
    obtain ⟨k, rfl⟩ : ∃ k : Nat, x = (k : Int) := ⟨x.toNat, by omega⟩
    have E : firstG s (k : Int) = txt (List.replicate (k - s.size) 0 ++ s.data.toList) := by unfold firstG; rw [hw, if_pos rfl, Int.toNat_natCast]
    have hsl : s.data.toList.length = s.size := by simp
    have hS : (firstG s (k : Int)).size = k := by rw [E, txt_size, List.length_append, List.length_replicate, hsl]; omega
    have hF : fromG (firstG s (k : Int)) = s := by
      unfold fromG
      rw [if_pos (by rw [hS]; omega), E]
      have : gV (txt (List.replicate (k - s.size) 0 ++ s.data.toList)) = gV s := by unfold gV; rw [txt_list, bN_zeros]
      rw [this, gS_gV ok]
    refine ⟨k, rfl, hS, ?_, hF, ?_⟩
    · unfold lastG
      rw [txt_size, List.length_reverse, Array.length_toList]; exact hS
    · unfold fromL lastG
      rw [txt_list, List.reverse_reverse, txt_of, hF]
theorem last_at {s : ByteArray} {x : Int} {k i j : Nat} (h1 : (firstG s x).size = k) (h2 : (lastG s x).size = k) (hi : i < k) (hj : k - 1 - i = j) : (firstG s x)[i]'(by omega) = (lastG s x)[j]'(by omega) := by
  have hl : (firstG s x).data.toList.length = k := by rw [Array.length_toList]; exact h1
  have e1 : (firstG s x)[i]'(by omega) = (firstG s x).data.toList[i]'(by omega) := rfl
  have e2 : (lastG s x)[j]'(by omega) = (firstG s x).data.toList.reverse[j]'(by rw [List.length_reverse]; omega) := rfl
  rw [e1, e2, List.getElem_reverse]
  congr 1
  omega
theorem last_at2 {s : ByteArray} {x : Int} {k : Nat} (h1 : (firstG s x).size = k) (h2 : (lastG s x).size = k) : ∀ i j (hi : i < (firstG s x).size) (hj : j < (lastG s x).size), k - 1 - i = j → (firstG s x)[i] = (lastG s x)[j] :=
  fun _ _ hi _ e => last_at h1 h2 (by omega) e
set_option maxRecDepth 8000 in
set_option maxHeartbeats 4000000 in
theorem ways_walk (a0 : Option Addr) (len0 cap0 : Nat) (z0 : List Int) (w : World) (w0 : IsRow .u8 w a0 len0 cap0 z0) :
    Calls Try.prog 4 #[.slice a0 len0 cap0] w (Yes w) := by
  have hlen : len0 ≤ maxLen := by rcases w0 with ⟨_, rfl, _⟩ | ⟨_, _, h1, h2, _⟩ <;> unfold maxLen at * <;> omega
  have HBig := Lib.hid (big_g a0 len0 cap0 w hlen)
  by_cases h1 : 1048576 < len0
  · have hd : decide ((1048576 : Int) < (len0 : Int)) = true := by simp; omega
    clear w0 hlen
    go_enter Try.func4, Try.ntmps4
    go_wp2_with fail
    refine HBig.out.mono ?_
    rintro e w' ⟨rfl, rfl⟩
    go_wp2
    go_ret
    exact ⟨rfl, Below.refl _ _⟩
  have hd : decide ((1048576 : Int) < (len0 : Int)) = false := by simp; omega
  have HD := Lib.hid (drawFirst_c a0 len0 cap0 w (w0.draw (by omega)))
  clear w0 hlen h1
  go_enter Try.func4, Try.ntmps4
  go_wp2_with fail
  refine HBig.out.mono ?_
  rintro e w' ⟨rfl, rfl⟩
  go_wp2_with fail
  refine HD.out.mono ?_
  rintro e w1 ⟨s, x, rfl, b1⟩
  clear HBig HD hd
  have H1 := Lib.hid (firstBytes_i s x)
  have H2 := Lib.hid (lastBytes_i s x)
  by_cases hS : (firstG s x).size = 0
  · have he := empty_of hS
    have he2 := last_none hS
    have H3 := Lib.hid (firstBytes_any s x)
    have H4 := Lib.hid (firstBytes_i ⟨#[5]⟩ 2)
    have H5 := Lib.hid (lastBytes_i ⟨#[5]⟩ 2)
    rw [he] at H1 H3
    rw [he2] at H2
    rw [first_five] at H4
    rw [last_five] at H5
    clear hS he he2
    go_wp2_with fail
    refine (H1.out _).mono ?_
    rintro e w2 ⟨rfl, b2⟩
    go_wp2_with fail
    refine (H2.out _).mono ?_
    rintro e w3 ⟨rfl, b3⟩
    go_wp2_with fail
    refine (H3.out _).mono ?_
    rintro e w4 ⟨rfl, b4⟩
    go_wp2_with fail
    refine (H4.out _).mono ?_
    rintro e w5 ⟨rfl, b5⟩
    go_wp2_with fail
    refine (H5.out _).mono ?_
    rintro e w6 ⟨rfl, b6⟩
    have bb := bt (bt (bt (bt (bt b1 b2) b3) b4) b5) b6
    clear H1 H2 H3 H4 H5 b1 b2 b3 b4 b5 b6
    go_wp2
    go_ret
    exact ⟨rfl, bb⟩
  · have he : (firstG s x).toList.isEmpty = false := by rw [isEmpty_size]; simpa using hS
    obtain ⟨k, rfl, s1, s2, s3, s4⟩ := first_some hS
    have HF := Lib.hid (fromFirst_i (firstG s (k : Int)))
    have HL := Lib.hid (fun w => fromLast_i (lastG s (k : Int)) w (by have := firstG_size s (k : Int); omega))
    have HA := Lib.hid (last_at2 s1 s2)
    have hk : k ≤ 160 := by have := firstG_size s (k : Int); omega
    rw [s3] at HF
    rw [s4] at HL
    clear hS s3 s4
    generalize firstG s (k : Int) = a at *
    generalize lastG s (k : Int) = b at *
    go_wp2_with fail
    refine (H1.out _).mono ?_
    rintro e w2 ⟨rfl, b2⟩
    go_wp2_with fail
    refine (H2.out _).mono ?_
    rintro e w3 ⟨rfl, b3⟩
    have b13 := bt (bt b1 b2) b3
    clear H1 H2 b1 b2 b3
    go_wp2
    go_loopw [7] (fun iv wr => ∃ i : Nat, i ≤ k ∧ iv = .int .i64 i ∧ Hid (Below w.heap.size w wr)) (fun iv _ => k - (intOf iv).toNat)
    case atStart => exact ⟨0, Nat.zero_le _, rfl, b13⟩
    case round =>
      clear b13
      obtain ⟨i, hik, rfl, hB⟩ := hrel
      by_cases hlt : i < k
      · obtain ⟨j, hj⟩ : ∃ j, k - 1 - i = j := ⟨_, rfl⟩
        have q1 : (i : Int) < (a.size : Int) := by omega
        have q2 : (a.size : Int) = (b.size : Int) := by omega
        have q3 : (b.size : Int) - 1 - (i : Int) = (j : Int) := by omega
        have q4 : (j : Int) < (b.size : Int) := by omega
        have hia : i < a.size := by omega
        have hjb : j < b.size := by omega
        have hab : a[i] = b[j] := HA.out i j hia hjb hj
        have q5 : IntKind.i64.wrap ((b.size : Int) - 1) = (b.size : Int) - 1 := IntWalk.i64_in _ (by omega)
        have q6 : IntKind.i64.wrap ((b.size : Int) - 1 - (i : Int)) = (j : Int) := by rw [IntWalk.i64_in _ (by omega)]; omega
        have q7 : (0 : Int) ≤ (i : Int) := by omega
        have q8 : (0 : Int) ≤ (j : Int) := by omega
        have hab2 : ((a[i].toNat : Int) != (b[j].toNat : Int)) = false := by rw [hab]; simp
        have r5 : IntKind.i64.wrap ((k : Int) - 1) = (k : Int) - 1 := IntWalk.i64_in _ (by omega)
        have r6 : IntKind.i64.wrap ((k : Int) - 1 - (i : Int)) = (j : Int) := by rw [IntWalk.i64_in _ (by omega)]; omega
        have r7 : (j : Int) < (k : Int) := by omega
        have r8 : (i : Int) < (k : Int) := by omega
        clear hj hab
        go_wp2
        go_quiet (fail)
        have HB2 := Lib.hid (bdN hB.out nq)
        clear q5 q6 r5 r6 hB
        generalize wr.drewN nq = w5 at *
        go_wp2
        go_roundw
        case rel => exact ⟨i + 1, by omega, by go_num, HB2⟩
        case measure => simp [intOf]; omega
      · obtain rfl : i = k := by omega
        have q1 : ¬ (i : Int) < (a.size : Int) := by omega
        have r1 : ¬ (i : Int) < (i : Int) := by omega
        clear HA
        go_wp2_with fail
        refine (HF.out _).mono ?_
        rintro e w5 ⟨rfl, rfl⟩
        go_wp2_with fail
        refine (HL.out _).mono ?_
        rintro e w6 ⟨rfl, b6⟩
        have bb := bt hB.out b6
        clear HF HL b6 hB
        go_wp2
        go_ret
        exact ⟨rfl, bb⟩
end Go.Proofs.Ytkpcocdflcpnoaa
