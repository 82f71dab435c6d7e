/-
  The contracts of spec.RestOf, PowRest, InverseRest, NegRest, HalfRest.
-/
import Derived.Test.YtflfeepgkcamnaaGreatRSpec
namespace Go.Proofs.YtflfeepgkcamnaaGreat
open Go.RowKit

set_option maxRecDepth 8000 in
set_option maxHeartbeats 2000000 in
theorem restOf_any (a p : ByteArray) (w : World) : Calls Tryz.prog 87 #[.string a, .string p] w fun e w' => e = .returned (.string (restG a p)) ∧ Below w.heap.size w w' := by
  have HM := mod_any p
  have HA := greatOk_any a
  unfold restG
  cases hm : modB p with
  | false =>
    rw [hm] at HM
    rw [Bool.false_and, if_neg (by decide)]
    go_enter Tryz.func87, Tryz.ntmps87
    go_wp2_with fail
    refine (HM _).mono ?_
    rintro e w1 ⟨rfl, rfl⟩
    go_wp2
    go_ret
    exact ⟨rfl, Below.refl _ _⟩
  | true =>
    rw [hm] at HM
    rw [Bool.true_and]
    cases ha : okG a with
    | false =>
      rw [ha] at HA
      rw [if_neg (by decide)]
      go_enter Tryz.func87, Tryz.ntmps87
      go_wp2_with fail
      refine (HM _).mono ?_
      rintro e w1 ⟨rfl, rfl⟩
      go_wp2_with fail
      refine (HA _).mono ?_
      rintro e w1 ⟨rfl, rfl⟩
      go_wp2
      go_ret
      exact ⟨rfl, Below.refl _ _⟩
    | true =>
      rw [ha] at HA
      rw [if_pos rfl]
      obtain ⟨okp, h1⟩ := modB_parts hm
      have sa := okG_size ha
      have sp := okG_size okp
      have hsm := sm_one (gV_lt ha)
      have hpG := gV_lt okp
      obtain ⟨x, hx⟩ : ∃ x, gV a = x := ⟨_, rfl⟩
      obtain ⟨n, hn⟩ : ∃ n, gV p = n := ⟨_, rfl⟩
      have IA := Lib.hid (fun w => in_x a w (by omega))
      have IP := Lib.hid (fun w => in_x p w (by omega))
      rw [hx] at IA hsm
      rw [hn] at IP h1 hpG
      rw [hx, hn]
      clear hm ha okp hx hn
      go_enter Tryz.func87, Tryz.ntmps87
      go_wp2_with fail
      refine (HM _).mono ?_
      rintro e w1 ⟨rfl, rfl⟩
      go_wp2_with fail
      refine (HA _).mono ?_
      rintro e w1 ⟨rfl, rfl⟩
      clear HM HA
      go_wp2_with fail
      refine (IA.out _).mono ?_
      rintro e w2 ⟨u, rfl, hu, b2⟩
      obtain ⟨au, nu, cu, rfl⟩ := hu.shape
      have HU := Lib.hid hu
      clear hu IA
      go_wp2_with fail
      refine (IP.out _).mono ?_
      rintro e w4 ⟨q, rfl, hq, b4⟩
      obtain ⟨aq, nq, cq, rfl⟩ := hq.shape
      have L1 := Lib.hid (div_x (HU.out.below b4) hq hsm (by omega))
      have B4 := Lib.hid (bt b2 b4)
      clear hq IP HU b2 b4
      go_wp2_with fail
      refine L1.out.mono ?_
      rintro e w5 ⟨d, s, rfl, hd, hs, b5⟩
      obtain ⟨as', ns, cs, rfl⟩ := hs.shape
      obtain ⟨ad, nd, cd, rfl⟩ := hd.shape
      have O1 := Lib.hid (out_x hs (sm_one (Nat.lt_trans (Nat.mod_lt _ (by omega)) hpG)))
      have B5 := Lib.hid (bt B4.out b5)
      clear hs hd b5 L1 B4
      go_wp2_with fail
      refine O1.out.mono ?_
      rintro e w6 ⟨rfl, b6⟩
      have b7 := bt B5.out b6
      clear O1 b6 B5
      go_wp2
      go_ret
      exact ⟨rfl, b7⟩
def InvG (a p : ByteArray) (w : World) (e : Ending) (w' : World) : Prop := e = .returned (.tuple #[.string (invR a p), .bool (invB a p)]) ∧ Below w.heap.size w w'
theorem InvG.no {a p : ByteArray} {w w' : World} (h : invB a p = false) (b : Below w.heap.size w w') : InvG a p w (.returned (.tuple #[.string ⟨#[]⟩, .bool false])) w' := by
  unfold InvG invR; rw [h]; exact ⟨rfl, b⟩
theorem InvG.yes {a p : ByteArray} {w w' : World} {x : Nat} (h : invB a p = true) (hx : x < gV p) (e : x * gV a % gV p = 1) (b : Below w.heap.size w w') : InvG a p w (.returned (.tuple #[.string (gS x), .bool true])) w' := by
  unfold InvG invR; rw [h, if_pos rfl, invN_eq hx e]; exact ⟨rfl, b⟩
theorem bit_zero {p : ByteArray} (ok : okG p = true) (h : 1 < gV p) : bitG p 0 = ((gV p % 2 : Nat) : Int) := by
  unfold bitG
  have hs : 0 < p.size := by
    rcases Nat.eq_zero_or_pos p.size with e | e
    · have := gV_empty e; omega
    · exact e
  rw [ok, decide_eq_true (show (0 : Int) ≤ 0 by omega), decide_eq_true (show (0 : Int).toNat / 8 < p.size by simpa using hs)]
  simp
end Go.Proofs.YtflfeepgkcamnaaGreat
