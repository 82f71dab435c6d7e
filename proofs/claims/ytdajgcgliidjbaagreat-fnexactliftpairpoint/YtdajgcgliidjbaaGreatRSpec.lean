import Derived.Test.YtdajgcgliidjbaaGreatRInv
set_option maxRecDepth 8000
set_option maxHeartbeats 2000000
namespace Go.Proofs.YtdajgcgliidjbaaGreat
open Go.RowKit
def modB (p : ByteArray) : Bool := okG p && decide (1 < gV p)
def restB (a p : ByteArray) : Bool := okG a && (okG p && decide (gV a < gV p))
def twoB (a b p : ByteArray) : Bool := modB p && (restB a p && restB b p)
def addR (a b p : ByteArray) : ByteArray := if twoB a b p then gS ((gV a + gV b) % gV p) else ⟨#[]⟩
def subR (a b p : ByteArray) : ByteArray := if twoB a b p then gS ((gV a + gV p - gV b) % gV p) else ⟨#[]⟩
def mulR (a b p : ByteArray) : ByteArray := if twoB a b p then gS (gV a * gV b % gV p) else ⟨#[]⟩
def oneB (a p : ByteArray) : Bool := modB p && restB a p
def powR (a n p : ByteArray) : ByteArray := if oneB a p && okG n then gS (gV a ^ gV n % gV p) else ⟨#[]⟩
def negR (a p : ByteArray) : ByteArray := subR ⟨#[]⟩ a p
def halfB (a p : ByteArray) : Bool := oneB a p && decide (gV p % 2 = 1)
def halfN (x n : Nat) : Nat := if x % 2 = 1 then (x + n) / 2 else x / 2
def halfR (a p : ByteArray) : ByteArray := if halfB a p then gS (halfN (gV a) (gV p)) else ⟨#[]⟩
def invN (a n : Nat) : Nat := ((List.range n).find? (fun x => x * a % n == 1)).getD 0
def invB (a p : ByteArray) : Bool := oneB a p && decide (Nat.gcd (gV p) (gV a) = 1)
def invR (a p : ByteArray) : ByteArray := if invB a p then gS (invN (gV a) (gV p)) else ⟨#[]⟩
theorem modB_parts {p : ByteArray} (h : modB p = true) : okG p = true ∧ 1 < gV p := by simpa [modB] using h
theorem restB_parts {a p : ByteArray} (h : restB a p = true) : okG a = true ∧ okG p = true ∧ gV a < gV p := by simpa [restB] using h
theorem twoB_parts {a b p : ByteArray} (h : twoB a b p = true) : modB p = true ∧ restB a p = true ∧ restB b p = true := by simpa [twoB] using h
theorem inv_unique {a n x y : Nat} (hx : x < n) (hy : y < n) (h1 : x * a % n = 1) (h2 : y * a % n = 1) : x = y := by
 have e1 : x * (y * a) % n = x := by rw [Nat.mul_mod, h2, Nat.mul_one, Nat.mod_mod, Nat.mod_eq_of_lt hx]
 have e2 : y * (x * a) % n = y := by rw [Nat.mul_mod, h1, Nat.mul_one, Nat.mod_mod, Nat.mod_eq_of_lt hy]
 exact e1.symm.trans ((by rw [Nat.mul_left_comm] : x * (y * a) % n = y * (x * a) % n).trans e2)
theorem invN_eq {a n x : Nat} (hx : x < n) (h : x * a % n = 1) : invN a n = x := by
 unfold invN
 cases hf : (List.range n).find? (fun x => x * a % n == 1) with
 | none =>
  have := List.find?_eq_none.1 hf x (List.mem_range.2 hx)
  simp [h] at this
 | some y =>
  have h1 := List.find?_some hf
  have h2 := List.mem_range.1 (List.mem_of_find?_eq_some hf)
  exact inv_unique h2 hx (by simpa using h1) h
theorem one_of {p : ByteArray} (ok : okG p = true) : (p.toList == [1]) = decide (gV p = 1) := by
 rw [ByteArray.toList_eq, Bool.eq_iff_iff]
 simp only [beq_iff_eq, decide_eq_true_eq]
 constructor
 ·intro e; unfold gV; rw [e]; rfl
 ·intro e
  have h := gS_gV ok
  rw [e] at h
  have h2 : gT 1 = [1] := by rw [gT_pos (by omega), show 1 / 256 = 0 from rfl, gT_zero]; rfl
  have h3 := congrArg (fun t => t.data.toList) h
  simp only [gS_list, h2] at h3
  exact h3.symm
theorem zero_of {p : ByteArray} (ok : okG p = true) : p.toList.isEmpty = decide (gV p = 0) := by
 rw [isEmpty_size, Bool.eq_iff_iff]
 simp only [decide_eq_true_eq]
 constructor
 ·exact gV_empty
 ·intro e
  rcases Nat.eq_zero_or_pos p.size with h | h
  ·exact h
  ·have := gV_pos ok h; omega
theorem mod_any (p : ByteArray) (w : World) : Calls Tryz.prog 60 #[.string p] w fun e w' => e = .returned (.bool (modB p)) ∧ w = w' := by
 have HG := greatOk_any p
 cases ok : okG p with
 | false =>
  have E : modB p = false := by unfold modB; rw [ok]; rfl
  rw [E]
  rw [ok] at HG
  clear E
  go_enter Tryz.func60, Tryz.ntmps60
  go_wp2_with fail
  refine (HG _).mono ?_
  rintro e w1 ⟨rfl, rfl⟩
  go_wp2
  go_ret
  exact ⟨rfl, rfl⟩
 | true =>
  rw [ok] at HG
  have z := zero_of ok
  have o := one_of ok
  by_cases h0 : gV p = 0
  ·have E : modB p = false := by unfold modB; rw [ok, h0]; rfl
   rw [E]
   rw [decide_eq_true h0] at z
   have z2 : p.toList = [] := by simpa using z
   clear E o h0
   go_enter Tryz.func60, Tryz.ntmps60
   go_wp2_with fail
   refine (HG _).mono ?_
   rintro e w1 ⟨rfl, rfl⟩
   go_wp2
   go_ret
   exact ⟨rfl, rfl⟩
  ·rw [decide_eq_false h0] at z
   by_cases h1 : gV p = 1
   ·have E : modB p = false := by unfold modB; rw [ok, h1]; rfl
    rw [E]
    rw [decide_eq_true h1] at o
    have o2 : p.toList = [1] := by simpa using o
    clear E h0 h1
    go_enter Tryz.func60, Tryz.ntmps60
    go_wp2_with fail
    refine (HG _).mono ?_
    rintro e w1 ⟨rfl, rfl⟩
    go_wp2
    go_ret
    exact ⟨rfl, rfl⟩
   ·have E : modB p = true := by unfold modB; rw [ok, decide_eq_true (by omega)]; rfl
    rw [E]
    rw [decide_eq_false h1] at o
    have o2 : (p.toList != [1]) = true := by simp only [bne, o]; rfl
    clear E h0 h1
    go_enter Tryz.func60, Tryz.ntmps60
    go_wp2_with fail
    refine (HG _).mono ?_
    rintro e w1 ⟨rfl, rfl⟩
    go_wp2
    go_ret
    exact ⟨rfl, rfl⟩
theorem restOk_any (a p : ByteArray) (w : World) : Calls Tryz.prog 61 #[.string a, .string p] w fun e w' => e = .returned (.bool (restB a p)) ∧ Below w.heap.size w w' := by
 have HA := greatOk_any a
 have HB := greatOk_any p
 cases ha : okG a with
 | false =>
  have E : restB a p = false := by unfold restB; rw [ha]; rfl
  rw [E]
  rw [ha] at HA
  clear E
  go_enter Tryz.func61, Tryz.ntmps61
  go_wp2_with fail
  refine (HA _).mono ?_
  rintro e w1 ⟨rfl, rfl⟩
  go_wp2
  go_ret
  exact ⟨rfl, Below.refl _ _⟩
 | true =>
  rw [ha] at HA
  cases hp : okG p with
  | false =>
   have E : restB a p = false := by unfold restB; rw [ha, hp]; rfl
   rw [E]
   rw [hp] at HB
   clear E
   go_enter Tryz.func61, Tryz.ntmps61
   go_wp2_with fail
   refine (HA _).mono ?_
   rintro e w1 ⟨rfl, rfl⟩
   go_wp2_with fail
   refine (HB _).mono ?_
   rintro e w1 ⟨rfl, rfl⟩
   go_wp2
   go_ret
   exact ⟨rfl, Below.refl _ _⟩
  | true =>
   rw [hp] at HB
   have E : restB a p = decide (gV a < gV p) := by unfold restB; rw [ha, hp]; rfl
   rw [E]
   have sa := okG_size ha
   have sp := okG_size hp
   have hsm := sm_one (gV_lt ha)
   have hcm : decide (cmpI (gV a) (gV p) < 0) = decide (gV a < gV p) := by rw [Bool.eq_iff_iff]; simp only [decide_eq_true_eq]; exact cmp_lt
   rw [← hcm]
   clear E hcm
   go_enter Tryz.func61, Tryz.ntmps61
   go_wp2_with fail
   refine (HA _).mono ?_
   rintro e w1 ⟨rfl, rfl⟩
   go_wp2_with fail
   refine (HB _).mono ?_
   rintro e w1 ⟨rfl, rfl⟩
   go_wp2_with fail
   refine (in_x a _ (by omega)).mono ?_
   rintro e w1 ⟨u, rfl, hu, b1⟩
   obtain ⟨au, nu, cu, rfl⟩ := hu.shape
   have HU := Lib.hid hu
   clear hu HA HB
   go_wp2_with fail
   refine (in_x p _ (by omega)).mono ?_
   rintro e w2 ⟨v, rfl, hv, b2⟩
   obtain ⟨av, nv, cv, rfl⟩ := hv.shape
   have C1 := Lib.hid (cmp_x (HU.out.below b2) hv hsm)
   have b3 := bt b1 b2
   clear hv HU b1 b2
   go_wp2_with fail
   refine C1.out.mono ?_
   rintro e w3 ⟨rfl, b4⟩
   have b5 := bt b3 b4
   clear C1 b3 b4
   go_wp2
   go_ret
   exact ⟨rfl, b5⟩
theorem two_any (a b p : ByteArray) (w : World) : Calls Tryz.prog 165 #[.string a, .string b, .string p] w fun e w' => e = .returned (.bool (twoB a b p)) ∧ Below w.heap.size w w' := by
 have HM := mod_any p
 have HA := restOk_any a p
 have HB := restOk_any b p
 unfold twoB
 cases hm : modB p with
 | false =>
  rw [hm] at HM
  go_enter Tryz.func165, Tryz.ntmps165
  go_wp2_with fail
  refine (HM _).mono ?_
  rintro e w1 ⟨rfl, rfl⟩
  go_wp2
  go_ret
  exact ⟨rfl, Below.refl _ _⟩
 | true =>
  rw [hm] at HM
  cases ha : restB a p with
  | false =>
   rw [ha] at HA
   go_enter Tryz.func165, Tryz.ntmps165
   go_wp2_with fail
   refine (HM _).mono ?_
   rintro e w1 ⟨rfl, rfl⟩
   go_wp2_with fail
   refine (HA _).mono ?_
   rintro e w1 ⟨rfl, b1⟩
   go_wp2
   go_ret
   exact ⟨rfl, b1⟩
  | true =>
   rw [ha] at HA
   rw [Bool.true_and, Bool.true_and]
   go_enter Tryz.func165, Tryz.ntmps165
   go_wp2_with fail
   refine (HM _).mono ?_
   rintro e w1 ⟨rfl, rfl⟩
   go_wp2_with fail
   refine (HA _).mono ?_
   rintro e w1 ⟨rfl, b1⟩
   go_wp2_with fail
   refine (HB _).mono ?_
   rintro e w2 ⟨rfl, b2⟩
   have b3 := bt b1 b2
   clear b1 b2 HM HA HB
   go_wp2
   go_ret
   exact ⟨rfl, b3⟩
theorem subRest_any (a b p : ByteArray) (w : World) : Calls Tryz.prog 127 #[.string a, .string b, .string p] w fun e w' => e = .returned (.string (subR a b p)) ∧ Below w.heap.size w w' := by
 have HT := Lib.hid (two_any a b p)
 unfold subR
 cases ht : twoB a b p with
 | false =>
  rw [ht] at HT
  rw [if_neg (by decide)]
  go_enter Tryz.func127, Tryz.ntmps127
  go_wp2_with fail
  refine (HT.out _).mono ?_
  rintro e w1 ⟨rfl, b1⟩
  go_wp2
  go_ret
  exact ⟨rfl, b1⟩
 | true =>
  rw [ht] at HT
  rw [if_pos rfl]
  obtain ⟨hm, hra, hrb⟩ := twoB_parts ht
  obtain ⟨okp, h1⟩ := modB_parts hm
  obtain ⟨oka, _, hap⟩ := restB_parts hra
  obtain ⟨okb, _, hbp⟩ := restB_parts hrb
  have sa := okG_size oka
  have sb := okG_size okb
  have sp := okG_size okp
  have hpG := gV_lt okp
  obtain ⟨x, hx⟩ : ∃ x, gV a = x := ⟨_, rfl⟩
  obtain ⟨y, hy⟩ : ∃ y, gV b = y := ⟨_, rfl⟩
  obtain ⟨n, hn⟩ : ∃ n, gV p = n := ⟨_, rfl⟩
  have IA := Lib.hid (fun w => in_x a w (by omega))
  have IB := Lib.hid (fun w => in_x b w (by omega))
  have IP := Lib.hid (fun w => in_x p w (by omega))
  rw [hx] at IA
  rw [hy] at IB
  rw [hn] at IP
  rw [hx, hy, hn]
  rw [hx, hn] at hap
  rw [hy, hn] at hbp
  rw [hn] at h1 hpG
  clear ht hm hra hrb oka okb okp hx hy hn
  go_enter Tryz.func127, Tryz.ntmps127
  go_wp2_with fail
  refine (HT.out _).mono ?_
  rintro e w1 ⟨rfl, b1⟩
  clear HT
  go_wp2_with fail
  refine (IA.out _).mono ?_
  rintro e w2 ⟨u, rfl, hu, b2⟩
  obtain ⟨au, nu, cu, rfl⟩ := hu.shape
  have HU := Lib.hid hu
  clear hu IA
  go_wp2_with fail
  refine (IB.out _).mono ?_
  rintro e w3 ⟨v, rfl, hv, b3⟩
  obtain ⟨av, nv, cv, rfl⟩ := hv.shape
  have HV := Lib.hid hv
  have HU3 := Lib.hid (HU.out.below b3)
  clear hv IB HU
  go_wp2_with fail
  refine (IP.out _).mono ?_
  rintro e w4 ⟨q, rfl, hq, b4⟩
  obtain ⟨aq, nq, cq, rfl⟩ := hq.shape
  have L1 := Lib.hid (lsub_x (HU3.out.below b4) (HV.out.below b4) hq hap hbp hpG)
  have B4 := Lib.hid (bt (bt (bt b1 b2) b3) b4)
  clear hq IP HU3 HV b1 b2 b3 b4
  go_wp2_with fail
  refine L1.out.mono ?_
  rintro e w5 ⟨s, rfl, hs, b5⟩
  obtain ⟨as', ns, cs, rfl⟩ := hs.shape
  have O1 := Lib.hid (out_x hs (sm_one (Nat.lt_trans (Nat.mod_lt _ (by omega)) hpG)))
  have B5 := Lib.hid (bt B4.out b5)
  clear hs b5 L1 B4
  go_wp2_with fail
  refine O1.out.mono ?_
  rintro e w6 ⟨rfl, b6⟩
  have b7 := bt B5.out b6
  clear O1 b6 B5
  go_wp2
  go_ret
  exact ⟨rfl, b7⟩
end Go.Proofs.YtdajgcgliidjbaaGreat
namespace Go.Proofs.YtdajgcgliidjbaaGreat
open Go.RowKit
theorem negRest_any (a p : ByteArray) (w : World) : Calls Tryz.prog 80 #[.string a, .string p] w fun e w' => e = .returned (.string (negR a p)) ∧ Below w.heap.size w w' := by
 unfold negR
 go_enter Tryz.func80, Tryz.ntmps80
 go_wp2_with fail
 refine (subRest_any _ a p _).mono ?_
 rintro e w1 ⟨rfl, b1⟩
 go_wp2
 go_ret
 exact ⟨rfl, b1⟩
def InvG (a p : ByteArray) (w : World) (e : Ending) (w' : World) : Prop := e = .returned (.tuple #[.string (invR a p), .bool (invB a p)]) ∧ Below w.heap.size w w'
theorem InvG.no {a p : ByteArray} {w w' : World} (h : invB a p = false) (b : Below w.heap.size w w') : InvG a p w (.returned (.tuple #[.string ⟨#[]⟩, .bool false])) w' := by
 unfold InvG invR; rw [h]; exact ⟨rfl, b⟩
theorem InvG.yes {a p : ByteArray} {w w' : World} {x : Nat} (h : invB a p = true) (hx : x < gV p) (e : x * gV a % gV p = 1) (b : Below w.heap.size w w') : InvG a p w (.returned (.tuple #[.string (gS x), .bool true])) w' := by
 unfold InvG invR; rw [h, if_pos rfl, invN_eq hx e]; exact ⟨rfl, b⟩
end Go.Proofs.YtdajgcgliidjbaaGreat
