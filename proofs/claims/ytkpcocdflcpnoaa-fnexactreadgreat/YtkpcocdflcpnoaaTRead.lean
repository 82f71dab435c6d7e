/-
  The contract of spec.ReadGreat.
-/
import Derived.Test.YtkpcocdflcpnoaaTDec
import Derived.Test.YtkpcocdflcpnoaaTBytes
import Derived.Test.YtkpcocdflcpnoaaNDivB
import Derived.Deep.RegionHeld3
namespace Go.Proofs.Ytkpcocdflcpnoaa
open Go.RowKit

def readB (t : ByteArray) : Bool := (decide (1 ≤ t.size) && decide (t.size ≤ 400)) && (headF t.data.toList && (t.data.toList.all isF && decide (fV t.data.toList < GB)))
def readG (t : ByteArray) : ByteArray := if readB t then gS (fV t.data.toList) else ⟨#[]⟩
theorem readG_of {t : ByteArray} (h : readB t = false) : readG t = ⟨#[]⟩ := by unfold readG; rw [h]; rfl

/-- What l02Trim hands back of a right row. -/
def TrP (n L b cap : Nat) (A : Option Addr) (w : World) (e : Ending) (w' : World) : Prop :=
  ∃ o : List Nat, e = .returned (.slice A o.length cap) ∧ InP n o ∧ RowN w b A cap o ∧ w = w' ∧ o.length ≤ L
theorem trimIn (b cap : Nat) (A : Option Addr) (l : List Nat) (w : World) (h : RowN w b A cap l) (hL : Limbs l) (hl : l.length ≤ 2000000) :
    Calls Try.prog 44 #[.slice A l.length cap] w (TrP (lV l) l.length b cap A w) := by
  refine (trim_any b cap A l w h hl).mono ?_
  rintro e w1 ⟨m, hm, rfl, rfl, hv, ht⟩
  have e1 : (l.take m).length = m := by rw [List.length_take]; omega
  exact ⟨l.take m, by rw [e1], ⟨hL.take m, ht, hv⟩, h.take hm, rfl, by rw [e1]; exact hm⟩

theorem RowN.dr {x : World} {b cap : Nat} {A : Option Addr} {l : List Nat} (h : RowN x b A cap l) : RowN x.drew b A cap l := h
theorem below_dr {B : Nat} {w x : World} (h : Below B w x) : Below B w x.drew := bd h 1

/-- What the loop holds behind i figures. -/
structure ReadRel (s : List UInt8) (i : Nat) (la : List Nat) : Prop where
  fig : (s.take i).all isF = true
  val : InP (fV (s.take i)) la
theorem ReadRel.len {s : List UInt8} {i : Nat} {la : List Nat} (h : ReadRel s i la) : la.length ≤ i := by
  refine h.val.len (Nat.lt_of_lt_of_le (fV_lt _ h.fig) ?_)
  refine Nat.le_trans (Nat.pow_le_pow_right (by omega) (List.length_take_le i s)) (Nat.pow_le_pow_left (by omega) _)
theorem ReadRel.next {s : List UInt8} {i d : Nat} {la lb : List Nat} (h : ReadRel s i la) (hi : i < s.length) (hf : isF s[i] = true) (hd : dgv s[i] = d) (hv : InP (lV la * 10 + d) lb) : ReadRel s (i + 1) lb := by
  have e := List.take_succ_eq_append_getElem hi
  refine ⟨?_, ?_⟩
  · rw [e, List.all_append, h.fig]; simpa using hf
  · rw [e, fV_snoc, ← h.val.2.2, hd, Nat.mul_comm]; exact hv

set_option maxRecDepth 8000 in
set_option maxHeartbeats 4000000 in
theorem readGreat_any (t : ByteArray) (w : World) : Calls Try.prog 17 #[.string t] w fun e w' => e = .returned (.tuple #[.string (readG t), .bool (readB t)]) ∧ Below w.heap.size w w' := by
  have hsl : t.data.toList.length = t.size := by simp
  by_cases hs : 1 ≤ t.size ∧ t.size ≤ 400
  · have HI := in_i (t.size : Int) 1 400 w
    have hd : (decide ((1 : Int) ≤ (t.size : Int)) && decide ((t.size : Int) ≤ 400)) = true := by
      have h1 : (1 : Int) ≤ (t.size : Int) := by omega
      have h2 : (t.size : Int) ≤ 400 := by omega
      simp [h1, h2]
    rw [hd] at HI
    clear hd
    obtain ⟨hs1, hs4⟩ := hs
    have ht0 : 0 < t.size := by omega
    cases hh : headF t.data.toList with
    | false =>
      have E : readB t = false := by unfold readB; rw [hh]; simp
      have hp : 1 < t.size ∧ t[0].toNat = 48 := by
        cases hl : t.data.toList with
        | nil => rw [hl] at hsl; simp at hsl; omega
        | cons c r =>
          have e0 : t[0] = c := by
            have : t[0] = t.data.toList[0]'(by rw [hsl]; exact ht0) := rfl
            rw [this]; simp [hl]
          by_cases hr : r = []
          · rw [hl, hr] at hh; cases hh
          · rw [hl, headF_cons c hr] at hh
            have : 0 < r.length := List.length_pos_iff.2 hr
            rw [hl, List.length_cons] at hsl
            refine ⟨by omega, ?_⟩
            rw [e0]; simpa using hh
      have hp1 : (1 : Int) < (t.size : Int) := by omega
      have hp2 : ((t[0].toNat : Int) == 48) = true := by simp [hp.2]
      rw [readG_of E, E]
      clear hp E hh hsl
      go_enter Try.func17, Try.ntmps17
      go_wp2_with fail
      refine HI.mono ?_
      rintro e w1 ⟨rfl, rfl⟩
      go_wp2
      go_ret2
      exact ⟨rfl, Below.refl _ _⟩
    | true =>
      have hp : ((1 : Int) < (t.size : Int) ∧ ((t[0].toNat : Int) == 48) = false) ∨ ¬ (1 : Int) < (t.size : Int) := by
        by_cases h1 : 1 < t.size
        · left
          refine ⟨by omega, ?_⟩
          cases hl : t.data.toList with
          | nil => rw [hl] at hsl; simp at hsl; omega
          | cons c r =>
            have e0 : t[0] = c := by
              have : t[0] = t.data.toList[0]'(by rw [hsl]; exact ht0) := rfl
              rw [this]; simp [hl]
            have hr : r ≠ [] := by
              intro e
              rw [hl, e] at hsl
              simp at hsl; omega
            rw [hl, headF_cons c hr] at hh
            have h48 : c.toNat ≠ 48 := by simpa using hh
            rw [e0]
            have : ¬ ((c.toNat : Int) = 48) := by omega
            simpa using this
        · right; omega
      have HSL := Lib.hid hsl
      have HH := Lib.hid hh
      clear hh hsl
      obtain ⟨hp1, hp2⟩ | hp1 := hp
      all_goals
        go_enter Try.func17, Try.ntmps17
        go_wp2_with fail
        refine HI.mono ?_
        rintro e w1 ⟨rfl, rfl⟩
        go_wp2
        clear hp1
        go_loopw [4, 5] (fun av iv wr => ∃ (i : Nat) (la : List Nat) (A : Option Addr) (ca : Nat), i ≤ t.size ∧ iv = .int .i64 i ∧ av = .slice A la.length ca ∧ Hid (ReadRel t.data.toList i la) ∧ Hid (RowN wr w.heap.size A ca la) ∧ Hid (Below w.heap.size w wr)) (fun _ iv _ => t.size - (intOf iv).toNat)
        case atStart =>
          exact ⟨0, [], some ⟨w.heap.size, 0, none⟩, 0, Nat.zero_le _, rfl, rfl, ⟨rfl, ⟨Limbs.nil, .inl rfl, rfl⟩⟩, World.ownsRow_made _ #[] 0 (Nat.le_refl _) (by decide) rfl, (Below.refl _ _).alloc (Nat.le_refl _) _⟩
        case round =>
          obtain ⟨i, la, A, ca, him, rfl, rfl, HR, HW, HB⟩ := hrel
          have hbs := HB.out.size
          have hll := HR.out.len
          by_cases hlt : i < t.size
          · have hlt' : (i : Int) < (t.size : Int) := by omega
            have hil : i < t.data.toList.length := by rw [HSL.out]; exact hlt
            have ei : t.data.toList[i] = t[i] := rfl
            cases hf : isF t[i] with
            | false =>
              have E : readB t = false := by
                have : t.data.toList.all isF = false := by
                  rw [Bool.eq_false_iff]
                  intro h
                  have := List.all_eq_true.1 h _ (List.getElem_mem hil)
                  rw [ei, hf] at this
                  cases this
                unfold readB; rw [this]; simp
              have HE := Lib.hid E
              have h3 : t[i].toNat < 48 ∨ (¬ t[i].toNat < 48 ∧ 57 < t[i].toNat) := by
                unfold isF at hf
                simp only [Bool.and_eq_false_iff, decide_eq_false_iff_not] at hf
                omega
              clear hf E ei
              obtain h4 | ⟨h4, h5⟩ := h3
              · have h4' : (t[i].toNat : Int) < 48 := by omega
                go_wp2
                go_ret2
                exact ⟨by rw [readG_of HE.out, HE.out]; rfl, HB.out⟩
              · have h4' : ¬ (t[i].toNat : Int) < 48 := by omega
                have h5' : (57 : Int) < (t[i].toNat : Int) := by omega
                go_wp2
                go_ret2
                exact ⟨by rw [readG_of HE.out, HE.out]; rfl, HB.out⟩
            | true =>
              obtain ⟨d, hd⟩ : ∃ d, dgv t[i] = d := ⟨_, rfl⟩
              have hN := Lib.hid (fun lb (hv : InP (lV la * 10 + d) lb) => HR.out.next hil (by rw [ei]; exact hf) (by rw [ei]; exact hd) hv)
              have hd10 : d < 10 := by rw [← hd]; exact (isF_lt hf).1
              have hcd : t[i].toNat = 48 + d := by
                rw [dgv_eq] at hd
                unfold isF at hf
                simp only [Bool.and_eq_true, decide_eq_true_eq] at hf
                omega
              have h4' : ¬ (t[i].toNat : Int) < 48 := by omega
              have h5' : ¬ (57 : Int) < (t[i].toNat : Int) := by omega
              have hci : (t[i].toNat : Int) - 48 = (d : Int) := by omega
              have hLa := HR.out.val.1
              have hHLa := Lib.hid hLa
              clear hf hd hcd ei HR hLa
              have L10 : Limbs [10] := fun x hx => by (have h : x = 10 := by simpa using hx); omega
              have Ld : Limbs [d] := fun x hx => by (have h : x = d := by simpa using hx); omega
              have al : ∀ (x : World) (o : Obj), Below x.heap.size x (x.alloc o) := fun x o => (Below.refl _ _).alloc (Nat.le_refl _) o
              have HM := Lib.hid (fun (x : World) (k : Option Addr) (h1 : RowN x w.heap.size A ca la) (h2 : RowN x w.heap.size k 1 [10]) => mul_any w.heap.size w.heap.size ca 1 A k la [10] x h1 h2 hHLa.out L10 (by omega) (by decide))
              have esz : ∀ o : Obj, (wr.alloc o).heap.size = wr.heap.size + 1 := fun o => by simp
              have hDb := (one_row w (wr.alloc (.cells #[.int .i64 ((10 : Nat) : Int)] 3)) (bt HB.out (al _ _)) d).dr
              have hTc := (one_row w (wr.alloc (.cells #[.int .i64 (d : Int)] 3)) (bt HB.out (al _ _)) 10).dr
              rw [esz] at hDb hTc
              have HDb := Lib.hid hDb
              have HTc := Lib.hid hTc
              clear hDb hTc esz
              have HDc := Lib.hid ((one_row w wr HB.out d).below (al _ (.cells #[.int .i64 ((10 : Nat) : Int)] 3))).dr
              have e10 : lV [10] = 10 := by simp [lV]
              have ed : lV [d] = d := by simp [lV]
              rw [e10] at HM
              have HLx := Lib.hid (fun lx (h : InP (lV la * 10) lx) => show lx.length ≤ 1000000 from by
                have := h.len (k := la.length + 1) (by
                  rw [Nat.pow_succ]
                  have h1 := lV_lt hHLa.out
                  omega)
                omega)
              have HWr : Hid (IntKind.i64.wrap (IntKind.i64.wrap (t[i].toNat : Int) - 48) = (d : Int)) := by
                show _ = _
                have h255 := t[i].toNat_lt
                rw [IntWalk.i64_in (t[i].toNat : Int) (by omega), hci, IntWalk.i64_in (d : Int) (by omega)]
              have H1 : Hid ([d].length ≤ 1000000) := by show [d].length ≤ 1000000; simp
              have H2 : Hid ([d].length ≤ 2000000) := by show [d].length ≤ 2000000; simp
              have H3 : Hid (1000001 ≤ 2000000) := by show 1000001 ≤ 2000000; omega
              have HLd := Lib.hid Ld
              have HAl := Lib.hid al
              have Hed := Lib.hid ed
              clear L10 Ld al e10 ed
              go_wp2
              go_region_held3 (fun w' => True) (trivial) (first
                | (go_at_call 46; (try rw [HWr.out]); refine (HM.out _ _ (by first | exact ((HW.out.below (HAl.out _ _)).below (HAl.out _ _)).dr | exact (HW.out.below (HAl.out _ _)).dr) (by first | exact (one_row w wr HB.out 10).dr | exact ((one_row w wr HB.out 10).below (HAl.out _ _)).dr | exact HTc.out)).mono ?_; rintro e w2 ⟨X, cx, lx, rfl, px, rx, b2⟩)
                | (go_at_call 45; refine (add_any _ w.heap.size _ _ _ _ lx o _ (by first | exact rx | exact rx.below (HAl.out _ _)) (by exact ro) px.1 po.1 (HLx.out _ px) (Nat.le_trans lo H1.out)).mono ?_; rintro e w4 ⟨S, cs, ls, rfl, ps, rs, b4⟩)
                | (go_at_call 44; refine (trimIn _ cs S ls w4 rs ps.1 (Nat.le_trans ps.2.2 H3.out)).mono ?_; rintro e w5 ⟨o2, rfl, po2, ro2, rfl, lo2⟩)
                | (go_at_call 44; (try rw [HWr.out]); refine (trimIn w.heap.size 1 _ [d] _ (by first | exact HDb.out.below b2 | exact HDc.out.below b2 | exact one_row w w2 (bt (below_dr (bt HB.out (HAl.out _ _))) b2) d) HLd.out H2.out).mono ?_; rintro e w3 ⟨o, rfl, po, ro, rfl, lo⟩))
              all_goals
                have HP2 := Lib.hid (hN.out o2 (by have h := po2; rw [ps.2.1, px.2.2, po.2.2, Hed.out] at h; exact h))
                first
                  | (have BX := bt (bt (below_dr (bt HB.out (HAl.out _ _))) b2) (HAl.out _ (.cells #[.int .i64 (d : Int)] 3)); have HB4 := Lib.hid (bt BX b4); have HRo := Lib.hid (ro2.base BX.size))
                  | (have BX := bt (below_dr (bt (bt HB.out (HAl.out _ _)) (HAl.out _ _))) b2; have HB4 := Lib.hid (bt BX b4); have HRo := Lib.hid (ro2.base BX.size))
                clear BX px rx b2 ps rs b4 po ro lo po2 ro2 lo2 HM HDb HDc HTc HLx hN
                go_wp2
                go_roundw
                case rel => exact ⟨i + 1, o2, S, cs, by omega, by go_num, rfl, HP2, HRo, HB4⟩
                case measure => simp [intOf]; omega
          · obtain rfl : i = t.size := by omega
            have hlt' : ¬ (t.size : Int) < (t.size : Int) := by omega
            have htk : t.data.toList.take t.size = t.data.toList := List.take_of_length_le (by rw [HSL.out]; exact Nat.le_refl _)
            have hR1 := HR.out.fig
            have hR2 := HR.out.val
            rw [htk] at hR1 hR2
            obtain ⟨V, hV⟩ : ∃ V, fV t.data.toList = V := ⟨_, rfl⟩
            rw [hV] at hR2
            have hO := out_any _ ca A la wr HW.out hR2.1 (by omega)
            rw [hR2.2.2] at hO
            have HO := Lib.hid hO
            have HG := greatOk_any (gS V)
            have E : readB t = decide (V < GB) := by
              unfold readB
              have e1 : decide (1 ≤ t.size) = true := by simpa using hs1
              have e2 : decide (t.size ≤ 400) = true := by simpa using hs4
              rw [HH.out, hR1, hV, e1, e2]; simp
            have E2 : readG t = if decide (V < GB) = true then gS V else ⟨#[]⟩ := by unfold readG; rw [E, hV]
            rw [okG_gS] at HG
            have HE := Lib.hid E
            have HE2 := Lib.hid E2
            clear HR hR1 hR2 hV E E2 hO htk HW
            cases hb : decide (V < GB) with
            | false =>
              rw [hb] at HG HE HE2
              clear hb
              go_wp2_with fail
              refine HO.out.mono ?_
              rintro e w1 ⟨rfl, b1⟩
              have B1 := Lib.hid (bt HB.out b1)
              clear b1
              go_wp2_with fail
              refine (HG _).mono ?_
              rintro e w1 ⟨rfl, rfl⟩
              go_wp2
              go_ret2
              exact ⟨by rw [HE.out, HE2.out]; rfl, B1.out⟩
            | true =>
              rw [hb] at HG HE HE2
              clear hb
              go_wp2_with fail
              refine HO.out.mono ?_
              rintro e w1 ⟨rfl, b1⟩
              have B1 := Lib.hid (bt HB.out b1)
              clear b1
              go_wp2_with fail
              refine (HG _).mono ?_
              rintro e w1 ⟨rfl, rfl⟩
              go_wp2
              go_ret2
              exact ⟨by rw [HE.out, HE2.out]; rfl, B1.out⟩
  · have E : readB t = false := by
      unfold readB
      have : (decide (1 ≤ t.size) && decide (t.size ≤ 400)) = false := by
        rw [← Bool.decide_and]; exact decide_eq_false hs
      rw [this]; rfl
    have hd : (decide ((1 : Int) ≤ (t.size : Int)) && decide ((t.size : Int) ≤ 400)) = false := by
      rw [← Bool.decide_and]; exact decide_eq_false (by omega)
    have HI := in_i (t.size : Int) 1 400 w
    rw [hd] at HI
    rw [readG_of E, E]
    clear hd hs E hsl
    go_enter Try.func17, Try.ntmps17
    go_wp2_with fail
    refine HI.mono ?_
    rintro e w1 ⟨rfl, rfl⟩
    go_wp2
    go_ret2
    exact ⟨rfl, Below.refl _ _⟩
end Go.Proofs.Ytkpcocdflcpnoaa
