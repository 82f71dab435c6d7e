import Derived.Test.YtdajgcgliidjbaaGreatRows
import Derived.Test.YtdajgcgliidjbaaGreatGreatW
import Derived.Handy
import Derived.Lib.Hide
import Derived.Outline
import Derived.Laws.OwnMore
set_option maxRecDepth 8000
set_option maxHeartbeats 2000000
namespace Go.Proofs.YtdajgcgliidjbaaGreat
open Go.RowKit
def natV (l : List Nat) : List Value := l.map fun x : Nat => Value.int .i64 (x : Int)
theorem natV_length (l : List Nat) : (natV l).length = l.length := by simp [natV]
theorem natV_take (l : List Nat) (k : Nat) : natV (l.take k) = (natV l).take k := by simp [natV]
def RowN (w : World) (base : Nat) (A : Option Addr) (cap : Nat) (l : List Nat) : Prop := w.ownsRow base 3 1 (.slice A l.length cap) l.length (natV l)
theorem RowN.base {w : World} {b b' cap : Nat} {A : Option Addr} {l : List Nat} (h : RowN w b A cap l) (hb : b' ≤ b) : RowN w b' A cap l := by
 refine ⟨h.1, ?_⟩
 rcases h.2 with h | ⟨g, cp, cur, hv, hg, hh, h3⟩
 ·exact .inl h
 ·exact .inr ⟨g, cp, cur, hv, by omega, hh, h3⟩
theorem RowN.below {w w' : World} {b cap : Nat} {A : Option Addr} {l : List Nat} (h : RowN w b A cap l) (hb : Below w.heap.size w w') : RowN w' b A cap l := own_below h hb
theorem RowN.take {w : World} {b cap : Nat} {A : Option Addr} {l : List Nat} (h : RowN w b A cap l) {m : Nat} (hm : m ≤ l.length) : RowN w b A cap (l.take m) := by
 have hl : (l.take m).length = m := by rw [List.length_take]; omega
 unfold RowN
 rw [hl]
 refine ⟨by rw [natV_length, hl]; omega, ?_⟩
 rcases h.2 with ⟨h1, h2⟩ | ⟨g, cp, cur, hv, hg, hh, h3, h4, h5, h6⟩
 ·injection h1 with e1 e2 e3
  subst e1 e3
  exact .inl ⟨by rw [show m = 0 by omega], by omega⟩
 ·injection hv with e1 e2 e3
  subst e1 e3
  refine .inr ⟨g, cap, cur, rfl, hg, hh, by omega, h4, h5, ?_⟩
  rw [natV_take, ← h6, List.take_take]
  congr 1
  omega
theorem RowN.at_ {w : World} {b cap : Nat} {A : Option Addr} {l : List Nat} (h : RowN w b A cap l) {k : Nat} (hk : k < l.length) :
  ∃ g, A = some ⟨g, 0, none⟩ ∧ b ≤ g ∧ g < w.heap.size ∧ w.cell? ⟨g, k, none⟩ = some (.int .i64 (l[k] : Int)) ∧ w.frozen? ⟨g, k, none⟩ = false := by
 obtain ⟨g, cp, hv, hb, hlt⟩ := World.ownsRow.form h (by omega)
 injection hv with e1 e2 e3
 subst e1 e3
 refine ⟨g, rfl, hb, hlt, ?_, World.ownsRow.frozenAt h k⟩
 rw [World.ownsRow.cellAt h k (by omega)]
 simp [natV, hk]
theorem RowN.form {w : World} {b cap : Nat} {A : Option Addr} {l : List Nat} (h : RowN w b A cap l) (hk : 0 < l.length) : ∃ g, A = some ⟨g, 0, none⟩ ∧ b ≤ g ∧ g < w.heap.size := by
 obtain ⟨g, e, h1, h2, _⟩ := h.at_ (k := 0) hk
 exact ⟨g, e, h1, h2⟩
def RowPost (P : List Nat → Prop) (w : World) (e : Ending) (w' : World) : Prop :=
 ∃ A cap l, e = .returned (.slice A l.length cap) ∧ P l ∧ RowN w' w.heap.size A cap l ∧ Below w.heap.size w w'
theorem isEmpty_size {s : ByteArray} : s.toList.isEmpty = decide (s.size = 0) := by
 have : s.toList.length = s.size := by rw [ByteArray.toList_eq]; simp
 cases h : s.toList with
 | nil => rw [h] at this; simp at this; simp [← this]
 | cons a l =>
  rw [h, List.length_cons] at this
  have : decide (s.size = 0) = false := by simp only [decide_eq_false_iff_not]; omega
  rw [this]; rfl
theorem okG_empty {s : ByteArray} (h : s.size = 0) : okG s = true := by
 have : s.data.toList = [] := List.eq_nil_of_length_eq_zero (by simpa using h)
 unfold okG; rw [this, h]; rfl
theorem okG_head {s : ByteArray} (h : 0 < s.size) (h1 : s.size ≤ 160) : okG s = ((s[0].toNat : Int) != 0) := by
 have hl : 0 < s.data.toList.length := by simpa using h
 have e : s.data.toList = s[0] :: s.data.toList.tail := by
  cases hs : s.data.toList with
  | nil => rw [hs] at hl; simp at hl
  | cons a l =>
   have : s.data.toList[0] = s[0] := rfl
   simp only [hs, List.getElem_cons_zero] at this
   rw [← this]; rfl
 have hd : decide (s.size ≤ 160) = true := by simpa using h1
 unfold okG
 rw [hd, e]
 simp only [headOk, Bool.true_and]
 by_cases hz : s[0].toNat = 0
 ·simp [hz]
 ·simp [hz]
theorem okG_long {s : ByteArray} (h : 160 < s.size) : okG s = false := by
 unfold okG
 have : decide (s.size ≤ 160) = false := by simp; omega
 rw [this]; rfl
theorem greatOk_any (s : ByteArray) (w : World) : Calls Tryz.prog 99 #[.string s] w fun e w' => e = .returned (.bool (okG s)) ∧ w = w' := by
 by_cases h1 : 160 < s.size
 ·have hd : decide ((s.size : Int) ≤ 160) = false := by simp; omega
  rw [okG_long h1]
  go_enter Tryz.func99, Tryz.ntmps99
  go_wp2
  go_ret
  exact ⟨rfl, rfl⟩
 have hd : decide ((s.size : Int) ≤ 160) = true := by simp; omega
 by_cases h2 : s.size = 0
 ·have he : s.toList = [] := by have := isEmpty_size (s := s); rw [h2] at this; simpa using this
  rw [okG_empty h2]
  clear h2
  go_enter Tryz.func99, Tryz.ntmps99
  go_wp2
  go_ret
  exact ⟨rfl, rfl⟩
 ·have he : s.toList.isEmpty = false := by rw [isEmpty_size]; simpa using h2
  have h3 : 0 < s.size := by omega
  have h4 : (0 : Int) < (s.size : Int) := by omega
  rw [okG_head h3 (by omega)]
  clear h2
  go_enter Tryz.func99, Tryz.ntmps99
  go_wp2
  go_ret
  exact ⟨rfl, rfl⟩
end Go.Proofs.YtdajgcgliidjbaaGreat
namespace Go.Proofs.YtdajgcgliidjbaaGreat
open Go.RowKit
theorem take_snocN (l : List Nat) {k : Nat} (h : k < l.length) : l.take (k + 1) = l.take k ++ [l[k]] := List.take_succ_eq_append_getElem h
def TrimPost (A : Option Addr) (cap : Nat) (l : List Nat) (w : World) (e : Ending) (w' : World) : Prop :=
 ∃ m, m ≤ l.length ∧ e = .returned (.slice A m cap) ∧ w = w' ∧ lV (l.take m) = lV l ∧ Trimmed (l.take m)
theorem trim_any (b cap : Nat) (A : Option Addr) (l : List Nat) (w : World) (h : RowN w b A cap l) (hl : l.length ≤ 2000000) :
  Calls Tryz.prog 65 #[.slice A l.length cap] w (TrimPost A cap l w) := by
 have H := Lib.hid h
 have hcap : l.length ≤ cap ∧ (A = none → l.length = 0 ∧ cap = 0) := by
  rcases h.2 with ⟨h1, h2⟩ | ⟨g, cp, cur, hv, _, _, h3, _⟩
  ·injection h1 with e1 e2 e3; subst e3; exact ⟨by omega, fun _ => ⟨h2, rfl⟩⟩
  ·injection hv with e1 e2 e3; subst e1 e3; exact ⟨h3, fun e => by cases e⟩
 clear h
 obtain ⟨n, hn⟩ : ∃ n, l.length = n := ⟨_, rfl⟩
 rw [hn] at hcap hl ⊢
 have HN := Lib.hid hn
 clear hn
 have hc1 := hcap.1
 have HC := Lib.hid hcap.2
 clear hcap
 go_enter Tryz.func65, Tryz.ntmps65
 go_wp2
 go_loop [3] (fun nv => ∃ m : Nat, m ≤ n ∧ nv = .int .i64 m ∧ Hid (lV (l.take m) = lV l)) (fun nv => (intOf nv).toNat)
 case atStart => exact ⟨n, Nat.le_refl _, rfl, by show _ = _; rw [List.take_of_length_le (by rw [HN.out]; omega)]⟩
 case round =>
  obtain ⟨m, hm, rfl, hv⟩ := hrel
  by_cases h0 : 0 < m
  ·obtain ⟨k, rfl⟩ : ∃ k, m = k + 1 := ⟨m - 1, by omega⟩
   have hk : k < l.length := by rw [HN.out]; omega
   obtain ⟨g, rfl, _, _, hc, _⟩ := H.out.at_ hk
   have h0' : (0 : Int) < ((k + 1 : Nat) : Int) := by omega
   have hkn : (k : Int) < (n : Int) := by omega
   by_cases hz : l[k] = 0
   ·have hz' : ((l[k] : Int) == 0) = true := by simp [hz]
    have hv2 : Hid (lV (l.take k) = lV l) := by
     show _ = _
     rw [← hv.out, take_snocN l hk, lV_snoc, hz]; simp
    clear hz
    go_wp2
    go_round
    case rel => exact ⟨k, by omega, by go_num, hv2⟩
    case measure => simp [intOf]
   ·have hz' : ((l[k] : Int) == 0) = false := by simpa using hz
    have R : ∀ w, TrimPost (some ⟨g, 0, none⟩) cap l w (.returned (.slice (some ⟨g, 0, none⟩) (k + 1) cap)) w := fun w => ⟨k + 1, by omega, rfl, rfl, hv.out, .inr ⟨_, _, take_snocN l hk, by omega⟩⟩
    have R := Lib.hid R
    clear hz
    go_wp2
    go_ret
    exact R.out _
  ·obtain rfl : m = 0 := by omega
   have R : ∀ w, TrimPost A cap l w (.returned (.slice A 0 cap)) w := fun w => ⟨0, by omega, rfl, rfl, hv.out, .inl rfl⟩
   have R := Lib.hid R
   cases A with
   | none =>
    obtain ⟨e1, rfl⟩ := HC.out rfl
    go_wp2
    go_ret
    exact R.out _
   | some a =>
    go_wp2
    go_ret
    exact R.out _
def seg (l : List UInt8) (i j : Nat) : Nat := bN ((l.take j).drop i)
theorem seg_snoc {s : ByteArray} {i j : Nat} (hj : j < s.size) (hi : i ≤ j) : seg s.data.toList i (j + 1) = 256 * seg s.data.toList i j + s[j].toNat := by
 unfold seg
 rw [take_snoc s j hj, List.drop_append_of_le_length (by rw [List.length_take, Array.length_toList]; show i ≤ min j s.size; omega), bN_snoc]
theorem seg_self (l : List UInt8) (i : Nat) : seg l i i = 0 := by
 unfold seg
 rw [List.drop_of_length_le (by rw [List.length_take]; omega)]; rfl
theorem seg_lt (l : List UInt8) (i j : Nat) (h : j ≤ i + 3) : seg l i j < 16777216 := by
 unfold seg
 have := bN_lt ((l.take j).drop i)
 have hl : ((l.take j).drop i).length ≤ 3 := by rw [List.length_drop, List.length_take]; omega
 have : 256 ^ ((l.take j).drop i).length ≤ 256 ^ 3 := Nat.pow_le_pow_right (by omega) hl
 omega
theorem seg_split {l : List UInt8} {e : Nat} (he : e ≤ l.length) (h0 : 0 < e) : bN (l.take e) = seg l (e - 3) e + 16777216 * bN (l.take (e - 3)) := by
 have e1 : l.take e = l.take (e - 3) ++ (l.take e).drop (e - 3) := by
  have := List.take_append_drop (e - 3) (l.take e)
  rw [List.take_take, show min (e - 3) e = e - 3 from by omega] at this
  exact this.symm
 have h1 : bN (l.take e) = bN (l.take (e - 3)) * 256 ^ ((l.take e).drop (e - 3)).length + seg l (e - 3) e := by
  conv => lhs; rw [e1]
  exact bN_append _ _
 rw [h1]
 by_cases h3 : 3 ≤ e
 ·have : ((l.take e).drop (e - 3)).length = 3 := by rw [List.length_drop, List.length_take]; omega
  rw [this]; omega
 ·have : e - 3 = 0 := by omega
  rw [this]; simp [bN]
def InRel (l : List UInt8) (e : Nat) (o : List Nat) : Prop := Limbs o ∧ bN l = lV o + 16777216 ^ o.length * bN (l.take e)
theorem InRel.next {l : List UInt8} {e : Nat} {o : List Nat} (h : InRel l e o) (he : e ≤ l.length) (h0 : 0 < e) : InRel l (e - 3) (o ++ [seg l (e - 3) e]) := by
 refine ⟨h.1.snoc (seg_lt _ _ _ (by omega)), ?_⟩
 rw [h.2, seg_split he h0, lV_snoc, List.length_append, List.length_singleton, Nat.pow_succ, Nat.mul_add, Nat.mul_assoc]
 omega
theorem Tryz.infoI : (Tryz.prog.info? 3).map (fun i => (i.zero, i.size, i.bytes)) = some (some (.int .i64 0), 1, 8) := by kernel_rfl
def InP (n : Nat) (l : List Nat) : Prop := Limbs l ∧ Trimmed l ∧ lV l = n
theorem row_snoc {w wr w1 : World} {g cap cp y : Nat} {A : Option Addr} {o : List Nat} {ob : Obj} (hb : Below w.heap.size w wr) (hO : RowN wr w.heap.size A cap o)
  (hown1 : w1.ownsRow w.heap.size 3 1 (.slice (some ⟨g, 0, none⟩) (o.length + 1) cp) (o.length + 1) (natV o ++ [.int .i64 (y : Int)])) (hg : World.grownBy (wr.alloc ob) w1 (Value.ownBlock (.slice A o.length cap))) :
  RowN w1 w.heap.size (some ⟨g, 0, none⟩) cp (o ++ [y]) ∧ Below w.heap.size w w1 := by
 have hb1 : Below w.heap.size w (wr.alloc ob) := hb.alloc hb.size ob
 refine ⟨?_, hb1.grown hg hb1.size fun j hj => (World.ownsRow.lt hO j hj).1⟩
 unfold RowN
 rw [List.length_append, List.length_singleton]
 have : natV (o ++ [y]) = natV o ++ [.int .i64 (y : Int)] := by simp [natV]
 rw [this]
 exact hown1
theorem in_any (s : ByteArray) (w : World) (hs : s.size ≤ 1000000) : Calls Tryz.prog 34 #[.string s] w (RowPost (InP (gV s)) w) := by
 obtain ⟨i0, hi, hz0, hz1, hz2⟩ := info_parts Tryz.infoI
 go_enter Tryz.func34, Tryz.ntmps34
 go_wp2
 go_loopw [3, 4] (fun v ev wr => ∃ (e : Int) (o : List Nat) (A : Option Addr) (cap : Nat), -3 < e ∧ e ≤ s.size ∧ ev = .int .i64 e ∧ v = .slice A o.length cap ∧ o.length ≤ s.size - e.toNat ∧ Hid (InRel s.data.toList e.toNat o) ∧ Hid (RowN wr w.heap.size A cap o) ∧ Below w.heap.size w wr) (fun _ ev _ => (intOf ev).toNat)
 case atStart =>
  refine ⟨s.size, [], some ⟨w.heap.size, 0, none⟩, 0, by omega, by omega, rfl, rfl, by simp, ⟨Limbs.nil, ?_⟩, World.ownsRow_made _ #[] 0 (Nat.le_refl _) (by decide) rfl, (Below.refl _ _).alloc (Nat.le_refl _) _⟩
  simp only [Int.toNat_natCast, lV, List.length_nil]
  rw [take_all]; simp
 case round =>
  obtain ⟨e, o, A, cap, he0, he1, rfl, rfl, hol, hR, hO, hb⟩ := hrel
  have hbs := hb.size
  by_cases h0 : 0 < e
  ·obtain ⟨k, rfl⟩ : ∃ k : Nat, e = (k : Int) := ⟨e.toNat, by omega⟩
   simp only [Int.toNat_natCast] at hol hR
   have hdk : decide (0 < k) = true := by simp; omega
   have hk0 : 0 < k := by omega
   have hks : k ≤ s.size := by omega
   have hN := Lib.hid (hR.out.next (by rw [Array.length_toList]; exact hks) hk0)
   clear hR h0 he0 he1
   go_wp2
   go_loop [5, 6] (fun nv iv => ∃ t x : Nat, t ≤ 3 ∧ x < 16777216 ∧ iv = .int .i64 ((k : Int) - 3 + t) ∧ nv = .int .i64 x ∧ Hid (x = seg s.data.toList (k - 3) (k + t - 3))) (fun _ iv => ((k : Int) - intOf iv).toNat)
   case atStart => exact ⟨0, 0, by omega, by omega, by simp, rfl, by show _ = _; rw [show k + 0 - 3 = k - 3 from by omega, seg_self]⟩
   case round =>
    obtain ⟨t, x, ht, hx, rfl, rfl, hX⟩ := hrel
    by_cases h3 : t < 3
    ·by_cases hj : 3 ≤ k + t
     ·obtain ⟨j, hj2⟩ : ∃ j, k + t = j + 3 := ⟨k + t - 3, by omega⟩
      have hjs : j < s.size := by omega
      have hji : (k : Int) - 3 + t = (j : Int) := by omega
      rw [show k + t - 3 = j from by omega] at hX
      have hX2 : Hid (256 * x + s[j].toNat = seg s.data.toList (k - 3) (k + (t + 1) - 3)) := by
       show _ = _
       rw [show k + (t + 1) - 3 = j + 1 from by omega, seg_snoc hjs (by omega), ← hX.out]
      have hx2 : 256 * x + s[j].toNat < 16777216 := by rw [hX2.out]; exact seg_lt _ _ _ (by omega)
      have hlt : (j : Int) < (k : Int) := by omega
      have hc := s[j].toNat_lt
      rw [hji]
      clear hX
      go_wp2
      go_round
      case rel => exact ⟨t + 1, 256 * x + s[j].toNat, by omega, hx2, by go_num, by go_num, hX2⟩
      case measure => simp [intOf]; omega
     ·have hX2 : Hid (x = seg s.data.toList (k - 3) (k + (t + 1) - 3)) := by
       show _ = _
       rw [hX.out, show k + t - 3 = 0 from by omega, show k + (t + 1) - 3 = 0 from by omega]
      clear hX
      have hneg : (k : Int) - 3 + t < 0 := by omega
      go_wp2
      go_round
      case rel => exact ⟨t + 1, x, by omega, hx, by go_num, rfl, hX2⟩
      case measure => simp [intOf]; omega
    ·obtain rfl : t = 3 := by omega
     rw [show k + 3 - 3 = k from by omega] at hX
     obtain rfl := hX.out
     obtain ⟨y, hy⟩ : ∃ y, y = seg s.data.toList (k - 3) k := ⟨_, rfl⟩
     rw [← hy] at hN hx ⊢
     clear hy
     go_wp2_with (at_builtin; refine wpList_append_lies _ rfl (.tmp 30) (.tmp 32) _ rfl w.heap.size 3 i0 (.int .i64 0) 1 8 Tryz.underlying57 hi hz0 hz1 hz2 rfl (by omega) _ o.length _ rfl (World.ownsRow.alloc hO.out _) ⟨wr.heap.size, 0, none⟩ 1 1 [.int .i64 (y : Int)] rfl rfl (World.news_of_block (cs := #[.int .i64 (y : Int)]) (t := 3) (fr := (0, 0)) (heap_alloc_new wr _)) (by simp [Value.oneCell']) (by omega) (by unfold maxLen; omega) (by omega) (by simp; omega) _ rfl ?_)
     intro g cp w1 hown1 hgrow hat hlt1
     have R := Lib.hid (row_snoc hb hO.out hown1 hgrow)
     clear hown1 hgrow hat hlt1 hO
     go_wp2
     go_roundw
     case rel => exact ⟨(k : Int) - 3, o ++ [y], _, _, by omega, by omega, rfl, by simp, by simp; omega, by rw [show ((k : Int) - 3).toNat = k - 3 from by omega]; exact hN, R.out.1, R.out.2⟩
     case measure => simp [intOf]; omega
  ·have he : e.toNat = 0 := by omega
   rw [he] at hR hol
   have hP : Hid (lV o = gV s ∧ Limbs o) := by
    refine ⟨?_, hR.out.1⟩
    have := hR.out.2
    simp [bN_nil] at this
    exact this.symm
   have hTr := Lib.hid (trim_any _ cap A o wr hO.out (by omega))
   have h0' : ¬ (0 : Int) < e := h0
   clear hR
   go_wp2_with (go_at_call 65; refine hTr.out.mono ?_; rintro e w1 ⟨m, hm, rfl, rfl, hv, ht⟩)
   go_ret
   have hL : (o.take m).length = m := by rw [List.length_take]; omega
   refine ⟨A, cap, o.take m, by rw [hL]; rfl, ⟨hP.out.2.take m, ht, by rw [hv]; exact hP.out.1⟩, hO.out.take hm, hb⟩
end Go.Proofs.YtdajgcgliidjbaaGreat
namespace Go.Proofs.YtdajgcgliidjbaaGreat
open Go.RowKit
theorem Tryz.infoB : (Tryz.prog.info? 5).map (fun i => (i.zero, i.size, i.bytes)) = some (some (.int .u8 0), 1, 1) := by kernel_rfl
def be : List Nat → List UInt8
 | [] => []
 | x :: r => be r ++ [UInt8.ofNat (x / 65536 % 256), UInt8.ofNat (x / 256 % 256), UInt8.ofNat (x % 256)]
theorem be_length (l : List Nat) : (be l).length = 3 * l.length := by
 induction l with
 | nil => rfl
 | cons x r ih => simp only [be, List.length_append, ih, List.length_cons, List.length_nil]; omega
theorem be_snoc (l : List Nat) (x : Nat) : be (l ++ [x]) = [UInt8.ofNat (x / 65536 % 256), UInt8.ofNat (x / 256 % 256), UInt8.ofNat (x % 256)] ++ be l := by
 induction l with
 | nil => rfl
 | cons y r ih => rw [List.cons_append, be, ih, be, List.append_assoc]
theorem bN_be {l : List Nat} (h : Limbs l) : bN (be l) = lV l := by
 induction l with
 | nil => rfl
 | cons x r ih =>
  have h1 := h x (by simp)
  rw [be, bN_append, ih (fun y hy => h y (by simp [hy])), lV_cons]
  have e : bN [UInt8.ofNat (x / 65536 % 256), UInt8.ofNat (x / 256 % 256), UInt8.ofNat (x % 256)] = x := by
   simp only [bN, List.foldl_cons, List.foldl_nil]
   rw [byte_nat _ (by omega), byte_nat _ (by omega), byte_nat _ (by omega)]
   omega
  rw [e]
  simp only [List.length_cons, List.length_nil]
  omega
def outB (l : List Nat) (i : Nat) : List UInt8 := List.replicate (3 * (l.length - i)) 0 ++ be (l.take i)
theorem outB_next {l : List Nat} {i : Nat} (h : i < l.length) : (((outB l i).set (3 * (l.length - i) - 1) (UInt8.ofNat (l[i] % 256))).set (3 * (l.length - i) - 2) (UInt8.ofNat (l[i] / 256 % 256))).set (3 * (l.length - i) - 3) (UInt8.ofNat (l[i] / 65536 % 256)) = outB l (i + 1) := by
 have e1 : 3 * (l.length - i) = 3 * (l.length - (i + 1)) + 3 := by omega
 unfold outB
 rw [take_snocN l h, be_snoc, e1]
 generalize 3 * (l.length - (i + 1)) = p
 have e2 : List.replicate (p + 3) (0 : UInt8) = List.replicate p 0 ++ [0, 0, 0] := by
  rw [← List.replicate_append_replicate]; rfl
 rw [e2, List.append_assoc]
 rw [List.set_append_right _ _ (by simp), List.set_append_right _ _ (by simp), List.set_append_right _ _ (by simp)]
 simp only [List.length_replicate]
 rw [show p + 3 - 1 - p = 2 from by omega, show p + 3 - 2 - p = 1 from by omega, show p + 3 - 3 - p = 0 from by omega]
 rfl
theorem byteCells_set (l : List UInt8) (i : Nat) (c : UInt8) : (Lib.byteCells l).set i (.int .u8 (c.toNat : Int)) = Lib.byteCells (l.set i c) := by simp [Lib.byteCells, List.map_set]
def Lead (l : List UInt8) (m : Nat) : Prop := l.take m = List.replicate m 0
theorem Lead.zero (l : List UInt8) : Lead l 0 := by simp [Lead]
theorem Lead.next {l : List UInt8} {m : Nat} (h : Lead l m) (hm : m < l.length) (hz : l[m] = 0) : Lead l (m + 1) := by
 unfold Lead at *
 rw [List.take_succ_eq_append_getElem hm, h, hz, ← List.replicate_succ']
theorem Lead.val {l : List UInt8} {m : Nat} (h : Lead l m) : bN (l.drop m) = bN l := by
 have := List.take_append_drop m l
 rw [h] at this
 conv => rhs; rw [← this]
 rw [bN_zeros]
theorem Lead.text {l : List UInt8} {m n : Nat} (h : Lead l m) (hv : bN l = n) (hm : m = l.length ∨ ∃ hm : m < l.length, l[m] ≠ 0) : l.drop m = gT n := by
 rw [← hv, ← h.val]
 refine (gT_bN _ ?_).symm
 rcases hm with rfl | ⟨hm, hz⟩
 ·rw [List.drop_length]; rfl
 ·rw [List.drop_eq_getElem_cons hm]
  simp only [headOk, decide_eq_true_eq]
  intro e
  exact hz (by rw [← UInt8.toNat_inj]; simpa using e)
theorem limb_bytes (x : Nat) : ∃ c0 c1 c2 : UInt8, c0 = UInt8.ofNat (x % 256) ∧ c1 = UInt8.ofNat (x / 256 % 256) ∧ c2 = UInt8.ofNat (x / 65536 % 256) ∧
  IntKind.u8.wrap (x : Int) = (c0.toNat : Int) ∧ IntKind.u8.wrap ((x : Int) / 256) = (c1.toNat : Int) ∧ IntKind.u8.wrap ((x : Int) / 65536) = (c2.toNat : Int) := by
 refine ⟨_, _, _, rfl, rfl, rfl, ?_, ?_, ?_⟩
 ·rw [IntKind.wrap_u8, byte_nat _ (by omega)]; omega
 ·rw [IntKind.wrap_u8, byte_nat _ (by omega)]; omega
 ·rw [IntKind.wrap_u8, byte_nat _ (by omega)]; omega
theorem out_any (b cap : Nat) (A : Option Addr) (l : List Nat) (w : World) (h : RowN w b A cap l) (hL : Limbs l) (hl : l.length ≤ 1000001) :
  Calls Tryz.prog 128 #[.slice A l.length cap] w fun e w' => e = .returned (.string (gS (lV l))) ∧ Below w.heap.size w w' := by
 obtain ⟨i0, hi, hz0, hz1, hz2⟩ := info_parts Tryz.infoB
 have H := Lib.hid h
 have HL := Lib.hid hL
 clear h hL
 obtain ⟨n, hn⟩ : ∃ n, l.length = n := ⟨_, rfl⟩
 rw [hn] at hl ⊢
 have HN := Lib.hid hn
 clear hn
 go_enter Tryz.func128, Tryz.ntmps128
 go_wp2_with (at_make; refine wpList_make_full _ rfl _ _ 22 rfl w.heap.size 5 i0 (.int .u8 0) 1 Tryz.underlying22 hi hz0 hz1 .i64 .i64 _ _ (3 * n) rfl rfl (by first | rfl | omega) (by first | rfl | omega) (by rw [hz2]; omega) (by unfold maxLen; omega) (Nat.le_refl _) ?_; intro w0 hown0 hgrow0)
 have hb0 : Below w.heap.size w w0 := (Below.refl _ _).grown hgrow0 (Nat.le_refl _) (fun k hk => by cases hk)
 have hO0 : w0.ownsRow w.heap.size 5 1 (.slice (some ⟨w.heap.size, 0, none⟩) (3 * n) (3 * n)) (3 * n) (Lib.byteCells (outB l 0)) := by
  have e : Lib.byteCells (outB l 0) = (madeCells (Value.cells (.int .u8 0)) (3 * n * 1)).toList := by
   unfold outB
   have := toList_madeCells_one (.int .u8 0) (3 * n * 1)
   simp only [Value.cells] at this ⊢
   rw [this, HN.out]
   simp [Lib.byteCells, be]
  rw [e]; exact hown0
 have hR0 := Lib.hid hO0
 clear hown0 hgrow0 hO0
 go_loopw [4] (fun iv wr => ∃ i : Nat, i ≤ n ∧ iv = .int .i64 i ∧ Hid (wr.ownsRow w.heap.size 5 1 (.slice (some ⟨w.heap.size, 0, none⟩) (3 * n) (3 * n)) (3 * n) (Lib.byteCells (outB l i))) ∧ Below w.heap.size w wr) (fun iv _ => n - (intOf iv).toNat)
 case atStart => exact ⟨0, Nat.zero_le _, rfl, hR0, hb0⟩
 case round =>
  clear hR0 hb0
  obtain ⟨i, hin, rfl, hO, hb⟩ := hrel
  have hbs := hb.size
  by_cases hlt : i < n
  ·have hil : i < l.length := by rw [HN.out]; exact hlt
   have hx := HL.out.get hil
   obtain ⟨g, rfl, _, hgl, hc, _⟩ := H.out.at_ hil
   have hc' : wr.cell? ⟨g, i, none⟩ = some (.int .i64 (l[i] : Int)) := (hb.cell (p := ⟨g, i, none⟩) hgl).trans hc
   have hne : ¬ g = w.heap.size := by omega
   have hne2 : ¬ w.heap.size = g := by omega
   obtain ⟨p, hp⟩ : ∃ p, 3 * (n - i) = p + 3 := ⟨3 * (n - i) - 3, by omega⟩
   have hp3 : p + 3 ≤ 3 * n := by omega
   have k1 : (3 * (n : Int) - 3 * (i : Int) - 1) = ((p + 2 : Nat) : Int) := by omega
   have k2 : (3 * (n : Int) - 3 * (i : Int) - 2) = ((p + 1 : Nat) : Int) := by omega
   have k3 : (3 * (n : Int) - 3 * (i : Int) - 3) = ((p : Nat) : Int) := by omega
   have cx : ∀ j, j < 3 * n → ∃ v, wr.cell? ⟨w.heap.size, j, none⟩ = some v := fun j hj => ⟨_, (hO.out.cellAt j (by omega)).trans (List.getElem?_eq_getElem (by rw [hO.out.1]; omega))⟩
   obtain ⟨v2, d2⟩ := cx (p + 2) (by omega)
   obtain ⟨v1, d1⟩ := cx (p + 1) (by omega)
   obtain ⟨v0, d0⟩ := cx p (by omega)
   have f2 := hO.out.frozenAt (p + 2)
   have f1 := hO.out.frozenAt (p + 1)
   have f0 := hO.out.frozenAt p
   obtain ⟨c0, c1, c2, q0, q1, q2, r0, r1, r2⟩ := limb_bytes l[i]
   have Q : Hid ((((outB l i).set (p + 2) c0).set (p + 1) c1).set p c2 = outB l (i + 1)) := by
    show _ = _
    rw [← outB_next hil, q0, q1, q2, HN.out, hp]
    rfl
   have S1 := (hO.out.stored (p + 2) (.int .u8 (c0.toNat : Int))).1
   have S2 := (S1.stored (p + 1) (.int .u8 (c1.toNat : Int))).1
   have S3 := (S2.stored p (.int .u8 (c2.toNat : Int))).1
   rw [byteCells_set, byteCells_set, byteCells_set, Q.out] at S3
   have HS := Lib.hid S3
   have HP := Lib.hid hp
   have hlt' : (i : Int) < (n : Int) := by omega
   clear S1 S2 S3 Q q0 q1 q2 cx hc hp
   go_wp2
   go_roundw
   case rel => exact ⟨i + 1, by omega, by go_num, HS, ((hb.setCell (p := ⟨w.heap.size, p + 2, none⟩) (Nat.le_refl _) _).setCell (p := ⟨w.heap.size, p + 1, none⟩) (Nat.le_refl _) _).setCell (p := ⟨w.heap.size, p, none⟩) (Nat.le_refl _) _⟩
   case measure => simp [intOf]; omega
  ·obtain rfl : i = n := by omega
   have hO2 : wr.ownsRow w.heap.size 5 1 (.slice (some ⟨w.heap.size, 0, none⟩) (3 * i) (3 * i)) (3 * i) (Lib.byteCells (be l)) := by
    have e : outB l i = be l := by unfold outB; rw [HN.out, List.take_of_length_le (by rw [HN.out]; omega)]; simp
    have h := hO.out
    rw [e] at h
    exact h
   obtain ⟨bl, hbl⟩ : ∃ bl, bl = be l := ⟨_, rfl⟩
   have B1 : bl.length = 3 * i := by rw [hbl, be_length, HN.out]
   have B2 : Hid (bN bl = lV l) := by rw [hbl]; exact bN_be HL.out
   rw [← hbl] at hO2
   have HO := Lib.hid hO2
   have HB1 := Lib.hid B1
   clear hbl hO hO2 H HL B1
   have hlt' : ¬ (i : Int) < (i : Int) := by omega
   go_wp2
   go_loop [6] (fun mv => ∃ m : Nat, m ≤ 3 * i ∧ mv = .int .i64 m ∧ Hid (Lead bl m)) (fun mv => 3 * i - (intOf mv).toNat)
   case atStart => exact ⟨0, by omega, rfl, Lead.zero _⟩
   case round =>
    obtain ⟨m, hm, rfl, hLd⟩ := hrel
    by_cases hml : m < 3 * i
    ·have hmb : m < bl.length := by rw [HB1.out]; exact hml
     have hml' : (m : Int) < 3 * (i : Int) := by omega
     have hcell : wr.cell? ⟨w.heap.size, m, none⟩ = some (.int .u8 (bl[m].toNat : Int)) := by
      rw [HO.out.cellAt m (by omega)]
      simp [Lib.byteCells, hmb]
     by_cases hz : bl[m] = 0
     ·have hz' : ((bl[m].toNat : Int) == 0) = true := by rw [hz]; rfl
      have hN := Lib.hid (hLd.out.next hmb hz)
      clear hz
      go_wp2
      go_round
      case rel => exact ⟨m + 1, by omega, by go_num, hN⟩
      case measure => simp [intOf]; omega
     ·have hz' : ((bl[m].toNat : Int) == 0) = false := by
       have : bl[m].toNat ≠ 0 := fun e => hz (by rw [← UInt8.toNat_inj]; simpa using e)
       simpa using this
      have hT := hLd.out.text B2.out (.inr ⟨hmb, hz⟩)
      have hdl : (bl.drop m).length = 3 * i - m := by rw [List.length_drop, HB1.out]
      have hcv := run_convert_bytes_back (P := Tryz.prog) wr 22 9 5 ⟨w.heap.size, m, none⟩ (3 * i - m) (bl.drop m) Tryz.underlying22 Tryz.underlying5 Tryz.underlying9 (fun j hj => by
       have e : (⟨w.heap.size, m, none⟩ : Addr).add j = ⟨w.heap.size, m + j, none⟩ := by unfold Addr.add; split <;> simp_all
       rw [e, HO.out.cellAt (m + j) (by omega)]
       have : m + j < bl.length := by rw [HB1.out]; omega
       simp [Lib.byteCells, this])
      rw [hdl, hT] at hcv
      have hci : ¬ 3 * i = m := by omega
      clear hT hdl hz
      go_wp2
      go_ret
      exact ⟨rfl, hb⟩
    ·obtain rfl : m = 3 * i := by omega
     have hT := hLd.out.text B2.out (.inl HB1.out.symm)
     rw [List.drop_of_length_le (by rw [HB1.out]; omega)] at hT
     have HT := Lib.hid hT
     have hcv := fun c => run_convert_bytes_back (P := Tryz.prog) wr 22 9 5 ⟨w.heap.size, 0, none⟩ c [] Tryz.underlying22 Tryz.underlying5 Tryz.underlying9 (fun j hj => by simp at hj)
     simp only [List.length_nil] at hcv
     have hml' : ¬ ((3 * i : Nat) : Int) < 3 * (i : Int) := by omega
     clear hT
     go_wp2
     go_ret
     exact ⟨by unfold gS; rw [← HT.out]; rfl, hb⟩
end Go.Proofs.YtdajgcgliidjbaaGreat
