/-
  The contracts of spec.l02Trim and spec.l02In.
-/
import Derived.Test.YtkpcocdflcpnoaaNRow
namespace Go.Proofs.Ytkpcocdflcpnoaa
open Go.RowKit

theorem take_snocN (l : List Nat) {k : Nat} (h : k < l.length) : l.take (k + 1) = l.take k ++ [l[k]] := List.take_succ_eq_append_getElem h
def TrimPost (A : Option Addr) (cap : Nat) (l : List Nat) (w : World) (e : Ending) (w' : World) : Prop :=
  ∃ m, m ≤ l.length ∧ e = .returned (.slice A m cap) ∧ w = w' ∧ lV (l.take m) = lV l ∧ Trimmed (l.take m)

set_option maxHeartbeats 1000000 in
theorem trim_any (b cap : Nat) (A : Option Addr) (l : List Nat) (w : World) (h : RowN w b A cap l) (hl : l.length ≤ 2000000) :
    Calls Try.prog 44 #[.slice A l.length cap] w (TrimPost A cap l w) := by
  have H := Lib.hid h
  have hcap : l.length ≤ cap ∧ (A = none → l.length = 0 ∧ cap = 0) := by
    rcases h.2 with ⟨h1, h2⟩ | ⟨g, cp, cur, hv, _, _, h3, _⟩
    · injection h1 with e1 e2 e3; subst e3; exact ⟨by omega, fun _ => ⟨h2, rfl⟩⟩
    · injection hv with e1 e2 e3; subst e1 e3; exact ⟨h3, fun e => by cases e⟩
  clear h
  obtain ⟨n, hn⟩ : ∃ n, l.length = n := ⟨_, rfl⟩
  rw [hn] at hcap hl ⊢
  have HN := Lib.hid hn
  clear hn
  have hc1 := hcap.1
  have HC := Lib.hid hcap.2
  clear hcap
  go_enter Try.func44, Try.ntmps44
  go_wp2
  go_loop [3] (fun nv => ∃ m : Nat, m ≤ n ∧ nv = .int .i64 m ∧ Hid (lV (l.take m) = lV l)) (fun nv => (intOf nv).toNat)
  case atStart => exact ⟨n, Nat.le_refl _, rfl, by show _ = _; rw [List.take_of_length_le (by rw [HN.out]; omega)]⟩
  case round =>
    obtain ⟨m, hm, rfl, hv⟩ := hrel
    by_cases h0 : 0 < m
    · obtain ⟨k, rfl⟩ : ∃ k, m = k + 1 := ⟨m - 1, by omega⟩
      have hk : k < l.length := by rw [HN.out]; omega
      obtain ⟨g, rfl, _, _, hc, _⟩ := H.out.at_ hk
      have h0' : (0 : Int) < ((k + 1 : Nat) : Int) := by omega
      have hkn : (k : Int) < (n : Int) := by omega
      by_cases hz : l[k] = 0
      · have hz' : ((l[k] : Int) == 0) = true := by simp [hz]
        have hv2 : Hid (lV (l.take k) = lV l) := by
          show _ = _
          rw [← hv.out, take_snocN l hk, lV_snoc, hz]; simp
        clear hz
        go_wp2
        go_round
        case rel => exact ⟨k, by omega, by go_num, hv2⟩
        case measure => simp [intOf]
      · have hz' : ((l[k] : Int) == 0) = false := by simpa using hz
        have R : ∀ w, TrimPost (some ⟨g, 0, none⟩) cap l w (.returned (.slice (some ⟨g, 0, none⟩) (k + 1) cap)) w := fun w => ⟨k + 1, by omega, rfl, rfl, hv.out, .inr ⟨_, _, take_snocN l hk, by omega⟩⟩
        have R := Lib.hid R
        clear hz
        go_wp2
        go_ret
        exact R.out _
    · obtain rfl : m = 0 := by omega
      have R : ∀ w, TrimPost A cap l w (.returned (.slice A 0 cap)) w := fun w => ⟨0, by omega, rfl, rfl, hv.out, .inl rfl⟩
      have R := Lib.hid R
      cases A with
      | none =>
        obtain ⟨e1, rfl⟩ := HC.out rfl
        go_wp2
        go_ret
        exact R.out _
      | some a =>
        go_wp2
        go_ret
        exact R.out _

/-! spec.l02In -/
def seg (l : List UInt8) (i j : Nat) : Nat := bN ((l.take j).drop i)
theorem seg_snoc {s : ByteArray} {i j : Nat} (hj : j < s.size) (hi : i ≤ j) : seg s.data.toList i (j + 1) = 256 * seg s.data.toList i j + s[j].toNat := by
  unfold seg
  rw [take_snoc s j hj, List.drop_append_of_le_length (by rw [List.length_take, Array.length_toList]; show i ≤ min j s.size; omega), bN_snoc]
theorem seg_self (l : List UInt8) (i : Nat) : seg l i i = 0 := by
  unfold seg
  rw [List.drop_of_length_le (by rw [List.length_take]; omega)]; rfl
theorem seg_lt (l : List UInt8) (i j : Nat) (h : j ≤ i + 3) : seg l i j < 16777216 := by
  unfold seg
  have := bN_lt ((l.take j).drop i)
  have hl : ((l.take j).drop i).length ≤ 3 := by rw [List.length_drop, List.length_take]; omega
  have : 256 ^ ((l.take j).drop i).length ≤ 256 ^ 3 := Nat.pow_le_pow_right (by omega) hl
  omega
theorem seg_split {l : List UInt8} {e : Nat} (he : e ≤ l.length) (h0 : 0 < e) : bN (l.take e) = seg l (e - 3) e + 16777216 * bN (l.take (e - 3)) := by
  have e1 : l.take e = l.take (e - 3) ++ (l.take e).drop (e - 3) := by
    have := List.take_append_drop (e - 3) (l.take e)
    rw [List.take_take, show min (e - 3) e = e - 3 from by omega] at this
    exact this.symm
  have h1 : bN (l.take e) = bN (l.take (e - 3)) * 256 ^ ((l.take e).drop (e - 3)).length + seg l (e - 3) e := by
    conv => lhs; rw [e1]
    exact bN_append _ _
  rw [h1]
  by_cases h3 : 3 ≤ e
  · have : ((l.take e).drop (e - 3)).length = 3 := by rw [List.length_drop, List.length_take]; omega
    rw [this]; omega
  · have : e - 3 = 0 := by omega
    rw [this]; simp [bN]
/-- What the outer loop holds at e: o are the limbs of what stands behind. -/
def InRel (l : List UInt8) (e : Nat) (o : List Nat) : Prop := Limbs o ∧ bN l = lV o + 16777216 ^ o.length * bN (l.take e)
theorem InRel.next {l : List UInt8} {e : Nat} {o : List Nat} (h : InRel l e o) (he : e ≤ l.length) (h0 : 0 < e) : InRel l (e - 3) (o ++ [seg l (e - 3) e]) := by
  refine ⟨h.1.snoc (seg_lt _ _ _ (by omega)), ?_⟩
  rw [h.2, seg_split he h0, lV_snoc, List.length_append, List.length_singleton, Nat.pow_succ, Nat.mul_add, Nat.mul_assoc]
  omega
theorem Try.infoI : (Try.prog.info? 3).map (fun i => (i.zero, i.size, i.bytes)) = some (some (.int .i64 0), 1, 8) := by kernel_rfl
def InP (n : Nat) (l : List Nat) : Prop := Limbs l ∧ Trimmed l ∧ lV l = n
theorem trim_row {w1 : World} {b m cap : Nat} {A : Option Addr} {o : List Nat} (hm : m ≤ o.length) (hr : RowN w1 b A cap o) : RowN w1 b A cap (o.take m) ∧ (o.take m).length = m := ⟨hr.take hm, by rw [List.length_take]; omega⟩

/-- A row that one limb was appended to. -/
theorem row_snoc {w wr w1 : World} {g cap cp y : Nat} {A : Option Addr} {o : List Nat} {ob : Obj} (hb : Below w.heap.size w wr) (hO : RowN wr w.heap.size A cap o)
    (hown1 : w1.ownsRow w.heap.size 3 1 (.slice (some ⟨g, 0, none⟩) (o.length + 1) cp) (o.length + 1) (natV o ++ [.int .i64 (y : Int)])) (hg : World.grownBy (wr.alloc ob) w1 (Value.ownBlock (.slice A o.length cap))) :
    RowN w1 w.heap.size (some ⟨g, 0, none⟩) cp (o ++ [y]) ∧ Below w.heap.size w w1 := by
  have hb1 : Below w.heap.size w (wr.alloc ob) := hb.alloc hb.size ob
  refine ⟨?_, hb1.grown hg hb1.size fun j hj => (World.ownsRow.lt hO j hj).1⟩
  unfold RowN
  rw [List.length_append, List.length_singleton]
  have : natV (o ++ [y]) = natV o ++ [.int .i64 (y : Int)] := by simp [natV]
  rw [this]
  exact hown1

set_option maxHeartbeats 2000000 in
theorem in_any (s : ByteArray) (w : World) (hs : s.size ≤ 1000000) : Calls Try.prog 48 #[.string s] w (RowPost (InP (gV s)) w) := by
  obtain ⟨i0, hi, hz0, hz1, hz2⟩ := info_parts Try.infoI
  go_enter Try.func48, Try.ntmps48
  go_wp2
  go_loopw [3, 4] (fun v ev wr => ∃ (e : Int) (o : List Nat) (A : Option Addr) (cap : Nat), -3 < e ∧ e ≤ s.size ∧ ev = .int .i64 e ∧ v = .slice A o.length cap ∧ o.length ≤ s.size - e.toNat ∧ Hid (InRel s.data.toList e.toNat o) ∧ Hid (RowN wr w.heap.size A cap o) ∧ Below w.heap.size w wr) (fun _ ev _ => (intOf ev).toNat)
  case atStart =>
    refine ⟨s.size, [], some ⟨w.heap.size, 0, none⟩, 0, by omega, by omega, rfl, rfl, by simp, ⟨Limbs.nil, ?_⟩, World.ownsRow_made _ #[] 0 (Nat.le_refl _) (by decide) rfl, (Below.refl _ _).alloc (Nat.le_refl _) _⟩
    simp only [Int.toNat_natCast, lV, List.length_nil]
    rw [take_all]; simp
  case round =>
    obtain ⟨e, o, A, cap, he0, he1, rfl, rfl, hol, hR, hO, hb⟩ := hrel
    have hbs := hb.size
    by_cases h0 : 0 < e
    · obtain ⟨k, rfl⟩ : ∃ k : Nat, e = (k : Int) := ⟨e.toNat, by omega⟩
      simp only [Int.toNat_natCast] at hol hR
      have hdk : decide (0 < k) = true := by simp; omega
      have hk0 : 0 < k := by omega
      have hks : k ≤ s.size := by omega
      have hN := Lib.hid (hR.out.next (by rw [Array.length_toList]; exact hks) hk0)
      clear hR h0 he0 he1
      go_wp2
      go_loop [5, 6] (fun nv iv => ∃ t x : Nat, t ≤ 3 ∧ x < 16777216 ∧ iv = .int .i64 ((k : Int) - 3 + t) ∧ nv = .int .i64 x ∧ Hid (x = seg s.data.toList (k - 3) (k + t - 3))) (fun _ iv => ((k : Int) - intOf iv).toNat)
      case atStart => exact ⟨0, 0, by omega, by omega, by simp, rfl, by show _ = _; rw [show k + 0 - 3 = k - 3 from by omega, seg_self]⟩
      case round =>
        obtain ⟨t, x, ht, hx, rfl, rfl, hX⟩ := hrel
        by_cases h3 : t < 3
        · by_cases hj : 3 ≤ k + t
          · obtain ⟨j, hj2⟩ : ∃ j, k + t = j + 3 := ⟨k + t - 3, by omega⟩
            have hjs : j < s.size := by omega
            have hji : (k : Int) - 3 + t = (j : Int) := by omega
            rw [show k + t - 3 = j from by omega] at hX
            have hX2 : Hid (256 * x + s[j].toNat = seg s.data.toList (k - 3) (k + (t + 1) - 3)) := by
              show _ = _
              rw [show k + (t + 1) - 3 = j + 1 from by omega, seg_snoc hjs (by omega), ← hX.out]
            have hx2 : 256 * x + s[j].toNat < 16777216 := by rw [hX2.out]; exact seg_lt _ _ _ (by omega)
            have hlt : (j : Int) < (k : Int) := by omega
            have hc := s[j].toNat_lt
            rw [hji]
            clear hX
            go_wp2
            go_round
            case rel => exact ⟨t + 1, 256 * x + s[j].toNat, by omega, hx2, by go_num, by go_num, hX2⟩
            case measure => simp [intOf]; omega
          · have hX2 : Hid (x = seg s.data.toList (k - 3) (k + (t + 1) - 3)) := by
              show _ = _
              rw [hX.out, show k + t - 3 = 0 from by omega, show k + (t + 1) - 3 = 0 from by omega]
            clear hX
            have hneg : (k : Int) - 3 + t < 0 := by omega
            go_wp2
            go_round
            case rel => exact ⟨t + 1, x, by omega, hx, by go_num, rfl, hX2⟩
            case measure => simp [intOf]; omega
        · obtain rfl : t = 3 := by omega
          rw [show k + 3 - 3 = k from by omega] at hX
          obtain rfl := hX.out
          obtain ⟨y, hy⟩ : ∃ y, y = seg s.data.toList (k - 3) k := ⟨_, rfl⟩
          rw [← hy] at hN hx ⊢
          clear hy
          go_wp2_with (at_builtin; refine wpList_append_lies _ rfl (.tmp 30) (.tmp 32) _ rfl w.heap.size 3 i0 (.int .i64 0) 1 8 Try.underlying55 hi hz0 hz1 hz2 rfl (by omega) _ o.length _ rfl (World.ownsRow.alloc hO.out _) ⟨wr.heap.size, 0, none⟩ 1 1 [.int .i64 (y : Int)] rfl rfl (World.news_of_block (cs := #[.int .i64 (y : Int)]) (t := 3) (fr := (0, 0)) (heap_alloc_new wr _)) (by simp [Value.oneCell']) (by omega) (by unfold maxLen; omega) (by omega) (by simp; omega) _ rfl ?_)
          intro g cp w1 hown1 hgrow hat hlt1
          have R := Lib.hid (row_snoc hb hO.out hown1 hgrow)
          clear hown1 hgrow hat hlt1 hO
          go_wp2
          go_roundw
          case rel => exact ⟨(k : Int) - 3, o ++ [y], _, _, by omega, by omega, rfl, by simp, by simp; omega, by rw [show ((k : Int) - 3).toNat = k - 3 from by omega]; exact hN, R.out.1, R.out.2⟩
          case measure => simp [intOf]; omega
    · have he : e.toNat = 0 := by omega
      rw [he] at hR hol
      have hP : Hid (lV o = gV s ∧ Limbs o) := by
        refine ⟨?_, hR.out.1⟩
        have := hR.out.2
        simp [bN_nil] at this
        exact this.symm
      have hTr := Lib.hid (trim_any _ cap A o wr hO.out (by omega))
      have h0' : ¬ (0 : Int) < e := h0
      clear hR
      go_wp2_with (go_at_call 44; refine hTr.out.mono ?_; rintro e w1 ⟨m, hm, rfl, rfl, hv, ht⟩)
      go_ret
      have hL : (o.take m).length = m := by rw [List.length_take]; omega
      refine ⟨A, cap, o.take m, by rw [hL]; rfl, ⟨hP.out.2.take m, ht, by rw [hv]; exact hP.out.1⟩, hO.out.take hm, hb⟩
end Go.Proofs.Ytkpcocdflcpnoaa
