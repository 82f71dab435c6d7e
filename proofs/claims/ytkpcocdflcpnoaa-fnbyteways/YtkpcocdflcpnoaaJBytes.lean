/-
  Bytes of the call's own, whatever their mark (BRow); the contracts of slices.Reverse at them, of impl.toldBytes, FirstBytes, LastBytes, FromFirst, FromLast.
-/
import Derived.Test.YtkpcocdflcpnoaaTBytes
import Derived.Test.YtkpcocdflcpnoaaIOf
import Derived.Lib.ConvBytes
namespace Go.Proofs.Ytkpcocdflcpnoaa
open Go.RowKit

/-- Bytes that lie in a block at or beyond base, free to be written. -/
structure BRow (w : World) (base g : Nat) (L : List UInt8) : Prop where
  ge : base ≤ g
  cell : ∀ i, i < L.length → w.cell? ⟨g, i, none⟩ = some (.int .u8 ((L.getD i 0).toNat : Int))
  free : ∀ i, i < L.length → w.frozen? ⟨g, i, none⟩ = false
theorem BRow.of_own {w : World} {base g n cap : Nat} {L : List UInt8} (h : w.ownsRow base 5 1 (.slice (some ⟨g, 0, none⟩) n cap) n (Lib.byteCells L)) : BRow w base g L ∧ L.length = n := by
  have hl : L.length = n := by have := h.1; simpa [Lib.byteCells] using this
  refine ⟨⟨?_, fun i hi => ?_, fun i _ => h.frozenAt i⟩, hl⟩
  · rcases h.2 with ⟨e, _⟩ | ⟨g', cap', cur, e, hb, _⟩
    · cases e
    · injection e with e1 e2 e3
      injection e1 with e1
      injection e1 with e1
      omega
  · rw [h.cellAt i (by omega)]
    simp [Lib.byteCells, hi]
theorem BRow.set {w : World} {base g i : Nat} {L : List UInt8} (h : BRow w base g L) (hi : i < L.length) (u : UInt8) : BRow (w.setCell ⟨g, i, none⟩ (.int .u8 (u.toNat : Int))) base g (L.set i u) := by
  refine ⟨h.ge, fun k hk => ?_, fun k hk => ?_⟩
  · rw [List.length_set] at hk
    rw [getD_set8 _ _ _ _ hi]
    by_cases e : i = k
    · subst e
      rw [if_pos rfl]
      exact World.cell?_setCell_same' _ _ _ (by rw [h.cell i hi]; rfl)
    · rw [if_neg e, World.cell?_setCell_other _ _ _ _ (by intro q; injection q with q1 q2; exact e q2)]
      exact h.cell k hk
  · rw [List.length_set] at hk
    rw [World.frozen?_setCell]
    exact h.free k hk
theorem BRow.kept {w w' : World} {base g : Nat} {L : List UInt8} (h : BRow w base g L) (e : w'.heap[g]? = w.heap[g]?) : BRow w' base g L :=
  ⟨h.ge, fun i hi => (World.cell?_of_block (w := w) (a := ⟨g, i, none⟩) e).trans (h.cell i hi), fun i hi => (World.frozen?_of_block (w := w) (a := ⟨g, i, none⟩) e).trans (h.free i hi)⟩
theorem BRow.conv {w : World} {base g cap : Nat} {L : List UInt8} {src dst e : TypeId} {P : Program} (h : BRow w base g L) (hs : P.underlying src = some (.slice e)) (he : P.underlying e = some (.int .u8)) (hd : P.underlying dst = some .string) :
    (convert src dst (.slice (some ⟨g, 0, none⟩) L.length cap)).run P w = .ok (.string (txt L)) w :=
  run_convert_bytes_back w src dst e _ cap L hs he hd fun j hj => by
    have := h.cell j hj
    rw [List.getD_eq_getElem?_getD, List.getElem?_eq_getElem hj] at this
    have e : (⟨g, 0, none⟩ : Addr).add j = ⟨g, j, none⟩ := by
      unfold Addr.add
      split
      · subst_vars; rfl
      · simp
    rw [e]
    exact this
def RevB (base g : Nat) (l : List UInt8) (w : World) (e : Ending) (w' : World) : Prop :=
  e = .returned (.tuple #[]) ∧ BRow w' base g l.reverse ∧ Below base w w'
set_option maxHeartbeats 2000000 in
theorem reverse_row (base cap g n : Nat) (l : List UInt8) (w : World) (h : BRow w base g l) (hn : l.length = n) (hl : n ≤ 2000000) :
    Calls Try.prog 54 #[.slice (some ⟨g, 0, none⟩) n cap] w (RevB base g l w) := by
  have R0 : ∀ (i : Nat) (L : List UInt8) (w' : World), RevRel l n i L → n - 1 - i ≤ i → BRow w' base g L → Below base w w' → RevB base g l w (.returned (.tuple #[])) w' := by
    intro i L w' h1 h2 h3 h4
    refine ⟨rfl, ?_, h4⟩
    rw [← h1.done hn h2]; exact h3
  have R := Lib.hid R0
  have H := Lib.hid h
  have hg1 := h.ge
  have HN := Lib.hid hn
  clear h hn R0
  go_enter Try.func54, Try.ntmps54
  go_wp2
  go_loopw [2, 3] (fun iv jv wr => ∃ (i : Nat) (L : List UInt8), i ≤ n ∧ iv = .int .i64 i ∧ jv = .int .i64 ((n : Int) - 1 - i) ∧ Hid (RevRel l n i L) ∧ Hid (BRow wr base g L) ∧ Hid (Below base w wr)) (fun iv _ _ => n - (intOf iv).toNat)
  case atStart => exact ⟨0, l, by omega, rfl, by simp, RevRel.start l HN.out, H, Below.refl _ _⟩
  case round =>
    obtain ⟨i, L, hin, rfl, rfl, hR, hO, hB⟩ := hrel
    by_cases hlt : i < n - 1 - i
    · obtain ⟨j, hj⟩ : ∃ j, n - 1 - i = j := ⟨_, rfl⟩
      have hji : (n : Int) - 1 - (i : Int) = (j : Int) := by omega
      rw [hji]
      have hNx := hR.out.next hlt
      rw [hj] at hNx
      have hlt1 : (i : Int) < (j : Int) := by omega
      have hLl := hR.out.len
      have ci := hO.out.cell i (by omega)
      have cj := hO.out.cell j (by omega)
      have fi := hO.out.free i (by omega)
      have fj := hO.out.free j (by omega)
      generalize L.getD i 0 = ui at *
      generalize L.getD j 0 = uj at *
      have S1 := hO.out.set (i := i) (by omega) uj
      have S2 := S1.set (i := j) (by rw [List.length_set]; omega) ui
      have HS := Lib.hid S2
      have HNx := Lib.hid hNx
      have HB2 : Hid (Below base w ((wr.setCell ⟨g, i, none⟩ (.int .u8 (uj.toNat : Int))).setCell ⟨g, j, none⟩ (.int .u8 (ui.toNat : Int)))) := (hB.out.setCell (p := ⟨g, i, none⟩) hg1 _).setCell (p := ⟨g, j, none⟩) hg1 _
      have k1 : (i : Int) < (n : Int) := by omega
      have k2 : (j : Int) < (n : Int) := by omega
      have k3 : ¬ i = j := by omega
      have k4 : ¬ j = i := by omega
      clear hR hO hB S1 S2 hNx hLl hj
      go_wp2
      go_region
      all_goals (
        go_wp2
        go_roundw
        case rel => exact ⟨i + 1, _, by omega, by go_num, by simp; omega, HNx, HS.out.kept rfl, bdN HB2.out 1⟩
        case measure => simp [intOf]; omega)
    · have hlt1 : ¬ (i : Int) < (n : Int) - 1 - (i : Int) := by omega
      go_wp2
      go_end0
      exact R.out i L _ hR.out (by omega) hO.out hB.out

/-! toldBytes, FirstBytes, LastBytes -/
theorem writeEnd_any (g n cap i j : Nat) (x : Int) (v : Value) (w : World) (hij : n - 1 - i = j) (hi : i < n) (hn : n ≤ 1000) (hc : w.cell? ⟨g, j, none⟩ = some v) (hf : w.frozen? ⟨g, j, none⟩ = false) :
    Calls Try.prog 52 #[.slice (some ⟨g, 0, none⟩) n cap, .int .i64 (i : Int), .int .u8 x] w fun e w' => e = .returned (.tuple #[]) ∧ w' = w.setCell ⟨g, j, none⟩ (.int .u8 x) := by
  have d1 : (n : Int) - 1 - (i : Int) = (j : Int) := by omega
  have d2 : (j : Int) < (n : Int) := by omega
  go_enter Try.func52, Try.ntmps52
  go_wp2
  go_end0
  exact ⟨rfl, rfl⟩
theorem writeStart_any (g n cap i : Nat) (x : Int) (v : Value) (w : World) (hi : i < n) (hc : w.cell? ⟨g, i, none⟩ = some v) (hf : w.frozen? ⟨g, i, none⟩ = false) :
    Calls Try.prog 53 #[.slice (some ⟨g, 0, none⟩) n cap, .int .i64 (i : Int), .int .u8 x] w fun e w' => e = .returned (.tuple #[]) ∧ w' = w.setCell ⟨g, i, none⟩ (.int .u8 x) := by
  have d2 : (i : Int) < (n : Int) := by omega
  go_enter Try.func53, Try.ntmps53
  go_wp2
  go_end0
  exact ⟨rfl, rfl⟩
theorem end_next {s : List UInt8} {k i : Nat} (h : i < s.length) (hk : s.length ≤ k) : (List.replicate (k - i) 0 ++ s.drop (s.length - i)).set (k - 1 - i) (s[s.length - 1 - i]'(by omega)) = List.replicate (k - (i + 1)) 0 ++ s.drop (s.length - (i + 1)) := by
  rw [show k - i = k - (i + 1) + 1 from by omega, show k - 1 - i = k - (i + 1) from by omega, ← List.replicate_append_replicate, List.append_assoc, List.set_append_right _ _ (by simp), List.length_replicate, Nat.sub_self]
  congr 1
  rw [List.drop_eq_getElem_cons (show s.length - (i + 1) < s.length by omega), show s.length - (i + 1) + 1 = s.length - i from by omega]
  show (s[s.length - 1 - i]'(by omega)) :: s.drop (s.length - i) = _
  congr 2
  omega
theorem start_next {s : List UInt8} {k i : Nat} (h : i < s.length) (hk : s.length ≤ k) : (s.reverse.take i ++ List.replicate (k - i) 0).set i (s[s.length - 1 - i]'(by omega)) = s.reverse.take (i + 1) ++ List.replicate (k - (i + 1)) 0 := by
  have hl : (s.reverse.take i).length = i := by rw [List.length_take, List.length_reverse]; omega
  rw [List.set_append_right _ _ (by omega), hl, Nat.sub_self, show k - i = k - (i + 1) + 1 from by omega, List.replicate_succ, List.set_cons_zero, List.take_succ_eq_append_getElem (by rw [List.length_reverse]; exact h), List.append_assoc, List.getElem_reverse]
  rfl
set_option maxHeartbeats 2000000 in
theorem toldEnd_any (s : ByteArray) (x : Int) (w : World) : Calls Try.prog 51 #[.string s, .int .i64 x, .func (.func 52) #[] #[]] w fun e w' => e = .returned (.string (firstG s x)) ∧ Below w.heap.size w w' := by
  have HG := greatOk_i s
  have E0 : wideB s x = false → firstG s x = ⟨#[]⟩ := fun h => by unfold firstG; rw [h]; rfl
  cases ok : okG s with
  | false =>
    rw [E0 (by unfold wideB; rw [ok]; rfl)]
    rw [ok] at HG
    clear E0
    go_enter Try.func51, Try.ntmps51
    go_wp2_with fail
    refine (HG _).mono ?_
    rintro e w1 ⟨rfl, rfl⟩
    go_wp2
    go_ret
    exact ⟨rfl, Below.refl _ _⟩
  | true =>
    rw [ok] at HG
    have hs := okG_size ok
    by_cases h1 : x < (s.size : Int)
    · rw [E0 (by unfold wideB; rw [ok, decide_eq_false (by omega)]; rfl)]
      clear E0
      go_enter Try.func51, Try.ntmps51
      go_wp2_with fail
      refine (HG _).mono ?_
      rintro e w1 ⟨rfl, rfl⟩
      go_wp2
      go_ret
      exact ⟨rfl, Below.refl _ _⟩
    by_cases h2 : (160 : Int) < x
    · rw [E0 (by unfold wideB; rw [ok, decide_eq_false (show ¬ x ≤ 160 by omega)]; simp)]
      clear E0
      go_enter Try.func51, Try.ntmps51
      go_wp2_with fail
      refine (HG _).mono ?_
      rintro e w1 ⟨rfl, rfl⟩
      go_wp2
      go_ret
      exact ⟨rfl, Below.refl _ _⟩
    obtain ⟨k, rfl⟩ : ∃ k : Nat, x = (k : Int) := ⟨x.toNat, by omega⟩
    have hsl : s.data.toList.length = s.size := by simp
    have hk1 : s.size ≤ k := by omega
    have hk2 : k ≤ 160 := by omega
    have E : firstG s (k : Int) = txt (List.replicate (k - s.size) 0 ++ s.data.toList) := by
      have hw : wideB s (k : Int) = true := by unfold wideB; rw [ok, decide_eq_true (show (s.size : Int) ≤ (k : Int) by omega), decide_eq_true (show (k : Int) ≤ 160 by omega)]; rfl
      skip
      unfold firstG
      rw [hw, if_pos rfl, Int.toNat_natCast]
      skip
    rw [E]
    obtain ⟨i0, hi, hz0, hz1, hz2⟩ := info_parts Try.infoB
    have HSL := Lib.hid hsl
    clear E0 E hsl
    go_enter Try.func51, Try.ntmps51
    go_wp2_with fail
    refine (HG _).mono ?_
    rintro e w1 ⟨rfl, rfl⟩
    clear HG
    go_wp2_with (at_make; refine wpList_make_full _ rfl _ _ 65 rfl w.heap.size 5 i0 (.int .u8 0) 1 Try.underlying65 hi hz0 hz1 .i64 .i64 _ _ k rfl rfl (by first | rfl | omega) (by first | rfl | omega) (by rw [hz2]; omega) (by unfold maxLen; omega) (Nat.le_refl _) ?_; intro w0 hown0 hgrow0)
    have hb0 : Below w.heap.size w w0 := (Below.refl _ _).grown hgrow0 (Nat.le_refl _) (fun k hk => by cases hk)
    have hR0 := Lib.hid (made_bytes hown0)
    clear hown0 hgrow0
    go_loopw [26] (fun iv wr => ∃ (i : Nat), i ≤ s.size ∧ iv = .int .i64 i ∧ Hid (wr.ownsRow w.heap.size 5 1 (.slice (some ⟨w.heap.size, 0, none⟩) k k) k (Lib.byteCells (List.replicate (k - i) 0 ++ s.data.toList.drop (s.size - i)))) ∧ Below w.heap.size w wr) (fun iv _ => s.size - (intOf iv).toNat)
    case atStart =>
      have e0 : List.replicate (k - 0) 0 ++ s.data.toList.drop (s.size - 0) = List.replicate k 0 := by rw [Nat.sub_zero, Nat.sub_zero, List.drop_of_length_le (by rw [HSL.out]; exact Nat.le_refl _), List.append_nil]
      exact ⟨0, Nat.zero_le _, rfl, by rw [e0]; exact hR0, hb0⟩
    case round =>
      clear hR0 hb0
      obtain ⟨i, hik, rfl, hO, hb⟩ := hrel
      have hbs := hb.size
      by_cases hlt : i < s.size
      · have hlt' : (i : Int) < (s.size : Int) := by omega
        obtain ⟨j, hj⟩ : ∃ j, s.size - 1 - i = j := ⟨_, rfl⟩
        have hjs : j < s.size := by omega
        have hji : (s.size : Int) - 1 - (i : Int) = (j : Int) := by omega
        have hj2 : (j : Int) < (s.size : Int) := by omega
        have tn := end_next (s := s.data.toList) (k := k) (i := i) (by rw [HSL.out]; exact hlt) (by rw [HSL.out]; exact hk1)
        have ej : s.data.toList[s.data.toList.length - 1 - i]'(by rw [HSL.out]; omega) = s[j] := by
          have : s.data.toList.length - 1 - i = j := by rw [HSL.out]; exact hj
          simp only [this]; rfl
        rw [ej] at tn
        simp only [HSL.out] at tn
        obtain ⟨p, hp⟩ : ∃ p, k - 1 - i = p := ⟨_, rfl⟩
        rw [hp] at tn
        obtain ⟨v, hcv⟩ : ∃ v, wr.cell? ⟨w.heap.size, p, none⟩ = some v := ⟨_, (hO.out.cellAt p (by omega)).trans (List.getElem?_eq_getElem (by rw [hO.out.1]; omega))⟩
        have hfv := hO.out.frozenAt p
        have S1 := (hO.out.stored p (.int .u8 (s[j].toNat : Int))).1
        
        rw [byteCells_set, tn] at S1
        have HS := Lib.hid S1
        have HW := Lib.hid (writeEnd_any w.heap.size k k i p (s[j].toNat : Int) v wr hp (by omega) (by omega) hcv hfv)
        clear hO S1 tn ej hj hcv hfv hp
        go_wp2_with fail
        refine HW.out.mono ?_
        rintro e w2 ⟨rfl, rfl⟩
        have hb2 := hb.setCell (p := ⟨w.heap.size, p, none⟩) (Nat.le_refl _) (.int .u8 (s[j].toNat : Int))
        clear HW
        generalize wr.setCell ⟨w.heap.size, p, none⟩ (.int .u8 (s[j].toNat : Int)) = w2 at *
        go_wp2
        go_roundw
        case rel => exact ⟨i + 1, by omega, by go_num, HS, hb2⟩
        case measure => simp [intOf]; omega
      · obtain rfl : i = s.size := by omega
        have hlt' : ¬ (s.size : Int) < (s.size : Int) := by omega
        have hO2 := hO.out
        rw [Nat.sub_self, List.drop_zero] at hO2
        have hcv := conv_own (P := Try.prog) (src := 65) (dst := 9) (e := 5) Try.underlying65 Try.underlying5 Try.underlying9 hO2
        clear hO hO2
        go_wp2
        go_ret
        exact ⟨rfl, hb⟩
set_option maxHeartbeats 2000000 in
theorem toldStart_any (s : ByteArray) (x : Int) (w : World) : Calls Try.prog 51 #[.string s, .int .i64 x, .func (.func 53) #[] #[]] w fun e w' => e = .returned (.string (lastG s x)) ∧ Below w.heap.size w w' := by
  have HG := greatOk_i s
  have E0 : wideB s x = false → lastG s x = ⟨#[]⟩ := fun h => by unfold lastG; unfold firstG; rw [h]; rfl
  cases ok : okG s with
  | false =>
    rw [E0 (by unfold wideB; rw [ok]; rfl)]
    rw [ok] at HG
    clear E0
    go_enter Try.func51, Try.ntmps51
    go_wp2_with fail
    refine (HG _).mono ?_
    rintro e w1 ⟨rfl, rfl⟩
    go_wp2
    go_ret
    exact ⟨rfl, Below.refl _ _⟩
  | true =>
    rw [ok] at HG
    have hs := okG_size ok
    by_cases h1 : x < (s.size : Int)
    · rw [E0 (by unfold wideB; rw [ok, decide_eq_false (by omega)]; rfl)]
      clear E0
      go_enter Try.func51, Try.ntmps51
      go_wp2_with fail
      refine (HG _).mono ?_
      rintro e w1 ⟨rfl, rfl⟩
      go_wp2
      go_ret
      exact ⟨rfl, Below.refl _ _⟩
    by_cases h2 : (160 : Int) < x
    · rw [E0 (by unfold wideB; rw [ok, decide_eq_false (show ¬ x ≤ 160 by omega)]; simp)]
      clear E0
      go_enter Try.func51, Try.ntmps51
      go_wp2_with fail
      refine (HG _).mono ?_
      rintro e w1 ⟨rfl, rfl⟩
      go_wp2
      go_ret
      exact ⟨rfl, Below.refl _ _⟩
    obtain ⟨k, rfl⟩ : ∃ k : Nat, x = (k : Int) := ⟨x.toNat, by omega⟩
    have hsl : s.data.toList.length = s.size := by simp
    have hk1 : s.size ≤ k := by omega
    have hk2 : k ≤ 160 := by omega
    have E : lastG s (k : Int) = txt (s.data.toList.reverse ++ List.replicate (k - s.size) 0) := by
      have hw : wideB s (k : Int) = true := by unfold wideB; rw [ok, decide_eq_true (show (s.size : Int) ≤ (k : Int) by omega), decide_eq_true (show (k : Int) ≤ 160 by omega)]; rfl
      unfold lastG
      unfold firstG
      rw [hw, if_pos rfl, Int.toNat_natCast]
      rw [txt_list, List.reverse_append, List.reverse_replicate]
    rw [E]
    obtain ⟨i0, hi, hz0, hz1, hz2⟩ := info_parts Try.infoB
    have HSL := Lib.hid hsl
    clear E0 E hsl
    go_enter Try.func51, Try.ntmps51
    go_wp2_with fail
    refine (HG _).mono ?_
    rintro e w1 ⟨rfl, rfl⟩
    clear HG
    go_wp2_with (at_make; refine wpList_make_full _ rfl _ _ 65 rfl w.heap.size 5 i0 (.int .u8 0) 1 Try.underlying65 hi hz0 hz1 .i64 .i64 _ _ k rfl rfl (by first | rfl | omega) (by first | rfl | omega) (by rw [hz2]; omega) (by unfold maxLen; omega) (Nat.le_refl _) ?_; intro w0 hown0 hgrow0)
    have hb0 : Below w.heap.size w w0 := (Below.refl _ _).grown hgrow0 (Nat.le_refl _) (fun k hk => by cases hk)
    have hR0 := Lib.hid (made_bytes hown0)
    clear hown0 hgrow0
    go_loopw [26] (fun iv wr => ∃ (i : Nat), i ≤ s.size ∧ iv = .int .i64 i ∧ Hid (wr.ownsRow w.heap.size 5 1 (.slice (some ⟨w.heap.size, 0, none⟩) k k) k (Lib.byteCells (s.data.toList.reverse.take i ++ List.replicate (k - i) 0))) ∧ Below w.heap.size w wr) (fun iv _ => s.size - (intOf iv).toNat)
    case atStart => exact ⟨0, Nat.zero_le _, rfl, by simpa using hR0, hb0⟩
    case round =>
      clear hR0 hb0
      obtain ⟨i, hik, rfl, hO, hb⟩ := hrel
      have hbs := hb.size
      by_cases hlt : i < s.size
      · have hlt' : (i : Int) < (s.size : Int) := by omega
        obtain ⟨j, hj⟩ : ∃ j, s.size - 1 - i = j := ⟨_, rfl⟩
        have hjs : j < s.size := by omega
        have hji : (s.size : Int) - 1 - (i : Int) = (j : Int) := by omega
        have hj2 : (j : Int) < (s.size : Int) := by omega
        have tn := start_next (s := s.data.toList) (k := k) (i := i) (by rw [HSL.out]; exact hlt) (by rw [HSL.out]; exact hk1)
        have ej : s.data.toList[s.data.toList.length - 1 - i]'(by rw [HSL.out]; omega) = s[j] := by
          have : s.data.toList.length - 1 - i = j := by rw [HSL.out]; exact hj
          simp only [this]; rfl
        rw [ej] at tn
        obtain ⟨p, hp⟩ : ∃ p, i = p := ⟨_, rfl⟩
        have hp2 := hp
        obtain ⟨v, hcv⟩ : ∃ v, wr.cell? ⟨w.heap.size, p, none⟩ = some v := ⟨_, (hO.out.cellAt p (by omega)).trans (List.getElem?_eq_getElem (by rw [hO.out.1]; omega))⟩
        have hfv := hO.out.frozenAt p
        have S1 := (hO.out.stored p (.int .u8 (s[j].toNat : Int))).1
        subst hp
        rw [byteCells_set, tn] at S1
        have HS := Lib.hid S1
        have HW := Lib.hid (writeStart_any w.heap.size k k i (s[j].toNat : Int) v wr (by omega) hcv hfv)
        clear hO S1 tn ej hj hcv hfv hp2
        go_wp2_with fail
        refine HW.out.mono ?_
        rintro e w2 ⟨rfl, rfl⟩
        have hb2 := hb.setCell (p := ⟨w.heap.size, i, none⟩) (Nat.le_refl _) (.int .u8 (s[j].toNat : Int))
        clear HW
        generalize wr.setCell ⟨w.heap.size, i, none⟩ (.int .u8 (s[j].toNat : Int)) = w2 at *
        go_wp2
        go_roundw
        case rel => exact ⟨i + 1, by omega, by go_num, HS, hb2⟩
        case measure => simp [intOf]; omega
      · obtain rfl : i = s.size := by omega
        have hlt' : ¬ (s.size : Int) < (s.size : Int) := by omega
        have hO2 := hO.out
        rw [List.take_of_length_le (by rw [List.length_reverse, HSL.out]; exact Nat.le_refl _)] at hO2
        have hcv := conv_own (P := Try.prog) (src := 65) (dst := 9) (e := 5) Try.underlying65 Try.underlying5 Try.underlying9 hO2
        clear hO hO2
        go_wp2
        go_ret
        exact ⟨rfl, hb⟩

set_option maxHeartbeats 1000000 in
theorem firstBytes_i (s : ByteArray) (x : Int) (w : World) : Calls Try.prog 20 #[.string s, .int .i64 x] w fun e w' => e = .returned (.string (firstG s x)) ∧ Below w.heap.size w w' := by
  go_enter Try.func20, Try.ntmps20
  go_wp2_with fail
  refine (toldEnd_any s x _).mono ?_
  rintro e w1 ⟨rfl, b1⟩
  go_wp2
  go_ret
  exact ⟨rfl, b1⟩
set_option maxHeartbeats 1000000 in
theorem lastBytes_i (s : ByteArray) (x : Int) (w : World) : Calls Try.prog 21 #[.string s, .int .i64 x] w fun e w' => e = .returned (.string (lastG s x)) ∧ Below w.heap.size w w' := by
  go_enter Try.func21, Try.ntmps21
  go_wp2_with fail
  refine (toldStart_any s x _).mono ?_
  rintro e w1 ⟨rfl, b1⟩
  go_wp2
  go_ret
  exact ⟨rfl, b1⟩

/-! FromFirst, FromLast -/
theorem gV_tail {t : ByteArray} (h : 0 < t.size) (h0 : t[0] = 0) : gV (t.extract 1 t.size) = gV t := by
  rw [extract_txt]
  unfold gV
  rw [txt_list]
  have hl : 0 < t.data.toList.length := by rw [Array.length_toList]; exact h
  have e : t.data.toList = t.data.toList[0] :: t.data.toList.drop 1 := by
    have := List.drop_eq_getElem_cons hl
    rwa [List.drop_zero] at this
  have e0 : t.data.toList[0] = 0 := h0
  conv => rhs; rw [e, bN_cons, e0]
  simp
set_option maxHeartbeats 1000000 in
theorem fromFirst_i (b : ByteArray) (w : World) : Calls Try.prog 23 #[.string b] w fun e w' => e = .returned (.string (fromG b)) ∧ w = w' := by
  unfold fromG
  by_cases hl : 160 < b.size
  · rw [if_neg (by omega)]
    have hl' : (160 : Int) < (b.size : Int) := by omega
    go_enter Try.func23, Try.ntmps23
    go_wp2
    go_ret
    exact ⟨rfl, rfl⟩
  · rw [if_pos (by omega)]
    have hl' : ¬ (160 : Int) < (b.size : Int) := by omega
    go_enter Try.func23, Try.ntmps23
    go_wp2
    go_loop [0] (fun bv => ∃ t : ByteArray, t.size ≤ 160 ∧ bv = .string t ∧ Hid (gV t = gV b)) (fun bv => match bv with | .string t => t.size | _ => 0)
    case atStart => exact ⟨b, by omega, rfl, rfl⟩
    case round =>
      obtain ⟨t, ht, rfl, hV⟩ := hrel
      by_cases h0 : t.size = 0
      · have he : t.toList = [] := by have := isEmpty_size (s := t); rw [h0] at this; simpa using this
        have hT : Hid (t = gS (gV b)) := by rw [← hV.out]; exact (gS_gV (okG_empty h0)).symm
        clear hV h0
        go_wp2
        go_ret
        exact ⟨congrArg (fun x => Ending.returned (Value.string x)) hT.out, rfl⟩
      · have he : t.toList.isEmpty = false := by rw [isEmpty_size]; simpa using h0
        have h3 : 0 < t.size := by omega
        have h4 : (0 : Int) < (t.size : Int) := by omega
        by_cases hz : t[0] = 0
        · have hz' : ((t[0].toNat : Int) == 0) = true := by rw [hz]; rfl
          have hN : Hid (gV (t.extract 1 t.size) = gV b) := (gV_tail h3 hz).trans hV.out
          have hs1 : (t.extract 1 t.size).size = t.size - 1 := by rw [ByteArray.size_extract]; omega
          have h5 : (1 : Int) ≤ (t.size : Int) := by omega
          clear hz h0 hV
          go_wp2
          go_round
          case rel => exact ⟨t.extract 1 t.size, by omega, rfl, hN⟩
          case measure => show (t.extract 1 t.size).size < t.size; omega
        · have hz0 : t[0].toNat ≠ 0 := fun e => hz (by rw [← UInt8.toNat_inj]; simpa using e)
          have hz' : ((t[0].toNat : Int) == 0) = false := by simpa using hz0
          have hT : Hid (t = gS (gV b)) := by
            rw [← hV.out]
            refine (gS_gV ?_).symm
            rw [okG_head h3 (by omega)]
            simpa using hz0
          clear hV h0 hz hz0
          go_wp2
          go_ret
          exact ⟨congrArg (fun x => Ending.returned (Value.string x)) hT.out, rfl⟩
theorem BRow.made (w : World) (s : ByteArray) : BRow (Lib.bytesWorld w 5 s) w.heap.size w.heap.size s.data.toList := by
  have hl : s.data.toList.length = s.size := by simp
  refine ⟨Nat.le_refl _, fun i hi => Lib.bytesWorld_cell w _ s i (by omega), fun i hi => ?_⟩
  have hb := Lib.bytesWorld_at_new w 5 s
  have hc : s.size ≤ (Lib.bytesCells w 5 s).size := by
    unfold Lib.bytesCells
    rw [Array.size_append, Array.size_map]
    have : s.data.size = s.size := rfl
    omega
  simp only [World.frozen?, hb]
  simp
  omega
theorem below_made (w : World) (s : ByteArray) (e : TypeId) : Below w.heap.size w (Lib.bytesWorld w e s) :=
  ⟨rfl, rfl, rfl, by rw [Lib.bytesWorld_size]; omega, fun i hi => Lib.bytesWorld_at_old w e s i hi⟩
set_option maxHeartbeats 1000000 in
theorem fromLast_i (b : ByteArray) (w : World) (hb : b.size ≤ 2000000) : Calls Try.prog 24 #[.string b] w fun e w' => e = .returned (.string (fromL b)) ∧ Below w.heap.size w w' := by
  unfold fromL
  have hcv := Lib.run_convert_string_bytes (P := Try.prog) w 9 22 5 b Try.underlying9 Try.underlying22 Try.underlying5
  have HR := Lib.hid (BRow.made w b)
  have HB := Lib.hid (below_made w b 5)
  have hl : b.data.toList.length = b.size := by simp
  generalize Lib.bytesWorld w 5 b = w0 at *
  generalize grownCap w b.size 0 5 = cp at *
  have HV := Lib.hid (reverse_row w.heap.size cp w.heap.size b.size b.data.toList w0 HR.out hl hb)
  have HL := Lib.hid hl
  clear hl HR
  go_enter Try.func24, Try.ntmps24
  go_wp2_with fail
  refine HV.out.mono ?_
  rintro e w1 ⟨rfl, hr, hb1⟩
  have hcv2 := hr.conv (cap := cp) (P := Try.prog) (src := 22) (dst := 9) (e := 5) Try.underlying22 Try.underlying5 Try.underlying9
  rw [List.length_reverse, HL.out] at hcv2
  have HB2 := Lib.hid (HB.out.trans hb1)
  clear hcv HV HB hr hb1
  go_wp2_with fail
  refine (fromFirst_i _ _).mono ?_
  rintro e w2 ⟨rfl, rfl⟩
  go_wp2
  go_ret
  exact ⟨rfl, HB2.out⟩
end Go.Proofs.Ytkpcocdflcpnoaa
