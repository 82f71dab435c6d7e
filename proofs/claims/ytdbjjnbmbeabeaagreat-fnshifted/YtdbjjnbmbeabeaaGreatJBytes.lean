/-
  Bytes of the call's own, whatever their mark (BRow); the contracts of slices.Reverse at them, of impl.toldBytes, FirstBytes, LastBytes, FromFirst, FromLast.
-/
import Derived.Test.YtdbjjnbmbeabeaaGreatTBytes
import Derived.Test.YtdbjjnbmbeabeaaGreatIOf
import Derived.Lib.ConvBytes
namespace Go.Proofs.YtdbjjnbmbeabeaaGreat
open Go.RowKit

/-- Bytes that lie in a block at or beyond base, free to be written. -/
structure BRow (w : World) (base g : Nat) (L : List UInt8) : Prop where
  ge : base ≤ g
  cell : ∀ i, i < L.length → w.cell? ⟨g, i, none⟩ = some (.int .u8 ((L.getD i 0).toNat : Int))
  free : ∀ i, i < L.length → w.frozen? ⟨g, i, none⟩ = false
theorem BRow.of_own {w : World} {base g n cap : Nat} {L : List UInt8} (h : w.ownsRow base 5 1 (.slice (some ⟨g, 0, none⟩) n cap) n (Lib.byteCells L)) : BRow w base g L ∧ L.length = n := by
  have hl : L.length = n := by have := h.1; simpa [Lib.byteCells] using this
  refine ⟨⟨?_, fun i hi => ?_, fun i _ => h.frozenAt i⟩, hl⟩
  · rcases h.2 with ⟨e, _⟩ | ⟨g', cap', cur, e, hb, _⟩
    · cases e
    · injection e with e1 e2 e3
      injection e1 with e1
      injection e1 with e1
      omega
  · rw [h.cellAt i (by omega)]
    simp [Lib.byteCells, hi]
theorem BRow.set {w : World} {base g i : Nat} {L : List UInt8} (h : BRow w base g L) (hi : i < L.length) (u : UInt8) : BRow (w.setCell ⟨g, i, none⟩ (.int .u8 (u.toNat : Int))) base g (L.set i u) := by
  refine ⟨h.ge, fun k hk => ?_, fun k hk => ?_⟩
  · rw [List.length_set] at hk
    rw [getD_set8 _ _ _ _ hi]
    by_cases e : i = k
    · subst e
      rw [if_pos rfl]
      exact World.cell?_setCell_same' _ _ _ (by rw [h.cell i hi]; rfl)
    · rw [if_neg e, World.cell?_setCell_other _ _ _ _ (by intro q; injection q with q1 q2; exact e q2)]
      exact h.cell k hk
  · rw [List.length_set] at hk
    rw [World.frozen?_setCell]
    exact h.free k hk
theorem BRow.kept {w w' : World} {base g : Nat} {L : List UInt8} (h : BRow w base g L) (e : w'.heap[g]? = w.heap[g]?) : BRow w' base g L :=
  ⟨h.ge, fun i hi => (World.cell?_of_block (w := w) (a := ⟨g, i, none⟩) e).trans (h.cell i hi), fun i hi => (World.frozen?_of_block (w := w) (a := ⟨g, i, none⟩) e).trans (h.free i hi)⟩
theorem BRow.conv {w : World} {base g cap : Nat} {L : List UInt8} {src dst e : TypeId} {P : Program} (h : BRow w base g L) (hs : P.underlying src = some (.slice e)) (he : P.underlying e = some (.int .u8)) (hd : P.underlying dst = some .string) :
    (convert src dst (.slice (some ⟨g, 0, none⟩) L.length cap)).run P w = .ok (.string (txt L)) w :=
  run_convert_bytes_back w src dst e _ cap L hs he hd fun j hj => by
    have := h.cell j hj
    rw [List.getD_eq_getElem?_getD, List.getElem?_eq_getElem hj] at this
    have e : (⟨g, 0, none⟩ : Addr).add j = ⟨g, j, none⟩ := by
      unfold Addr.add
      split
      · subst_vars; rfl
      · simp
    rw [e]
    exact this
def RevB (base g : Nat) (l : List UInt8) (w : World) (e : Ending) (w' : World) : Prop :=
  e = .returned (.tuple #[]) ∧ BRow w' base g l.reverse ∧ Below base w w'
set_option maxRecDepth 8000 in
set_option maxHeartbeats 2000000 in
theorem reverse_row (base cap g n : Nat) (l : List UInt8) (w : World) (h : BRow w base g l) (hn : l.length = n) (hl : n ≤ 2000000) :
    Calls Tryz.prog 61 #[.slice (some ⟨g, 0, none⟩) n cap] w (RevB base g l w) := by
  have R0 : ∀ (i : Nat) (L : List UInt8) (w' : World), RevRel l n i L → n - 1 - i ≤ i → BRow w' base g L → Below base w w' → RevB base g l w (.returned (.tuple #[])) w' := by
    intro i L w' h1 h2 h3 h4
    refine ⟨rfl, ?_, h4⟩
    rw [← h1.done hn h2]; exact h3
  have R := Lib.hid R0
  have H := Lib.hid h
  have hg1 := h.ge
  have HN := Lib.hid hn
  clear h hn R0
  go_enter Tryz.func61, Tryz.ntmps61
  go_wp2
  go_loopw [2, 3] (fun iv jv wr => ∃ (i : Nat) (L : List UInt8), i ≤ n ∧ iv = .int .i64 i ∧ jv = .int .i64 ((n : Int) - 1 - i) ∧ Hid (RevRel l n i L) ∧ Hid (BRow wr base g L) ∧ Hid (Below base w wr)) (fun iv _ _ => n - (intOf iv).toNat)
  case atStart => exact ⟨0, l, by omega, rfl, by simp, RevRel.start l HN.out, H, Below.refl _ _⟩
  case round =>
    obtain ⟨i, L, hin, rfl, rfl, hR, hO, hB⟩ := hrel
    by_cases hlt : i < n - 1 - i
    · obtain ⟨j, hj⟩ : ∃ j, n - 1 - i = j := ⟨_, rfl⟩
      have hji : (n : Int) - 1 - (i : Int) = (j : Int) := by omega
      rw [hji]
      have hNx := hR.out.next hlt
      rw [hj] at hNx
      have hlt1 : (i : Int) < (j : Int) := by omega
      have hLl := hR.out.len
      have ci := hO.out.cell i (by omega)
      have cj := hO.out.cell j (by omega)
      have fi := hO.out.free i (by omega)
      have fj := hO.out.free j (by omega)
      generalize L.getD i 0 = ui at *
      generalize L.getD j 0 = uj at *
      have S1 := hO.out.set (i := i) (by omega) uj
      have S2 := S1.set (i := j) (by rw [List.length_set]; omega) ui
      have HS := Lib.hid S2
      have HNx := Lib.hid hNx
      have HB2 : Hid (Below base w ((wr.setCell ⟨g, i, none⟩ (.int .u8 (uj.toNat : Int))).setCell ⟨g, j, none⟩ (.int .u8 (ui.toNat : Int)))) := (hB.out.setCell (p := ⟨g, i, none⟩) hg1 _).setCell (p := ⟨g, j, none⟩) hg1 _
      have k1 : (i : Int) < (n : Int) := by omega
      have k2 : (j : Int) < (n : Int) := by omega
      have k3 : ¬ i = j := by omega
      have k4 : ¬ j = i := by omega
      clear hR hO hB S1 S2 hNx hLl hj
      go_wp2
      go_region
      all_goals (
        go_wp2
        go_roundw
        case rel => exact ⟨i + 1, _, by omega, by go_num, by simp; omega, HNx, HS.out.kept rfl, bdN HB2.out 1⟩
        case measure => simp [intOf]; omega)
    · have hlt1 : ¬ (i : Int) < (n : Int) - 1 - (i : Int) := by omega
      go_wp2
      go_end0
      exact R.out i L _ hR.out (by omega) hO.out hB.out

theorem end_next {s : List UInt8} {k i : Nat} (h : i < s.length) (hk : s.length ≤ k) : (List.replicate (k - i) 0 ++ s.drop (s.length - i)).set (k - 1 - i) (s[s.length - 1 - i]'(by omega)) = List.replicate (k - (i + 1)) 0 ++ s.drop (s.length - (i + 1)) := by
  rw [show k - i = k - (i + 1) + 1 from by omega, show k - 1 - i = k - (i + 1) from by omega, ← List.replicate_append_replicate, List.append_assoc, List.set_append_right _ _ (by simp), List.length_replicate, Nat.sub_self]
  congr 1
  rw [List.drop_eq_getElem_cons (show s.length - (i + 1) < s.length by omega), show s.length - (i + 1) + 1 = s.length - i from by omega]
  show (s[s.length - 1 - i]'(by omega)) :: s.drop (s.length - i) = _
  congr 2
  omega
theorem start_next {s : List UInt8} {k i : Nat} (h : i < s.length) (hk : s.length ≤ k) : (s.reverse.take i ++ List.replicate (k - i) 0).set i (s[s.length - 1 - i]'(by omega)) = s.reverse.take (i + 1) ++ List.replicate (k - (i + 1)) 0 := by
  have hl : (s.reverse.take i).length = i := by rw [List.length_take, List.length_reverse]; omega
  rw [List.set_append_right _ _ (by omega), hl, Nat.sub_self, show k - i = k - (i + 1) + 1 from by omega, List.replicate_succ, List.set_cons_zero, List.take_succ_eq_append_getElem (by rw [List.length_reverse]; exact h), List.append_assoc, List.getElem_reverse]
  rfl
/-! FromFirst, FromLast -/
theorem gV_tail {t : ByteArray} (h : 0 < t.size) (h0 : t[0] = 0) : gV (t.extract 1 t.size) = gV t := by
  rw [extract_txt]
  unfold gV
  rw [txt_list]
  have hl : 0 < t.data.toList.length := by rw [Array.length_toList]; exact h
  have e : t.data.toList = t.data.toList[0] :: t.data.toList.drop 1 := by
    have := List.drop_eq_getElem_cons hl
    rwa [List.drop_zero] at this
  have e0 : t.data.toList[0] = 0 := h0
  conv => rhs; rw [e, bN_cons, e0]
  simp
set_option maxRecDepth 8000 in
set_option maxHeartbeats 1000000 in
theorem fromFirst_i (b : ByteArray) (w : World) : Calls Tryz.prog 76 #[.string b] w fun e w' => e = .returned (.string (fromG b)) ∧ w = w' := by
  unfold fromG
  by_cases hl : 160 < b.size
  · rw [if_neg (by omega)]
    have hl' : (160 : Int) < (b.size : Int) := by omega
    go_enter Tryz.func76, Tryz.ntmps76
    go_wp2
    go_ret
    exact ⟨rfl, rfl⟩
  · rw [if_pos (by omega)]
    have hl' : ¬ (160 : Int) < (b.size : Int) := by omega
    go_enter Tryz.func76, Tryz.ntmps76
    go_wp2
    go_loop [0] (fun bv => ∃ t : ByteArray, t.size ≤ 160 ∧ bv = .string t ∧ Hid (gV t = gV b)) (fun bv => match bv with | .string t => t.size | _ => 0)
    case atStart => exact ⟨b, by omega, rfl, rfl⟩
    case round =>
      obtain ⟨t, ht, rfl, hV⟩ := hrel
      by_cases h0 : t.size = 0
      · have he : t.toList = [] := by have := isEmpty_size (s := t); rw [h0] at this; simpa using this
        have hT : Hid (t = gS (gV b)) := by rw [← hV.out]; exact (gS_gV (okG_empty h0)).symm
        clear hV h0
        go_wp2
        go_ret
        exact ⟨congrArg (fun x => Ending.returned (Value.string x)) hT.out, rfl⟩
      · have he : t.toList.isEmpty = false := by rw [isEmpty_size]; simpa using h0
        have h3 : 0 < t.size := by omega
        have h4 : (0 : Int) < (t.size : Int) := by omega
        by_cases hz : t[0] = 0
        · have hz' : ((t[0].toNat : Int) == 0) = true := by rw [hz]; rfl
          have hN : Hid (gV (t.extract 1 t.size) = gV b) := (gV_tail h3 hz).trans hV.out
          have hs1 : (t.extract 1 t.size).size = t.size - 1 := by rw [ByteArray.size_extract]; omega
          have h5 : (1 : Int) ≤ (t.size : Int) := by omega
          clear hz h0 hV
          go_wp2
          go_round
          case rel => exact ⟨t.extract 1 t.size, by omega, rfl, hN⟩
          case measure => show (t.extract 1 t.size).size < t.size; omega
        · have hz0 : t[0].toNat ≠ 0 := fun e => hz (by rw [← UInt8.toNat_inj]; simpa using e)
          have hz' : ((t[0].toNat : Int) == 0) = false := by simpa using hz0
          have hT : Hid (t = gS (gV b)) := by
            rw [← hV.out]
            refine (gS_gV ?_).symm
            rw [okG_head h3 (by omega)]
            simpa using hz0
          clear hV h0 hz hz0
          go_wp2
          go_ret
          exact ⟨congrArg (fun x => Ending.returned (Value.string x)) hT.out, rfl⟩
theorem BRow.made (w : World) (s : ByteArray) : BRow (Lib.bytesWorld w 5 s) w.heap.size w.heap.size s.data.toList := by
  have hl : s.data.toList.length = s.size := by simp
  refine ⟨Nat.le_refl _, fun i hi => Lib.bytesWorld_cell w _ s i (by omega), fun i hi => ?_⟩
  have hb := Lib.bytesWorld_at_new w 5 s
  have hc : s.size ≤ (Lib.bytesCells w 5 s).size := by
    unfold Lib.bytesCells
    rw [Array.size_append, Array.size_map]
    have : s.data.size = s.size := rfl
    omega
  simp only [World.frozen?, hb]
  simp
  omega
theorem below_made (w : World) (s : ByteArray) (e : TypeId) : Below w.heap.size w (Lib.bytesWorld w e s) :=
  ⟨rfl, rfl, rfl, by rw [Lib.bytesWorld_size]; omega, fun i hi => Lib.bytesWorld_at_old w e s i hi⟩
end Go.Proofs.YtdbjjnbmbeabeaaGreat
