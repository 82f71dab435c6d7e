/-
  The contract of spec.DrawPlaces: a row of its own with twelve numbers of 0 .. 9999.
-/
import Derived.Test.YtpgckdhnmhjkhaaDraw
namespace Go.Proofs.Ytpgckdhnmhjkhaa
open Go.RowKit

theorem Try.info3 : (Try.prog.info? 3).map (fun i => (i.zero, i.size, i.bytes)) = some (some (.int .i64 0), 1, 8) := by kernel_rfl
def intV (zs : List Int) : List Value := zs.map (Value.int .i64)
def Small (n : Nat) (zs : List Int) : Prop := zs.length = n ∧ ∀ z ∈ zs, 0 ≤ z ∧ z < 10000
theorem Small.snoc {n : Nat} {zs : List Int} {x : Int} (h : Small n zs) (h0 : 0 ≤ x) (h1 : x < 10000) : Small (n + 1) (zs ++ [x]) :=
  ⟨by simp [h.1], fun z hz => by
    rcases List.mem_append.1 hz with hz | hz
    · exact h.2 z hz
    · have : z = x := by simpa using hz
      subst this; exact ⟨h0, h1⟩⟩
def PlacesPost (w : World) (e : Ending) (w' : World) : Prop :=
  ∃ v zs, e = .returned v ∧ Small 12 zs ∧ w'.ownsRow w.heap.size 3 1 v 12 (intV zs) ∧ Below w.heap.size w w'
theorem own_base {w : World} {base base' e size n : Nat} {v : Value} {xs : List Value} (h : w.ownsRow base e size v n xs) (hb : base' ≤ base) : w.ownsRow base' e size v n xs := by
  refine ⟨h.1, ?_⟩
  rcases h.2 with h | ⟨g, cap, cur, hv, hg, hh, h3⟩
  · exact .inl h
  · exact .inr ⟨g, cap, cur, hv, by omega, hh, h3⟩

theorem made_two (w : World) (o : Obj) (e : TypeId) : ((w.alloc o).alloc (.cells #[] e)).ownsRow (w.heap.size + 1) e 1 (.slice (some ⟨w.heap.size + 1, 0, none⟩) 0 0) 0 [] := by
  have h := World.ownsRow_made (base := w.heap.size + 1) (e := e) (size := 1) (w.alloc o) #[] 0 (by simp) (by decide) rfl
  rw [World.size_alloc] at h
  exact h

set_option maxRecDepth 100000 in
set_option maxHeartbeats 2000000 in
theorem places_any (A : Option Addr) (n cap : Nat) (w : World) (hd : DrawIn w w.heap.size A n) :
    Calls Try.prog 23 #[.slice A n cap] w (PlacesPost w) := by
  have HD := Lib.hid hd
  have H := Lib.hid (new_any A n cap w hd)
  clear hd
  obtain ⟨i0, hi, hz0, hz1, hz2⟩ := info_parts Try.info3
  go_enter Try.func23, Try.ntmps23
  go_wp2_with (go_at_call 48; refine H.out.mono ?_; rintro e w' ⟨h, rfl, rfl⟩)
  go_loopw [4, 5] (fun v iv wr => ∃ (i : Nat) (zs : List Int), i ≤ 12 ∧ iv = .int .i64 i ∧ Hid (Small i zs) ∧ wr.ownsRow (w.heap.size + 1) 3 1 v i (intV zs) ∧ Hid (Cur wr w.heap.size A n cap) ∧ w.heap.size + 1 ≤ wr.heap.size ∧ Below w.heap.size w wr) (fun _ iv _ => 12 - (intOf iv).toNat)
  case atStart =>
    refine ⟨0, [], by omega, rfl, ⟨rfl, fun z hz => by cases hz⟩, made_two w _ _, ?_, by simp, ((Below.refl _ _).alloc (Nat.le_refl _) _).alloc (by simp) _⟩
    exact ⟨0, h, by omega, by omega, by rw [Below.heap_alloc _ _ _ (by simp)]; exact heap_alloc_new w _⟩
  case round =>
    obtain ⟨i, zs, hi12, rfl, hS, hown, hC, hsz, hb⟩ := hrel
    by_cases hlt : i < 12
    · have HB := Lib.hid (below_big w.heap.size w.heap.size A n cap 10000 wr (Nat.le_refl _) hb.size hC.out (HD.out.below hb) (by omega) (by omega))
      clear hC
      go_wp2_with fail
      refine HB.out.mono ?_
      rintro e w1 ⟨x, rfl, x0, x1, hC1, hg1⟩
      have hs1 := hg1.size
      have hown1 : w1.ownsRow (w.heap.size + 1) 3 1 u4 i (intV zs) := hown.kept hg1 (by
        cases ho : u4.ownBlock with
        | none => exact .inl rfl
        | some k => right; intro e; have := (hown.lt k ho).1; cases e; omega)
      have HC1 := Lib.hid hC1
      have HB1 : Hid (Below w.heap.size w w1) := hb.grown hg1 hb.size (fun k hk => by cases hk; exact Nat.le_refl _)
      clear hC1 hown hg1 hb HB
      go_wp2_with (at_builtin; refine wpList_append_lies _ rfl (.tmp 13) (.tmp 16) _ rfl (w.heap.size + 1) 3 i0 (.int .i64 0) 1 8 Try.underlying33 hi hz0 hz1 hz2 rfl (by omega) _ i _ rfl (hown1.alloc _) ⟨w1.heap.size, 0, none⟩ 1 1 [.int .i64 x] rfl rfl (World.news_of_block (cs := #[.int .i64 x]) (t := 3) (fr := (0, 0)) (heap_alloc_new w1 _)) (by simp [Value.oneCell']) (by omega) (by unfold maxLen; omega) (by omega) (by simp; omega) _ rfl ?_)
      intro g cp w2 hown2 hgrow hat hlt2
      have hC2 : Hid (Cur w2 w.heap.size A n cap) := by
        refine HC1.out.kept ?_
        rw [hgrow.block w.heap.size (by simp; omega) (by
          intro e
          have := (hown1.lt w.heap.size e.symm).1
          omega)]
        exact Below.heap_alloc w1 _ _ (by omega)
      have hB2 : Below w.heap.size w w2 := (HB1.out.alloc HB1.out.size _).grown hgrow (by simp; omega) (fun k hk => by have := (hown1.lt k hk).1; omega)
      have hs2 : w.heap.size + 1 ≤ w2.heap.size := by have := hgrow.size; simp at this; omega
      have hown2' : w2.ownsRow (w.heap.size + 1) 3 1 (.slice (some ⟨g, 0, none⟩) (i + 1) cp) (i + 1) (intV (zs ++ [x])) := by simpa [intV] using hown2
      have hS2 : Hid (Small (i + 1) (zs ++ [x])) := hS.out.snoc x0 x1
      clear hown1 hgrow hat hlt2 hown2 HC1 HB1
      go_wp2
      go_roundw
      case rel => exact ⟨i + 1, zs ++ [x], by omega, by go_num, hS2, hown2', hC2, hs2, hB2⟩
      case measure => simp [intOf]; omega
    · obtain rfl : i = 12 := by omega
      have R : PlacesPost w (.returned u4) wr := ⟨u4, zs, rfl, hS.out, own_base hown (by omega), hb⟩
      clear hown hC hb
      go_wp2
      go_ret
      exact R
end Go.Proofs.Ytpgckdhnmhjkhaa
