/-
  The contract of impl's NoSquare.
-/
import Derived.Test.YtpgcnopdbdlahaaGreatJRootA
import Derived.Test.YtpgcnopdbdlahaaGreatIOf
namespace Go.Proofs.YtpgcnopdbdlahaaGreat
open Go.RowKit

/-! NoSquare -/
theorem symG_num {k : Nat} {p : ByteArray} (hp : primeB p = true) (hk : k < gV p) : symG (gS k) p = symN k (gV p) := by
  unfold symG
  rw [hp, rest_gS (modB_prime hp) hk, gV_gS]
  rfl
theorem ret_str {a b : ByteArray} (h : a = b) : Ending.returned (.string a) = .returned (.string b) := congrArg (fun x => Ending.returned (.string x)) h
set_option maxRecDepth 8000 in
set_option maxHeartbeats 2000000 in
theorem noSquare_i (p : ByteArray) (w : World) : Calls Tryz.prog 34 #[.string p] w fun e w' => e = .returned (.string (nosqG p)) ∧ Below w.heap.size w w' := by
  have HP := Lib.hid (primeOk_s p)
  unfold nosqG
  cases hp : primeB p with
  | false =>
    rw [hp] at HP
    rw [if_neg (by decide)]
    go_enter Tryz.func34, Tryz.ntmps34
    go_wp2_with fail
    refine (HP.out _).mono ?_
    rintro e w1 ⟨rfl, rfl⟩
    go_wp2
    go_ret
    exact ⟨rfl, Below.refl _ _⟩
  | true =>
    rw [hp] at HP
    rw [if_pos rfl]
    obtain ⟨okp, pp⟩ := primeB_p hp
    obtain ⟨n1, n2, n3, n4⟩ := nosqN_spec pp
    have hlt := nosqN_lt pp
    have HS : Hid (∀ k w, k < gV p → Calls Tryz.prog 73 #[.string (gS k), .string p] w (SymPost (symN k (gV p)) w)) := fun k w hk => by
      rw [← symG_num hp hk]; exact symbolOf_i (gS k) p w
    have HO : Hid (∀ (k : Nat) w, k < 62 → Calls Tryz.prog 74 #[.int .i64 (k : Int)] w fun e w' => e = .returned (.string (gS k)) ∧ Below w.heap.size w w') := fun k w hk => by
      have hof : ofI (k : Int) = gS k := by unfold ofI; rw [Int.toNat_natCast]
      rw [← hof]; exact greatOf_i (k : Int) w (by omega)
    generalize gV p = n at *
    obtain ⟨M, hM⟩ : ∃ M, nosqN n = M := ⟨_, rfl⟩
    rw [hM] at n1 n2 n3 n4 hlt ⊢
    have HN := Lib.hid (And.intro n3 n4)
    clear hp okp pp hM n3 n4
    go_enter Tryz.func34, Tryz.ntmps34
    go_wp2_with fail
    refine (HP.out _).mono ?_
    rintro e w1 ⟨rfl, rfl⟩
    clear HP
    go_wp2
    go_loopw [3] (fun kv wr => ∃ (k : Nat), 2 ≤ k ∧ k ≤ M ∧ kv = .int .i64 (k : Int) ∧ Hid (Below w.heap.size w wr)) (fun kv _ => 100 - (intOf kv).toNat)
    case atStart => exact ⟨2, by omega, n1, rfl, Below.refl _ _⟩
    case round =>
      obtain ⟨k, k2, kM, rfl, hB⟩ := hrel
      have O1 := Lib.hid (fun w => HO.out k w (by omega))
      have S1 := Lib.hid (fun w => HS.out k w (by omega))
      unfold SymPost at S1
      have HK : Hid ((k = M ∧ (symN k n == -1) = true ∧ (symN k n != -1) = false) ∨ k ≠ M ∧ (symN k n == -1) = false ∧ (symN k n != -1) = true) := by
        by_cases hkM : k = M
        · exact .inl ⟨hkM, by rw [hkM, HN.out.1]; rfl, by rw [hkM, HN.out.1]; rfl⟩
        · have := HN.out.2 k k2 (by omega)
          exact .inr ⟨hkM, by simpa using this, by simpa using this⟩
      obtain ⟨T, hT⟩ : ∃ T, gS k = T := ⟨_, rfl⟩
      rw [hT] at O1 S1
      have HT := Lib.hid hT
      clear hT
      generalize symN k n = sv at *
      go_wp2_with fail
      refine (O1.out _).mono ?_
      rintro e w2 ⟨rfl, b2⟩
      go_wp2_with fail
      refine (S1.out _).mono ?_
      rintro e w3 ⟨rfl, b3⟩
      have HB3 := Lib.hid (bt (bt hB.out b2) b3)
      clear b2 b3 hB S1
      rcases HK.out with ⟨hkM, q1, q2⟩ | ⟨hkM, q1, q2⟩
      · subst hkM
        clear HK HN HS HO
        go_wp2_with fail
        refine (O1.out _).mono ?_
        rintro e w4 ⟨rfl, b4⟩
        have bb := bt HB3.out b4
        clear b4 HB3 O1
        go_wp2
        go_ret
        exact ⟨ret_str HT.out.symm, bb⟩
      · clear HK O1 HT
        go_wp2
        go_roundw
        case rel => exact ⟨k + 1, by omega, by omega, by go_num, HB3⟩
        case measure => simp [intOf]; omega
end Go.Proofs.YtpgcnopdbdlahaaGreat
