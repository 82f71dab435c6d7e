/-
  The contract of impl.ReadDecimal at every text of at most 2^48 bytes, under the library's variables.
-/
import Derived.Test.YtbncjdieilcjjaaDoorWordsReadS
import Derived.Test.YtbncjdieilcjjaaDoorDecI
import Derived.Lib.SmallJoins
namespace Go.Proofs.YtbncjdieilcjjaaDoor
open Go.RowKit

theorem gSyn : Tryd.prog.globalNamed "strconv.ErrSyntax" = some 0 := by kernel_rfl
theorem gSynT : (Tryd.prog.globals[0]?).map (·.type) = some 41 := by kernel_rfl
theorem gRng : Tryd.prog.globalNamed "strconv.ErrRange" = some 1 := by kernel_rfl
theorem gRngT : (Tryd.prog.globals[1]?).map (·.type) = some 41 := by kernel_rfl

/-- The two errors of the library that Atoi reads. -/
def Errs (w : World) : Prop := (∃ tp p, w.var? Tryd.prog "strconv.ErrSyntax" = some #[.iface tp p]) ∧ ∃ tp p, w.var? Tryd.prog "strconv.ErrRange" = some #[.iface tp p]

theorem star : "*" ++ "errors.errorString" = "*errors.errorString" := by decide
theorem ptrRow (u : TypeId) (h : Tryd.prog.typeName? 3 u = some "*errors.errorString") : u = 76 :=
  typeName_ptr_named (nm := "errors.errorString") (by rw [star]; kernel_rfl) (by kernel_rfl) (by decide) u (by rw [star]; exact h)
/-- What the listed variables give: the table of tens, and the two errors. -/
theorem laid_errs {w : World} {x y : String × DataW Unit} {r : List (String × DataW Unit)} (h : laidMet Tryd.prog (x :: y :: ("internal/strconv.uint64pow10", Rows.laid_internal_strconv_uint64pow10) :: ("strconv.ErrRange", Rows.laid_strconv_ErrRange) :: ("strconv.ErrSyntax", Rows.laid_strconv_ErrSyntax) :: r) w) : Tens w ∧ Errs w := by
  have h3 := laidMet.tail (laidMet.tail h)
  have h4 := laidMet.tail h3
  have h5 := laidMet.tail h4
  obtain ⟨a0, s0, hv0, -, -, -⟩ := laid_sentinel h4 gRng gRngT Tryd.underlying41 ptrRow Tryd.underlying76 Tryd.underlying78 rfl rfl Tryd.underlying9 (by kernel_rfl) (by kernel_rfl)
  obtain ⟨a1, s1, hv1, -, -, -⟩ := laid_sentinel h5 gSyn gSynT Tryd.underlying41 ptrRow Tryd.underlying76 Tryd.underlying78 rfl rfl Tryd.underlying9 (by kernel_rfl) (by kernel_rfl)
  exact ⟨tens_of_head h3, ⟨_, _, hv1⟩, ⟨_, _, hv0⟩⟩
theorem Errs.below {B : Nat} {w w' : World} (h : Errs w) (hb : Below B w w') (h1 : 0 < B) (h2 : 1 < B) : Errs w' := by
  obtain ⟨⟨t1, p1, e1⟩, t2, p2, e2⟩ := h
  exact ⟨⟨t1, p1, var?_below hb gSyn h1 e1⟩, t2, p2, var?_below hb gRng h2 e2⟩

theorem atoi_bad (s : ByteArray) (w : World) (hl : s.size ≤ 281474976710656) (he : Errs w) (h : ∀ v, Lib.atoiAll s.data.toList ≠ .ok v) :
    Calls Tryd.prog 19 #[.string s] w fun e w' => ∃ (n : Int) (N : Nat), e = .returned (.tuple #[.int .i64 n, .iface 53 (.pointer (some ⟨N, 0, none⟩))]) ∧ Below w.heap.size w w' := by
  obtain ⟨⟨t1, p1, h1⟩, ⟨t2, p2, h2⟩⟩ := he
  rcases ha : Lib.atoiAll s.data.toList with v | _ | _
  · exact absurd ha (h v)
  · refine (Any.strconv_Atoi_syntax_var Tryd.laysC172 s hl ha t1 p1 w h1).mono ?_
    rintro e w' ⟨N, he, _, _, hb⟩
    exact ⟨0, N, he, hb⟩
  · refine (Any.strconv_Atoi_range_var Tryd.laysC172 s hl ha t2 p2 w h2).mono ?_
    rintro e w' ⟨N, he, _, _, hb⟩
    exact ⟨_, N, he, hb⟩
theorem atoi_good (s : ByteArray) (w : World) (v : Int) (hl : s.size ≤ 281474976710656) (h : Lib.atoiAll s.data.toList = .ok v) :
    Calls Tryd.prog 19 #[.string s] w fun e w' => e = .returned (.tuple #[.int .i64 v, .nilIface]) ∧ Below w.heap.size w w' :=
  (Tryd.strconv_Atoi_ok s (by omega) v h w).mono fun _ _ ⟨he, hw⟩ => ⟨he, by
    rcases hw with rfl | ⟨t, rfl⟩
    · exact Below.refl _ _
    · exact Joins.below_bytesWorld _ w _ t (Nat.le_refl _)⟩

set_option maxHeartbeats 1000000 in
theorem impl_ReadDecimal (s : ByteArray) (w : World) (hs : s.size ≤ 281474976710656) (ht : Tens w) (he : Errs w) :
    Calls Tryd.prog 11 #[.string s] w fun e w' => e = .returned (.tuple #[.int .i64 (rN s), .bool (rB s)]) ∧ Below w.heap.size w w' := by
  have HT := Lib.hid ht
  by_cases hok : ∃ v, Lib.atoiAll s.data.toList = .ok v
  case neg =>
    have E : Hid (rB s = false ∧ rN s = 0) := r_no fun n hn e => hok ⟨n, by rw [← e]; exact atoi_dec hn⟩
    have HC := Lib.hid (atoi_bad s w hs he (fun v hv => hok ⟨v, hv⟩))
    clear hok he ht
    go_enter Tryd.func11, Tryd.ntmps11
    go_wp2_with (go_at_call 19; refine HC.out.mono ?_; rintro e w1 ⟨n, N, rfl, hb⟩)
    go_ret2
    exact ⟨fin_r E.out, hb⟩
  obtain ⟨v, hv⟩ := hok
  have HC := Lib.hid (atoi_good s w v hs hv)
  by_cases c1 : v < 0
  · have E : Hid (rB s = false ∧ rN s = 0) := r_no fun n hn e => by
      rw [← e, atoi_dec hn] at hv
      injection hv with hv
      omega
    clear hv he ht
    go_enter Tryd.func11, Tryd.ntmps11
    go_wp2_with (go_at_call 19; refine HC.out.mono ?_; rintro e w1 ⟨rfl, hb⟩)
    go_ret2
    exact ⟨fin_r E.out, hb⟩
  by_cases c2 : 1000000000 < v
  · have E : Hid (rB s = false ∧ rN s = 0) := r_no fun n hn e => by
      rw [← e, atoi_dec hn] at hv
      injection hv with hv
      omega
    clear hv he ht
    go_enter Tryd.func11, Tryd.ntmps11
    go_wp2_with (go_at_call 19; refine HC.out.mono ?_; rintro e w1 ⟨rfl, hb⟩)
    go_ret2
    exact ⟨fin_r E.out, hb⟩
  by_cases c3 : Lib.itoa v = s.data.toList
  · have E : Hid (rB s = true ∧ rN s = v) := by
      obtain ⟨n, rfl⟩ : ∃ n : Nat, v = (n : Int) := ⟨v.toNat, by omega⟩
      rw [itoa_nat] at c3
      exact r_yes (by omega) c3
    have t1 := text_same c3
    clear hv he ht c3
    go_enter Tryd.func11, Tryd.ntmps11
    go_wp2_with (first | (go_at_call 19; refine HC.out.mono ?_; rintro e w1 ⟨rfl, hb⟩; have HD := Lib.hid (impl_Decimal v w1 (by omega) (by omega) (HT.out.below hb HT.out.lt))) | (go_at_call 8; refine HD.out.mono ?_; rintro e w2 ⟨rfl, hb2⟩))
    go_ret2
    exact ⟨fin_r E.out, hb.trans (hb2.mono hb.size)⟩
  · have E : Hid (rB s = false ∧ rN s = 0) := r_no fun n hn e => by
      rw [← e, atoi_dec hn] at hv
      injection hv with hv
      exact c3 (by rw [← hv, itoa_nat]; exact e)
    have t1 := text_other c3
    clear hv he ht c3
    go_enter Tryd.func11, Tryd.ntmps11
    go_wp2_with (first | (go_at_call 19; refine HC.out.mono ?_; rintro e w1 ⟨rfl, hb⟩; have HD := Lib.hid (impl_Decimal v w1 (by omega) (by omega) (HT.out.below hb HT.out.lt))) | (go_at_call 8; refine HD.out.mono ?_; rintro e w2 ⟨rfl, hb2⟩))
    go_ret2
    exact ⟨fin_r E.out, hb.trans (hb2.mono hb.size)⟩
end Go.Proofs.YtbncjdieilcjjaaDoor
