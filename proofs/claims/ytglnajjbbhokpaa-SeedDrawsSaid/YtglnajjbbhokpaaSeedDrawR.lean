/-
  What the reference's Choose and Draw hand back.
-/
import Derived.Test.YtglnajjbbhokpaaSeedDraw
namespace Go.Proofs.Ytglnajjbbhokpaa
open Go.RowKit
open SM
set_option linter.unusedVariables false
set_option linter.unusedSimpArgs false

theorem refchoose_any (s : Int) (x : ByteArray) (hx : x.size ≤ 9223372036854775807) (v : Value) (l : List Int) (hmax : l.length ≤ 9223372036854775807) (w : World) (hv : Ints w v l) :
    Calls Try.prog 7 #[.int .i64 s, .string x, v] w fun e w' => e = .returned (.tuple #[.int .i64 (pkI l (ofN s (lA x))), .int .i64 (pkE l)]) ∧ w = w' := by
  have HV := Lib.hid hv
  have H1 := Lib.hid (fun w => refof_any s x hx w)
  have H2 := Lib.hid (fun w hv => refpick_any v l hmax _ (ofN_lt s (lA x)) w hv)
  clear hv
  generalize pkI l (ofN s (lA x)) = a at H2 ⊢
  generalize ofN s (lA x) = h at H1 H2
  go_enter Try.func7, Try.ntmps7
  go_wp2_with (first | (go_at_call 9; refine (H1.out _).mono ?_; rintro e w2 ⟨rfl, rfl⟩) | (go_at_call 12; refine (H2.out _ HV.out).mono ?_; rintro e w2 ⟨rfl, rfl⟩))
  go_ret2
  exact ⟨rfl, rfl⟩

theorem refdraw_any (s : Int) (x : ByteArray) (hx : x.size ≤ 9223372036854775807) (n : Int) (w : World) :
    Calls Try.prog 5 #[.int .i64 s, .string x, .int .i64 n] w fun e w' => e = .returned (.tuple #[.int .i64 (drI (ofN s (lA x)) n), .int .i64 (drE n)]) ∧ w = w' := by
  cases hd : drOk n with
  | false =>
    have HP := Lib.hid (dr_no hd (ofN s (lA x)))
    by_cases h1 : n < 1
    · clear hd
      go_enter Try.func5, Try.ntmps5
      go_wp2_with fail
      go_ret2
      exact ⟨ret_two HP.out.1.symm HP.out.2.symm, rfl⟩
    · have h2 : 1000000000 < n := by
        simp [drOk] at hd; omega
      clear hd
      go_enter Try.func5, Try.ntmps5
      go_wp2_with fail
      go_ret2
      exact ⟨ret_two HP.out.1.symm HP.out.2.symm, rfl⟩
  | true =>
    have HP := Lib.hid (dr_yes hd (ofN s (lA x)))
    have h0 := drOk_iff.1 hd
    obtain ⟨m, rfl⟩ : ∃ m : Nat, n = (m : Int) := ⟨n.toNat, by omega⟩
    have H1 := Lib.hid (fun w => refof_any s x hx w)
    rw [Int.toNat_natCast] at HP
    have hlt := ofN_lt s (lA x)
    generalize ofN s (lA x) = h at H1 HP hlt
    obtain ⟨h1, h2⟩ := h0
    have h3 : ¬ (m : Int) < 1 := by omega
    have h4 : ¬ 1000000000 < (m : Int) := by omega
    have h5 : h % m < m := Nat.mod_lt _ (by omega)
    have h6 : 1 ≤ m := by omega
    have h7 : m ≤ 9223372036854775807 := by omega
    clear hd
    go_enter Try.func5, Try.ntmps5
    go_wp2_with (go_at_call 9; refine (H1.out _).mono ?_; rintro e w2 ⟨rfl, rfl⟩)
    go_ret2
    exact ⟨ret_two (by rw [HP.out.1]; rw [← Int.natCast_emod]; try (unfold wrap64; omega)) HP.out.2.symm, rfl⟩

end Go.Proofs.Ytglnajjbbhokpaa
