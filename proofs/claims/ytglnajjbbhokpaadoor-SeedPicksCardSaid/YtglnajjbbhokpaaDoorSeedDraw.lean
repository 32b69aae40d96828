/-
  What the package's Choose and Draw hand back.
-/
import Derived.Test.YtglnajjbbhokpaaDoorSeedPick
namespace Go.Proofs.YtglnajjbbhokpaaDoor
open Go.RowKit
open SM
set_option linter.unusedVariables false
set_option linter.unusedSimpArgs false

theorem choose_any (s : Int) (x : ByteArray) (hx : x.size ≤ 9223372036854775807) (v : Value) (l : List Int) (hmax : l.length ≤ 9223372036854775807) (w : World) (hv : Ints w v l) :
    Calls Tryd.prog 11 #[.int .i64 s, .string x, v] w fun e w' => e = .returned (.tuple #[.int .i64 (pkI l (ofN s (lA x))), .int .i64 (pkE l)]) ∧ Below w.heap.size w w' := by
  have HV := Lib.hid hv
  have H1 := Lib.hid (fun w => of_any s x hx w)
  have H2 := Lib.hid (fun w hv => pick_any v l hmax _ (ofN_lt s (lA x)) w hv)
  clear hv
  generalize pkI l (ofN s (lA x)) = a at H2 ⊢
  generalize ofN s (lA x) = h at H1 H2
  go_enter Tryd.func11, Tryd.ntmps11
  go_wp2_with (go_at_call 17; refine (H1.out _).mono ?_; rintro e w2 ⟨rfl, rfl⟩)
  refine (H2.out _ HV.out).mono ?_
  rintro e w2 ⟨rfl, hb⟩
  have HB := Lib.hid hb
  clear hb
  go_wp2_with fail
  go_ret2
  exact ⟨rfl, HB.out⟩
/-- What Draw hands back. -/
def drOk (n : Int) : Bool := decide (1 ≤ n) && decide (n ≤ 1000000000)
def drI (h : Nat) (n : Int) : Int := if drOk n = true then ((h % n.toNat : Nat) : Int) else 0
def drE (n : Int) : Int := if drOk n = true then 0 else 2
theorem dr_no {n : Int} (h : drOk n = false) (x : Nat) : drI x n = 0 ∧ drE n = 2 := by simp [drI, drE, h]
theorem dr_yes {n : Int} (h : drOk n = true) (x : Nat) : drI x n = ((x % n.toNat : Nat) : Int) ∧ drE n = 0 := by simp [drI, drE, h]
theorem drOk_iff {n : Int} : drOk n = true ↔ 1 ≤ n ∧ n ≤ 1000000000 := by simp [drOk]
theorem drI_lt {n : Int} (h : drOk n = true) (x : Nat) : 0 ≤ drI x n ∧ drI x n < n := by
  have h1 := drOk_iff.1 h
  rw [(dr_yes h x).1]
  have : x % n.toNat < n.toNat := Nat.mod_lt _ (by omega)
  omega
theorem draw_any (s : Int) (x : ByteArray) (hx : x.size ≤ 9223372036854775807) (n : Int) (w : World) :
    Calls Tryd.prog 9 #[.int .i64 s, .string x, .int .i64 n] w fun e w' => e = .returned (.tuple #[.int .i64 (drI (ofN s (lA x)) n), .int .i64 (drE n)]) ∧ w = w' := by
  cases hd : drOk n with
  | false =>
    have HP := Lib.hid (dr_no hd (ofN s (lA x)))
    by_cases h1 : n < 1
    · clear hd
      go_enter Tryd.func9, Tryd.ntmps9
      go_wp2_with fail
      go_ret2
      exact ⟨ret_two HP.out.1.symm HP.out.2.symm, rfl⟩
    · have h2 : 1000000000 < n := by
        simp [drOk] at hd; omega
      clear hd
      go_enter Tryd.func9, Tryd.ntmps9
      go_wp2_with fail
      go_ret2
      exact ⟨ret_two HP.out.1.symm HP.out.2.symm, rfl⟩
  | true =>
    have HP := Lib.hid (dr_yes hd (ofN s (lA x)))
    have h0 := drOk_iff.1 hd
    obtain ⟨m, rfl⟩ : ∃ m : Nat, n = (m : Int) := ⟨n.toNat, by omega⟩
    have H1 := Lib.hid (fun w => of_any s x hx w)
    have H2 := Lib.hid (fun w => modulo_any _ m (ofN_lt s (lA x)) (by omega) (by omega) w)
    rw [Int.toNat_natCast] at HP
    generalize ofN s (lA x) = h at H1 H2 HP
    obtain ⟨h1, h2⟩ := h0
    have h3 : ¬ (m : Int) < 1 := by omega
    have h4 : ¬ 1000000000 < (m : Int) := by omega
    clear hd
    go_enter Tryd.func9, Tryd.ntmps9
    go_wp2_with (first | (go_at_call 17; refine (H1.out _).mono ?_; rintro e w2 ⟨rfl, rfl⟩) | (go_at_call 18; refine (H2.out _).mono ?_; rintro e w2 ⟨rfl, rfl⟩))
    go_ret2
    exact ⟨ret_two HP.out.1.symm HP.out.2.symm, rfl⟩
end Go.Proofs.YtglnajjbbhokpaaDoor
