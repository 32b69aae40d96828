/-
  The walk of SeedDraws.
-/
import Derived.Test.YtglnajjbbhokpaaSeedDrawR
namespace Go.Proofs.Ytglnajjbbhokpaa
open Go.RowKit
open SM
set_option linter.unusedVariables false
set_option linter.unusedSimpArgs false

theorem draws_far (p : Option Addr) (cap : Nat) (l : List Int) (hmax : l.length ≤ 9223372036854775807) (s : Int) (x : ByteArray) (n : Int) (hc : 500 < x.size ∨ (x.size ≤ 500 ∧ 250 < l.length)) (w : World) :
    Calls Try.prog 3 #[.int .i64 s, .string x, .int .i64 n, .slice p l.length cap] w fun e w' => e = .returned (.bool true) ∧ Below w.heap.size w w' := by
  rcases hc with h1 | ⟨h1, h2⟩
  · have h3 : (500 : Int) < (x.size : Int) := by omega
    go_enter Try.func3, Try.ntmps3
    go_wp2_with fail
    go_ret
    exact ⟨rfl, Below.refl _ _⟩
  · have h3 : ¬ (500 : Int) < (x.size : Int) := by omega
    have h4 : (250 : Int) < (l.length : Int) := by omega
    go_enter Try.func3, Try.ntmps3
    go_wp2_with fail
    go_ret
    exact ⟨rfl, Below.refl _ _⟩
set_option maxHeartbeats 1600000 in
theorem draws_near (p : Option Addr) (cap : Nat) (l : List Int) (hl : l.length ≤ 250) (s : Int) (x : ByteArray) (hx : x.size ≤ 500) (n : Int) (w : World) (hv : Ints w (.slice p l.length cap) l) :
    Calls Try.prog 3 #[.int .i64 s, .string x, .int .i64 n, .slice p l.length cap] w fun e w' => e = .returned (.bool true) ∧ Below w.heap.size w w' := by
  have HV := Lib.hid hv
  obtain ⟨u, hu⟩ : ∃ u, ofN s (lA x) = u := ⟨_, rfl⟩
  obtain ⟨a, ha⟩ : ∃ a, drI u n = a := ⟨_, rfl⟩
  obtain ⟨b, hb⟩ : ∃ b, drE n = b := ⟨_, rfl⟩
  obtain ⟨c, hc⟩ : ∃ c, pkI l u = c := ⟨_, rfl⟩
  obtain ⟨d, hd⟩ : ∃ d, pkE l = d := ⟨_, rfl⟩
  have D1 : Hid (∀ w, Calls Try.prog 4 #[.int .i64 s, .string x, .int .i64 n] w fun e w' => e = .returned (.tuple #[.int .i64 a, .int .i64 b]) ∧ w = w') := Lib.hid (fun w => by rw [← ha, ← hb, ← hu]; exact draw_any s x (by omega) n w)
  have D2 : Hid (∀ w, Calls Try.prog 5 #[.int .i64 s, .string x, .int .i64 n] w fun e w' => e = .returned (.tuple #[.int .i64 a, .int .i64 b]) ∧ w = w') := Lib.hid (fun w => by rw [← ha, ← hb, ← hu]; exact refdraw_any s x (by omega) n w)
  have C1 : Hid (Calls Try.prog 6 #[.int .i64 s, .string x, .slice p l.length cap] w fun e w' => e = .returned (.tuple #[.int .i64 c, .int .i64 d]) ∧ Below w.heap.size w w') := Lib.hid (by rw [← hc, ← hd, ← hu]; exact choose_any s x (by omega) _ l (by omega) w hv)
  have C2 : Hid (∀ w, Ints w (.slice p l.length cap) l → Calls Try.prog 7 #[.int .i64 s, .string x, .slice p l.length cap] w fun e w' => e = .returned (.tuple #[.int .i64 c, .int .i64 d]) ∧ w = w') := Lib.hid (fun w hv => by rw [← hc, ← hd, ← hu]; exact refchoose_any s x (by omega) _ l (by omega) w hv)
  have F1 : Hid (∀ w, Calls Try.prog 8 #[.int .i64 s, .string x] w fun e w' => e = .returned (.int .u64 u) ∧ w = w') := Lib.hid (fun w => by rw [← hu]; exact of_any s x (by omega) w)
  have F2 : Hid (∀ w, Calls Try.prog 9 #[.int .i64 s, .string x] w fun e w' => e = .returned (.int .u64 u) ∧ w = w') := Lib.hid (fun w => by rw [← hu]; exact refof_any s x (by omega) w)
  have h1 : ¬ (500 : Int) < (x.size : Int) := by omega
  have h2 : ¬ (250 : Int) < (l.length : Int) := by omega
  clear hv ha hb hc hd hu
  go_enter Try.func3, Try.ntmps3
  go_wp2_with fail
  refine (D1.out _).mono ?_
  rintro e w1 ⟨rfl, rfl⟩
  go_wp2_with fail
  refine (D2.out _).mono ?_
  rintro e w1 ⟨rfl, rfl⟩
  go_wp2_with fail
  refine C1.out.mono ?_
  rintro e w1 ⟨rfl, hb⟩
  have B1 := Lib.hid hb
  clear hb
  go_wp2_with fail
  refine (C2.out _ (HV.out.later B1.out)).mono ?_
  rintro e w2 ⟨rfl, rfl⟩
  go_wp2_with fail
  refine (F1.out _).mono ?_
  rintro e w2 ⟨rfl, rfl⟩
  go_wp2_with fail
  refine (F2.out _).mono ?_
  rintro e w2 ⟨rfl, rfl⟩
  go_wp2_with fail
  go_ret
  exact ⟨rfl, B1.out⟩
theorem draws_walk (s : Int) (x : ByteArray) (n : Int) (p : Option Addr) (cap : Nat) (l : List Int) (hmax : l.length ≤ 9223372036854775807) (w : World) (hv : Ints w (.slice p l.length cap) l) :
    Calls Try.prog 3 #[.int .i64 s, .string x, .int .i64 n, .slice p l.length cap] w fun e w' => e = .returned (.bool true) ∧ Below w.heap.size w w' := by
  by_cases hx : 500 < x.size
  · exact draws_far p cap l hmax s x n (.inl hx) w
  by_cases hl : 250 < l.length
  · exact draws_far p cap l hmax s x n (.inr ⟨by omega, hl⟩) w
  exact draws_near p cap l (by omega) s x (by omega) n w hv
end Go.Proofs.Ytglnajjbbhokpaa
