/-
  What the reference's Count hands back.
-/
import Derived.Test.YtjjjopopalcokaaWordRefC
namespace Go.Proofs.Ytjjjopopalcokaa
open Go.RowKit
open WM
set_option linter.unusedVariables false
set_option linter.unusedSimpArgs false

set_option maxHeartbeats 800000 in
theorem count_any (v : Value) (l : List Md) (c : UInt8) (hmax : l.length ≤ 9223372036854775807) (w : World) (hv : Mods w v l) :
    Calls Try.prog 18 #[v, .int .u8 c.toNat] w fun e w' => e = .returned (.int .i64 (cntB l c)) ∧ w = w' := by
  obtain ⟨p, cap, rfl⟩ := hv.slice
  have HV := Lib.hid hv
  clear hv
  go_enter Try.func18, Try.ntmps18
  go_wp2_with fail
  go_loop [5, 6] (fun n i => ∃ k m : Nat, k ≤ l.length ∧ i = .int .i64 k ∧ n = .int .i64 m ∧ m ≤ k ∧ m = cntB (l.take k) c) (fun _ i => l.length - (intOf i).toNat)
  case atStart => exact ⟨0, 0, Nat.zero_le _, rfl, rfl, Nat.le_refl _, rfl⟩
  case round =>
    obtain ⟨k, m, hk, rfl, rfl, hm, hmm⟩ := hrel
    have HM := Lib.hid hmm
    clear hmm
    by_cases hlt : k < l.length
    · obtain ⟨b, off, cap', q, d, hp, e1, _, _, lb⟩ := HV.out.at hlt
      obtain rfl : p = some ⟨b, off, none⟩ := by cases hp; rfl
      obtain ⟨x, hx⟩ : ∃ x, l[k].c = x := ⟨_, rfl⟩
      have HX : Hid (cntB (l.take (k + 1)) c = m + (if (x == c) = true then 1 else 0)) := Lib.hid (by rw [cntB_succ hlt, ← HM.out, hx])
      rw [hx] at e1
      clear hp hx
      cases hxc : (x == c) with
      | true =>
        have t1 : ((x.toNat : Int) == (c.toNat : Int)) = true := by rw [u8_eq]; exact hxc
        rw [hxc] at HX
        clear hxc
        go_wp2_with fail
        go_round
        case rel => exact ⟨k + 1, m + 1, by omega, by go_num, by go_num, by omega, by rw [HX.out]; rfl⟩
        case measure => simp [intOf]; omega
      | false =>
        have t1 : ((x.toNat : Int) == (c.toNat : Int)) = false := by rw [u8_eq]; exact hxc
        rw [hxc] at HX
        clear hxc
        go_wp2_with fail
        go_round
        case rel => exact ⟨k + 1, m, by omega, by go_num, rfl, by omega, by rw [HX.out]; rfl⟩
        case measure => simp [intOf]; omega
    · obtain rfl : k = l.length := by omega
      rw [List.take_length] at HM
      go_wp2_with fail
      go_ret
      exact ⟨ret_int (by rw [HM.out]), rfl⟩
end Go.Proofs.Ytjjjopopalcokaa
