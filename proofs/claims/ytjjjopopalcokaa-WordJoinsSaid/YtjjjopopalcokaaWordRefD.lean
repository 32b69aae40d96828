/-
  What the reference's Depth and Close hand back.
-/
import Derived.Test.YtjjjopopalcokaaWordClM
import Derived.Test.YtjjjopopalcokaaWordRefCn
namespace Go.Proofs.Ytjjjopopalcokaa
open Go.RowKit
open WM
set_option linter.unusedVariables false
set_option linter.unusedSimpArgs false

set_option maxHeartbeats 1600000 in
theorem depth_any (v : Value) (l : List Md) (hmax : l.length ≤ 2100) (hargs : ∀ m ∈ l, m.a.length ≤ 10) (w : World) (hv : Mods w v l) :
    Calls Try.prog 10 #[v] w fun e w' => e = .returned (.tuple #[.int .i64 (dpI l), .int .i64 (chk l)]) ∧ Below w.heap.size w w' := by
  have HV := Lib.hid hv
  have HC := Lib.hid (fun w hv => check_any v l hmax hargs w hv)
  have HO := Lib.hid (fun hc w hv => open_valid v l hc w hv)
  have HD : Hid (dpI l = if chk l = 0 then dmax l l.length else 0) := Lib.hid rfl
  have HZ : Hid (chk l = 0 → okB l l.length = true) := Lib.hid (fun h => (chk_zero.1 h).2.2.1)
  obtain ⟨c, hc⟩ : ∃ c, chk l = c := ⟨_, rfl⟩
  rw [hc] at HC HO HD HZ ⊢
  clear hc hv hargs
  by_cases h0 : c = 0
  · subst h0
    rw [if_pos rfl] at HD
    have HOK := Lib.hid (HZ.out rfl)
    have HO0 := Lib.hid (HO.out rfl)
    clear HO HZ
    go_enter Try.func10, Try.ntmps10
    go_wp2_with fail
    refine (HC.out _ HV.out).mono ?_
    rintro e w1 ⟨rfl, hb⟩
    have B1 := Lib.hid hb
    clear hb
    go_wp2_with fail
    refine (HO0.out _ (HV.out.later B1.out)).mono ?_
    rintro e w2 ⟨p, cap, rfl, hb, hi⟩
    have B2 := Lib.hid (B1.out.trans (hb.mono B1.out.size))
    have HI := Lib.hid hi
    clear hb hi B1
    go_wp2_with fail
    go_loop [6, 7] (fun n i => ∃ k : Nat, k ≤ l.length ∧ i = .int .i64 k ∧ n = .int .i64 (dmax l k)) (fun _ i => l.length - (intOf i).toNat)
    case atStart => exact ⟨0, Nat.zero_le _, rfl, rfl⟩
    case round =>
      obtain ⟨k, hk, rfl, rfl⟩ := hrel
      by_cases hlt : k < l.length
      · obtain ⟨b, off, cap', hp, e1, lb⟩ := HI.out.at (k := k) (by rw [opnL_length]; exact hlt)
        rw [opnL_length] at hp
        obtain rfl : p = some ⟨b, off, none⟩ := by cases hp; rfl
        rw [opnL_get hlt] at e1
        have HX := Lib.hid (dmax_succ l k)
        have hr := opn_rng HOK.out hlt
        have hm1 := dmax_nonneg l k
        have hm2 := dmax_le HOK.out k hk
        obtain ⟨d, hd⟩ : ∃ d, dep (l.take (k + 1)) = d := ⟨_, rfl⟩
        obtain ⟨m, hm⟩ : ∃ m, dmax l k = m := ⟨_, rfl⟩
        rw [hd] at e1 hr HX
        rw [hm] at HX hm1 hm2 ⊢
        clear hp hd hm
        have HX2 : Hid ((if m < d then d else m) = dmax l (k + 1)) := Lib.hid (by rw [HX.out]; split <;> omega)
        go_wp2_with fail
        go_round
        case rel => exact ⟨k + 1, by omega, by go_num, by rw [HX2.out]⟩
        case measure => simp [intOf]; omega
      · obtain rfl : k = l.length := by omega
        go_wp2_with fail
        go_ret2
        exact ⟨ret_two HD.out.symm rfl, B2.out⟩
  · have h1 : (c != 0) = true := by rw [bne_iff_ne]; exact h0
    rw [if_neg h0] at HD
    have HD2 := Lib.hid HD.out
    clear h0
    go_enter Try.func10, Try.ntmps10
    go_wp2_with fail
    refine (HC.out _ HV.out).mono ?_
    rintro e w1 ⟨rfl, hb⟩
    have B1 := Lib.hid hb
    clear hb
    go_wp2_with fail
    refine (HC.out _ (HV.out.later B1.out)).mono ?_
    rintro e w2 ⟨rfl, hb⟩
    have B2 := Lib.hid (B1.out.trans (hb.mono B1.out.size))
    clear hb
    go_wp2_with fail
    go_ret2
    exact ⟨ret_two HD.out.symm rfl, B2.out⟩

theorem close_bad (v : Value) (l : List Md) (hmax : l.length ≤ 2100) (hargs : ∀ m ∈ l, m.a.length ≤ 10) (i : Int) (h0 : chk l ≠ 0) (w : World) (hv : Mods w v l) :
    Calls Try.prog 8 #[v, .int .i64 i] w (ClEnd l i w) := by
  have HV := Lib.hid hv
  have HC := Lib.hid (fun w hv => check_any v l hmax hargs w hv)
  have h1 : (chk l != 0) = true := by rw [bne_iff_ne]; exact h0
  have HE : Hid (∀ w', Below w.heap.size w w' → ClEnd l i w (.returned (.tuple #[.int .i64 0, .int .i64 (chk l)])) w') := Lib.hid (fun w' hb => ⟨hb, .inl ⟨h0, rfl⟩⟩)
  obtain ⟨c, hc⟩ : ∃ c, chk l = c := ⟨_, rfl⟩
  rw [hc] at HC HE h1
  clear hc hv hargs h0
  go_enter Try.func8, Try.ntmps8
  go_wp2_with fail
  refine (HC.out _ HV.out).mono ?_
  rintro e w1 ⟨rfl, hb⟩
  have B1 := Lib.hid hb
  clear hb
  go_wp2_with fail
  refine (HC.out _ (HV.out.later B1.out)).mono ?_
  rintro e w2 ⟨rfl, hb⟩
  have B2 := Lib.hid (B1.out.trans (hb.mono B1.out.size))
  clear hb
  go_wp2_with fail
  go_ret2
  exact HE.out _ B2.out
end Go.Proofs.Ytjjjopopalcokaa
