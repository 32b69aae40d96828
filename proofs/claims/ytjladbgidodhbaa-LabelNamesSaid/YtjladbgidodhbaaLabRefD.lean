/-
  What the reference's Check, Both and Steps hand back.
-/
import Derived.Test.YtjladbgidodhbaaLabRefC
import Derived.WalkSpells
namespace Go.Proofs.Ytjladbgidodhbaa
open Go.RowKit
open LM
set_option linter.unusedVariables false
set_option linter.unusedSimpArgs false

theorem str_nil {s : ByteArray} (h : ¬ 0 < s.size) : s = ByteArray.empty := by
  apply lA_inj
  have : (lA s).length = 0 := by rw [lA_len]; omega
  rw [List.length_eq_zero_iff.1 this]; rfl
theorem piece_len {cur l x : Bs} (h : x ∈ splitA cur l) : x.length ≤ cur.length + l.length := by
  induction l generalizing cur with
  | nil => simp [splitA] at h; subst h; simp
  | cons c l ih =>
    unfold splitA at h
    split at h
    · rw [List.mem_cons] at h
      rcases h with h | h
      · subst h; simp
      · have := ih h; simp at this ⊢; omega
    · have := ih h; simp at this ⊢; omega
theorem cutL_len {p x : Bs} (h : x ∈ cutL p) : x.length ≤ p.length := by
  unfold cutL at h; split at h
  · simp at h
  · have := piece_len h; simpa using this
theorem bA_size (l : Bs) : (bA l).size = l.length := by rw [← lA_len, lA_bA]
/-- Cut of a string that is not empty. -/
theorem cut_row (s : ByteArray) (hs : s.size ≤ 100000) (h0 : 0 < s.size) (xs : List Bs) (n : Nat) (hx : cutL (lA s) = xs) (hn : xs.length = n) (w : World) :
    Calls Try.prog 36 #[.string s] w fun e w' => ∃ g cap, e = .returned (.slice (some ⟨g, 0, none⟩) n cap) ∧ Row w' g cap xs ∧ Below w.heap.size w w' := by
  refine (refcut_some s hs h0 w).mono fun e w' h => ?_
  obtain ⟨v, he, hS, hb⟩ := h
  rw [hx] at hS
  have hne : xs ≠ [] := fun e => by rw [e] at hx; exact lA_ne h0 (cutL_eq_nil.1 hx)
  obtain ⟨g, cap, rfl, hR⟩ := hS.some hne
  exact ⟨g, cap, by rw [he, hn], hR, hb⟩
/-- Step of a list of bytes. -/
theorem refstep_l (x : Bs) (hx : x.length ≤ 100000) (w : World) : Calls Try.prog 33 #[.string (bA x)] w fun e w' => e = .returned (.tuple #[.string (bA (stN x)), .int .i64 (stI x), .bool (stepB x)]) ∧ w = w' := by
  have := refstep_any (bA x) (by rw [bA_size]; exact hx) w
  rw [lA_bA] at this; exact this
theorem chk_long {p : Bs} (h : 4000 < p.length) : chk p = 4 := by rw [chk, if_pos h]
theorem chk_many {p : Bs} (h : ¬ 4000 < p.length) (h2 : 40 < (cutL p).length) : chk p = 4 := by rw [chk, if_neg h, if_pos h2]
theorem chk_bad {p : Bs} (h : ¬ 4000 < p.length) (h2 : ¬ 40 < (cutL p).length) {x : Bs} (hx : x ∈ cutL p) (hb : stepB x = false) : chk p = 12 := by
  rw [chk, if_neg h, if_neg h2, if_neg]
  intro hh
  rw [List.all_eq_true] at hh
  rw [hh x hx] at hb; exact absurd hb (by simp)
theorem chk_good {p : Bs} (h : ¬ 4000 < p.length) (h2 : ¬ 40 < (cutL p).length) (hb : ∀ x ∈ cutL p, stepB x = true) : chk p = 0 := chk_zero.2 ⟨by omega, by omega, hb⟩
theorem all_snoc {xs : List Bs} {P : Bs → Prop} {i : Nat} (hi : i < xs.length) (h : ∀ x ∈ xs.take i, P x) (hx : P xs[i]) : ∀ x ∈ xs.take (i + 1), P x := by
  intro x hm
  rw [List.take_succ_eq_append_getElem hi, List.mem_append, List.mem_singleton] at hm
  rcases hm with hm | rfl
  · exact h x hm
  · exact hx

set_option maxHeartbeats 1000000 in
theorem refcheck_any (s : ByteArray) (hs : s.size ≤ 100000) (w : World) : Calls Try.prog 20 #[.string s] w fun e w' => e = .returned (.int .i64 (chk (lA s))) ∧ Below w.heap.size w w' := by
  by_cases hbig : (4000 : Int) < s.size
  · have HC : Hid (chk (lA s) = 4) := Lib.hid (chk_long (by rw [lA_len]; omega))
    go_enter Try.func20, Try.ntmps20
    go_wp2
    go_ret
    exact ⟨ret_int HC.out.symm, Below.refl _ _⟩
  · have hb' : ¬ 4000 < (lA s).length := by rw [lA_len]; omega
    have HBig := Lib.hid hb'
    clear hb'
    by_cases h0 : 0 < s.size
    · obtain ⟨xs, hx⟩ : ∃ xs, cutL (lA s) = xs := ⟨_, rfl⟩
      obtain ⟨n, hn⟩ : ∃ n, xs.length = n := ⟨_, rfl⟩
      have K1 := Lib.hid (fun w => cut_row s hs h0 xs n hx hn w)
      have HX := Lib.hid hx
      have HN := Lib.hid hn
      have n0 : n ≤ 100001 := by
        have := cutL_length (lA s)
        have hc : (lA s).count 47 ≤ (lA s).length := List.count_le_length
        rw [hx, hn] at this
        rw [lA_len] at hc
        split at this <;> omega
      clear hx hn h0
      by_cases hm : (40 : Int) < n
      · have HC : Hid (chk (lA s) = 4) := Lib.hid (chk_many HBig.out (by rw [HX.out, HN.out]; omega))
        go_enter Try.func20, Try.ntmps20
        go_wp2_with fail
        refine (K1.out _).mono ?_
        rintro e w1 ⟨g, cap, rfl, hR, hb⟩
        have HB := Lib.hid hb
        clear hb hR
        go_wp2_with fail
        go_ret
        exact ⟨ret_int HC.out.symm, HB.out⟩
      · go_enter Try.func20, Try.ntmps20
        go_wp2_with fail
        refine (K1.out _).mono ?_
        rintro e w1 ⟨g, cap, rfl, hR, hb⟩
        have HB := Lib.hid hb
        have HR := Lib.hid hR
        have hcap := hR.le
        rw [HN.out] at hcap
        clear hb hR
        go_wp2_with fail
        go_loop [4] (fun i => ∃ k : Nat, k ≤ n ∧ i = .int .i64 k ∧ ∀ x ∈ xs.take k, stepB x = true) (fun i => n - (intOf i).toNat)
        case atStart => exact ⟨0, Nat.zero_le _, rfl, by simp⟩
        case round =>
          obtain ⟨k, hk, rfl, hA⟩ := hrel
          have HA := Lib.hid hA
          clear hA
          by_cases hlt : k < n
          · have hlx : k < xs.length := by rw [HN.out]; exact hlt
            have hc := HR.out.at k hlx
            obtain ⟨x, hx⟩ : ∃ x, xs[k] = x := ⟨_, rfl⟩
            rw [hx] at hc
            have HXx := Lib.hid hx
            have hmem : x ∈ cutL (lA s) := by rw [HX.out, ← hx]; exact List.getElem_mem _
            have HMem := Lib.hid hmem
            have hxl : x.length ≤ 100000 := by have := cutL_len hmem; rw [lA_len] at this; omega
            have K2 := Lib.hid (fun w => refstep_l x hxl w)
            clear hx hmem hxl
            cases hst : stepB x
            · have HC : Hid (chk (lA s) = 12) := Lib.hid (chk_bad HBig.out (by rw [HX.out, HN.out]; omega) HMem.out hst)
              go_wp2_with fail
              refine (K2.out _).mono ?_
              rintro e w2 ⟨rfl, rfl⟩
              go_wp2_with fail
              go_ret
              exact ⟨ret_int HC.out.symm, HB.out⟩
            · have HG : Hid (∀ x ∈ xs.take (k + 1), stepB x = true) := Lib.hid (all_snoc (by rw [HN.out]; exact hlt) HA.out (by rw [HXx.out]; exact hst))
              go_wp2_with fail
              refine (K2.out _).mono ?_
              rintro e w2 ⟨rfl, rfl⟩
              go_wp2_with fail
              go_round
              case rel => exact ⟨k + 1, by omega, by go_num, HG.out⟩
              case measure => simp [intOf]; omega
          · obtain rfl : k = n := by omega
            have HC : Hid (chk (lA s) = 0) := Lib.hid (chk_good HBig.out (by rw [HX.out, HN.out]; omega) (by
              have := HA.out
              rw [List.take_of_length_le (by rw [HN.out]; exact Nat.le_refl _)] at this
              rw [HX.out]; exact this))
            go_wp2_with fail
            go_ret
            exact ⟨ret_int HC.out.symm, HB.out⟩
    · obtain rfl := str_nil h0
      go_enter Try.func20, Try.ntmps20
      go_wp2_with fail
      refine (refcut_nil _).mono ?_
      rintro e w1 ⟨rfl, rfl⟩
      go_wp2_with fail
      go_loop [4] (fun i => i = .int .i64 0) (fun i => 0)
      case atStart => rfl
      case round =>
        obtain rfl := hrel
        go_wp2_with fail
        go_ret
        exact ⟨ret_int (by decide), Below.refl _ _⟩
end Go.Proofs.Ytjladbgidodhbaa
