/-
  What the reference's Step hands back.
-/
import Derived.Test.YtjladbgidodhbaaLabRefA
namespace Go.Proofs.Ytjladbgidodhbaa
open Go.RowKit
open LM
set_option linter.unusedVariables false
set_option linter.unusedSimpArgs false

/-- What is handed back of a step: its name and index, or nothing. -/
def stN (l : Bs) : Bs := if stepB l = true then preL l else []
def stI (l : Bs) : Int := if stepB l = true then indI l else 0
theorem pre_end {s : ByteArray} (h : (91 : UInt8) ∉ (lA s).take s.size) : preL (lA s) = lA s ∧ hasI (lA s) = false := by
  rw [lA_all] at h
  unfold preL hasI
  rw [cut_none h]; exact ⟨rfl, rfl⟩
theorem pre_at {s : ByteArray} {k : Nat} (hk : k < s.size) (h : (91 : UInt8) ∉ (lA s).take k) (hb : s[k] = 91) :
    preL (lA s) = (lA s).take k ∧ hasI (lA s) = true ∧ posL (lA s) = (lA s).drop (k + 1) := by
  have e : lA s = (lA s).take k ++ 91 :: (lA s).drop (k + 1) := by
    rw [← hb, ← lA_drop s k hk, List.take_append_drop]
  have := cut_at (l := (lA s).take k) (c := 91) ((lA s).drop (k + 1)) h
  rw [← e] at this
  unfold preL hasI posL
  rw [this]; exact ⟨rfl, rfl, rfl⟩
theorem no_snoc {s : ByteArray} {k : Nat} (hk : k < s.size) (h : (91 : UInt8) ∉ (lA s).take k) (hb : s[k] ≠ 91) : (91 : UInt8) ∉ (lA s).take (k + 1) := by
  rw [lA_snoc s k hk, List.mem_append, List.mem_singleton]
  rintro (h1 | h1)
  · exact h h1
  · exact hb h1.symm
theorem dig_of {s : ByteArray} {k : Nat} (hk : k < s.size) (h1 : 2 ≤ s.size) : ((lA s).drop (k + 1)).dropLast = lA (s.extract (k + 1) (s.size - 1)) := by
  rw [lA_ext, List.dropLast_eq_take, List.length_drop, lA_len]
  congr 1; omega
theorem last_of {s : ByteArray} {k : Nat} (hk : k + 1 < s.size) : ((lA s).drop (k + 1)).getLast? = some (s[s.size - 1]'(by omega)) := by
  have hl : (lA s).length = s.size := lA_len s
  rw [List.getLast?_drop, if_neg (by omega), List.getLast?_eq_getElem?, hl, List.getElem?_eq_getElem (by omega), lA_get s _ (by omega)]
theorem last_of_none {s : ByteArray} {k : Nat} (hk : s.size ≤ k + 1) : ((lA s).drop (k + 1)).getLast? = none := by
  have hl : (lA s).length = s.size := lA_len s
  rw [List.drop_of_length_le (by omega)]; rfl
theorem stN_no {l : Bs} (h : stepB l = false) : stN l = [] ∧ stI l = 0 := by simp [stN, stI, h]
theorem stN_yes {l : Bs} (h : stepB l = true) : stN l = preL l ∧ stI l = indI l := by simp [stN, stI, h]

/-- Where the second loop stands. -/
structure DigAt (d : ByteArray) (k n : Nat) : Prop where
  hi : k ≤ d.size
  few : k ≤ 4
  dig : ∀ c ∈ (lA d).take k, digB c = true
  val : n = valF 0 ((lA d).take k)
theorem DigAt.start (d : ByteArray) : DigAt d 0 0 := ⟨Nat.zero_le _, by omega, by simp, by simp [valF]⟩
theorem DigAt.step {d : ByteArray} {k n : Nat} (h : DigAt d k n) (hk : k < d.size) (h3 : k ≤ 3) (hb : digB d[k] = true) : DigAt d (k + 1) (10 * n + (d[k].toNat - 48)) := by
  refine ⟨hk, by omega, ?_, ?_⟩
  · rw [lA_snoc d k hk]; intro c hc
    rw [List.mem_append, List.mem_singleton] at hc
    rcases hc with hc | rfl
    · exact h.dig c hc
    · exact hb
  · rw [lA_snoc d k hk, valF_snoc, ← h.val]; omega
theorem DigAt.small {d : ByteArray} {k n : Nat} (h : DigAt d k n) : n ≤ 9999 := by
  rw [h.val]; exact few_digits h.dig (by rw [List.length_take]; have := h.few; omega)
theorem num_bad_digit {d : ByteArray} {k : Nat} (hk : k < d.size) (hb : digB d[k] = false) : numB (lA d) = false := by
  cases hv : numB (lA d)
  · rfl
  · have hm : d[k] ∈ lA d := by
      have hl : k < (lA d).length := by rw [lA_len]; exact hk
      rw [← lA_get d k hk hl]; exact List.getElem_mem _
    rw [(numB_iff.1 hv).2.1 _ hm] at hb
    exact absurd hb (by simp)
theorem num_bad_long {d : ByteArray} {k : Nat} (hk : k < d.size) (h : 3 < k) : numB (lA d) = false := by
  cases hv : numB (lA d)
  · rfl
  · have := (numB_iff.1 hv).2.2.1
    rw [lA_len] at this; omega
theorem num_bad_empty {d : ByteArray} (h : d.size = 0) : numB (lA d) = false := by
  have : lA d = [] := List.length_eq_zero_iff.1 (by rw [lA_len]; exact h)
  rw [this]; rfl
theorem head_of {d : ByteArray} (h : 0 < d.size) : (lA d).head? = some d[0] := by
  have := lA_drop d 0 h
  rw [List.drop_zero] at this
  rw [this]; rfl
theorem num_bad_zero {d : ByteArray} (h : 1 < d.size) (h0 : d[0] = 48) : numB (lA d) = false := by
  cases hv : numB (lA d)
  · rfl
  · rcases (numB_iff.1 hv).2.2.2 with g | g
    · rw [head_of (by omega), h0] at g; exact absurd rfl g
    · have := congrArg List.length g
      rw [lA_len] at this; simp at this; omega
theorem num_good {d : ByteArray} {n : Nat} (h : DigAt d d.size n) (h1 : 0 < d.size) (h2 : d.size = 1 ∨ d[0] ≠ 48) : numB (lA d) = true ∧ n = valF 0 (lA d) := by
  have hd := h.dig
  have hv := h.val
  rw [lA_all] at hd hv
  refine ⟨numB_iff.2 ⟨?_, hd, by rw [lA_len]; exact h.few, ?_⟩, hv⟩
  · intro e; have := congrArg List.length e; rw [lA_len, List.length_nil] at this; omega
  · by_cases hz : d[0] = 48
    · right
      rcases h2 with h2 | h2
      · have := lA_drop d 0 h1
        rw [List.drop_zero, hz, List.drop_of_length_le (by rw [lA_len]; omega)] at this
        exact this
      · exact absurd hz h2
    · left
      rw [head_of h1]
      intro e; exact hz (Option.some.inj e)

/-- s[i:j]. -/
theorem run_sub (s : ByteArray) (i j : Int) (a b : Nat) (ha : i = a) (hb : j = b) (hab : a ≤ b) (hbs : b ≤ s.size) (wx : World) :
    (Instr.slice 9 (.string s) (some (.int .i64 i)) (some (.int .i64 j)) none).run Try.prog wx = .ok (.string (s.extract a b)) wx := by
  have := run_slice_string (P := Try.prog) wx 9 s .i64 .i64 i j Try.underlying9 (by omega) (by omega) (by omega)
  rw [this]; subst ha hb; simp
/-- How Step ends. -/
def StEnd (l : Bs) (w : World) (e : Ending) (w' : World) : Prop := e = .returned (.tuple #[.string (bA (stN l)), .int .i64 (stI l), .bool (stepB l)]) ∧ w = w'
theorem st_no {l : Bs} (h : stepB l = false) (w : World) : StEnd l w (.returned (.tuple #[.string ByteArray.empty, .int .i64 0, .bool false])) w :=
  ⟨by rw [(stN_no h).1, (stN_no h).2, h]; rfl, rfl⟩
theorem st_yes {l : Bs} (h : stepB l = true) {s : ByteArray} {n : Int} (hs : lA s = preL l) (hn : n = indI l) (w : World) : StEnd l w (.returned (.tuple #[.string s, .int .i64 n, .bool true])) w :=
  ⟨by rw [(stN_yes h).1, (stN_yes h).2, h, hn, ← hs]; rfl, rfl⟩

set_option maxRecDepth 100000 in
set_option maxHeartbeats 1000000 in
theorem refstep_any (s : ByteArray) (hs : s.size ≤ 100000) (w : World) : Calls Try.prog 33 #[.string s] w (StEnd (lA s) w) := by
  go_enter Try.func33, Try.ntmps33
  go_wp2
  go_loop [5] (fun i => ∃ k : Nat, k ≤ s.size ∧ i = .int .i64 k ∧ (91 : UInt8) ∉ (lA s).take k) (fun i => s.size - (intOf i).toNat)
  case atStart => exact ⟨0, Nat.zero_le _, rfl, by simp⟩
  case round =>
    obtain ⟨k, hk, rfl, hn⟩ := hrel
    have HN := Lib.hid hn
    clear hn
    by_cases hlt : k < s.size
    · by_cases hb : s[k] = 91
      · obtain ⟨hp, hi, hq⟩ := pre_at hlt HN.out hb
        have HP := Lib.hid hp
        have HI := Lib.hid hi
        have HQ := Lib.hid hq
        have h3 : ((s[k].toNat : Int) != 91) = false := byte_is hb
        have hne : ((k : Int) == s.size) = false := by rw [beq_eq_false_iff_ne]; omega
        have hsz : (s.extract 0 k).size ≤ 100000 := by simp; omega
        clear hp hi hq HN
        cases hm : nameB (lA (s.extract 0 k))
        · have HB : Hid (stepB (lA s) = false) := Lib.hid (by rw [lA_take, ← HP.out] at hm; simp [stepB, hm])
          clear hb
          go_wp2_with (go_at_call 18; refine (refname_any _ hsz _).mono ?_; rintro e w' ⟨rfl, rfl⟩)
          go_ret3
          exact st_no HB.out _
        · have HM := Lib.hid (show nameB (preL (lA s)) = true by rw [HP.out, ← lA_take]; exact hm)
          have h93 : ∀ h : k + 1 < s.size, (posL (lA s)).getLast? = some (s[s.size - 1]'(by omega)) := fun h => by rw [HQ.out]; exact last_of h
          have hw : s[s.size - 1] = 93 → k + 1 < s.size := fun h => by
            refine Nat.lt_of_not_le fun hh => ?_
            have : s.size - 1 = k := by omega
            simp only [this] at h
            rw [hb] at h; exact absurd h (by decide)
          by_cases hc : s[s.size - 1] = 93
          · have h2 := hw hc
            obtain ⟨d, hd⟩ : ∃ d, d = s.extract (k + 1) (s.size - 1) := ⟨_, rfl⟩
            have hds : d.size = s.size - 1 - (k + 1) := by rw [hd]; simp
            have HD : Hid (digL (lA s) = lA d) := Lib.hid (by rw [digL, HQ.out, hd]; exact dig_of hlt (by omega))
            have HS : Hid (stepB (lA s) = numB (lA d)) := Lib.hid (by
              unfold stepB
              rw [HM.out, HI.out, h93 h2, hc, HD.out]; rfl)
            have HV : Hid (indI (lA s) = valF 0 (lA d)) := Lib.hid (by unfold indI; rw [HI.out, HD.out]; rfl)
            have HX : Hid (lA (s.extract 0 k) = preL (lA s)) := Lib.hid (by rw [lA_take, HP.out])
            have h4 : ((s[s.size - 1].toNat : Int) != 93) = false := byte_is hc
            have hsl : ∀ wx, (Instr.slice 9 (.string s) (some (.int .i64 ((k : Int) + 1))) (some (.int .i64 ((s.size : Int) - 1))) none).run Try.prog wx = .ok (.string d) wx := fun wx => by
              rw [hd]; exact run_sub s _ _ (k + 1) (s.size - 1) (by omega) (by omega) (by omega) (by omega) wx
            clear hb hc h93 hw HP HI HQ HD hd
            go_wp2_with (go_at_call 18; refine (refname_any _ hsz _).mono ?_; rintro e w' ⟨rfl, rfl⟩)
            clear hsl
            have hdz : d.size ≤ 100000 := by omega
            clear hds
            go_loop [7, 8] (fun nv iv => ∃ i n : Nat, nv = .int .i64 n ∧ iv = .int .i64 i ∧ DigAt d i n) (fun _ iv => d.size - (intOf iv).toNat)
            case atStart => exact ⟨0, 0, rfl, rfl, DigAt.start d⟩
            case round =>
              obtain ⟨i, n, rfl, rfl, hD⟩ := hrel
              have HDg := Lib.hid hD
              have n1 := hD.hi
              have n2 := hD.few
              have n3 := hD.small
              clear hD
              by_cases hi : i < d.size
              · have hbt := d[i].toNat_lt
                cases hg : digB d[i]
                · have HB : Hid (stepB (lA s) = false) := Lib.hid (by rw [HS.out]; exact num_bad_digit hi hg)
                  go_wp2_with (go_at_call 42; refine (digit_any _ _).mono ?_; rintro e w' ⟨rfl, rfl⟩)
                  go_ret3
                  exact st_no HB.out _
                · by_cases hi3 : (3 : Int) < i
                  · have HB : Hid (stepB (lA s) = false) := Lib.hid (by rw [HS.out]; exact num_bad_long hi (by omega))
                    go_wp2_with (go_at_call 42; refine (digit_any _ _).mono ?_; rintro e w' ⟨rfl, rfl⟩)
                    go_ret3
                    exact st_no HB.out _
                  · have HG := Lib.hid (HDg.out.step hi (by omega) hg)
                    have hg2 := digB_iff.1 hg
                    have g1 := hg2.1
                    have g2 := hg2.2
                    clear hg2
                    go_wp2_with (go_at_call 42; refine (digit_any _ _).mono ?_; rintro e w' ⟨rfl, rfl⟩)
                    go_round
                    case rel => exact ⟨i + 1, 10 * n + (d[i].toNat - 48), by congr 1; omega, by go_num, HG.out⟩
                    case measure => simp [intOf]; omega
              · obtain rfl : i = d.size := by omega
                by_cases hz : d.size = 0
                · have HB : Hid (stepB (lA s) = false) := Lib.hid (by rw [HS.out]; exact num_bad_empty hz)
                  have hz1 : ((d.size : Int) == 0) = true := by rw [beq_iff_eq]; omega
                  have Hz := Lib.hid hz
                  clear hz
                  go_wp2_with fail
                  go_ret3
                  exact st_no HB.out _
                · have hz1 : ((d.size : Int) == 0) = false := by rw [beq_eq_false_iff_ne]; omega
                  have hz2 : (0 : Int) < d.size := by omega
                  by_cases ho : (1 : Int) < d.size
                  · by_cases h0 : d[0] = 48
                    · have HB : Hid (stepB (lA s) = false) := Lib.hid (by rw [HS.out]; exact num_bad_zero (by omega) h0)
                      have hz3 : ((d[0].toNat : Int) == 48) = true := by rw [h0]; rfl
                      clear h0
                      go_wp2_with fail
                      go_ret3
                      exact st_no HB.out _
                    · have HB := Lib.hid (num_good HDg.out (by omega) (.inr h0))
                      have hz3 : ((d[0].toNat : Int) == 48) = false := by rw [beq_eq_false_iff_ne]; intro e; exact h0 (UInt8.toNat_inj.1 (by simpa using Int.ofNat.inj e))
                      clear h0
                      go_wp2_with fail
                      go_ret3
                      exact st_yes (by rw [HS.out]; exact HB.out.1) HX.out (by rw [HV.out, HB.out.2]) _
                  · have HB := Lib.hid (num_good HDg.out (by omega) (.inl (by omega)))
                    go_wp2_with fail
                    go_ret3
                    exact st_yes (by rw [HS.out]; exact HB.out.1) HX.out (by rw [HV.out, HB.out.2]) _
          · have HB : Hid (stepB (lA s) = false) := Lib.hid (by
              unfold stepB
              by_cases h2 : k + 1 < s.size
              · rw [HI.out, h93 h2]; simp [hc]
              · rw [HI.out, HQ.out, last_of_none (by omega)]; simp)
            have h4 : ((s[s.size - 1].toNat : Int) != 93) = true := byte_no hc
            clear hb hc h93 hw HP HI HQ
            go_wp2_with (go_at_call 18; refine (refname_any _ hsz _).mono ?_; rintro e w' ⟨rfl, rfl⟩)
            go_ret3
            exact st_no HB.out _
      · have h3 : ((s[k].toNat : Int) != 91) = true := byte_no hb
        have HG := Lib.hid (no_snoc hlt HN.out hb)
        clear HN hb
        go_wp2_with fail
        go_round
        case rel => exact ⟨k + 1, by omega, by go_num, HG.out⟩
        case measure => simp [intOf]; omega
    · obtain rfl : k = s.size := by omega
      obtain ⟨hp, hi⟩ := pre_end HN.out
      have HP := Lib.hid hp
      have HI := Lib.hid hi
      clear hp hi HN
      cases hm : nameB (lA s)
      · have HB : Hid (stepB (lA s) = false) := Lib.hid (by rw [← HP.out] at hm; simp [stepB, hm])
        go_wp2_with (go_at_call 18; refine (refname_any s hs _).mono ?_; rintro e w' ⟨rfl, rfl⟩)
        go_ret3
        exact st_no HB.out _
      · have HB : Hid (stepB (lA s) = true) := Lib.hid (by rw [← HP.out] at hm; simp [stepB, hm, HI.out])
        go_wp2_with (go_at_call 18; refine (refname_any s hs _).mono ?_; rintro e w' ⟨rfl, rfl⟩)
        go_ret3
        exact st_yes HB.out HP.out.symm (by simp [indI, HI.out]) _
end Go.Proofs.Ytjladbgidodhbaa
