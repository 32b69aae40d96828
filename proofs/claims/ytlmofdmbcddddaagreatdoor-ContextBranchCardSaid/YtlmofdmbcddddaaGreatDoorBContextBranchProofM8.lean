/-
  Texts of the proof, merged: BConRefA, BRewPrA, BRewPrB, BConPrA, BConRefB, BConPrB.
-/
import Derived.Test.YtlmofdmbcddddaaGreatDoorBContextBranchProofM7
import Derived.Test.YtlmofdmbcddddaaGreatDoorBContextBranchProofM2
import Derived.Test.YtlmofdmbcddddaaGreatDoorBContextBranchProofM6
import Derived.Test.YtlmofdmbcddddaaGreatDoorBContextBranchProofM3
import Derived.Test.YtlmofdmbcddddaaGreatDoorBContextBranchProofM4
import Derived.Test.YtlmofdmbcddddaaGreatDoorShelfI
import Derived.Lib.IndexLaws
import Derived.Lib.QuietBelow
import Derived.BigRegion
import Derived.RangeFuncBox
namespace Go.Proofs.YtlmofdmbcddddaaGreatDoor
open Go.RowKit
open WM RM CM
set_option linter.unusedVariables false
set_option linter.unusedSimpArgs false

theorem has_at {s : Bs} {c : UInt8} {k : Nat} (hk : k < s.length) (h : (s[k] == c) = true) : hasB s c = true := by
  unfold hasB; rw [List.any_eq_true]; exact ⟨_, List.getElem_mem hk, h⟩
theorem has_no {s : Bs} {c : UInt8} (h : ∀ k, (hk : k < s.length) → (s[k] == c) = false) : hasB s c = false := by
  unfold hasB; rw [List.any_eq_false]
  intro x hx
  obtain ⟨k, hk, rfl⟩ := List.mem_iff_getElem.1 hx
  rw [h k hk]; simp
set_option maxHeartbeats 800000 in
theorem refhas_any (s : ByteArray) (hs : s.size ≤ 9223372036854775807) (c : UInt8) (w : World) : Calls Tryz.prog 35 #[.string s, .int .u8 c.toNat] w fun e w' => e = .returned (.bool (hasB (lA s) c)) ∧ w = w' := by
  have hc := c.toNat_lt
  go_enter Tryz.func35, Tryz.ntmps35
  go_wp2_with fail
  go_loop [5] (fun i => ∃ k : Nat, k ≤ s.size ∧ i = .int .i64 k ∧ ∀ j, (hj : j < s.size) → j < k → (s[j]'hj == c) = false) (fun i => s.size - (intOf i).toNat)
  case atStart => exact ⟨0, Nat.zero_le _, rfl, fun j _ h => by omega⟩
  case round =>
    obtain ⟨k, hk, rfl, hno⟩ := hrel
    have HN := Lib.hid hno
    clear hno
    by_cases hlt : k < s.size
    · obtain ⟨b, hb⟩ : ∃ b, s[k]'hlt = b := ⟨_, rfl⟩
      cases he : (b == c) with
      | true =>
        have HL : Hid (hasB (lA s) c = true) := Lib.hid (has_at (s := lA s) (k := k) (by rw [lA_len]; exact hlt) (by rw [lA_get s k hlt, hb]; exact he))
        have e1 : ((s[k].toNat : Int) == (c.toNat : Int)) = true := by rw [u8_eq, hb]; exact he
        clear he hb
        go_wp2_with fail
        go_ret
        exact ⟨ret_bool HL.out.symm, rfl⟩
      | false =>
        have e1 : ((s[k].toNat : Int) == (c.toNat : Int)) = false := by rw [u8_eq, hb]; exact he
        have HG : Hid (∀ j, (hj : j < s.size) → j < k + 1 → (s[j]'hj == c) = false) := Lib.hid (fun j hj h => by
          rcases Nat.lt_or_eq_of_le (Nat.le_of_lt_succ h) with h1 | h1
          · exact HN.out j hj h1
          · subst h1; rw [hb]; exact he)
        clear he hb
        go_wp2_with fail
        go_round
        case rel => exact ⟨k + 1, by omega, by go_num, HG.out⟩
        case measure => simp [intOf]; omega
    · obtain rfl : k = s.size := by omega
      have HL : Hid (hasB (lA s) c = false) := Lib.hid (has_no fun j hj => by
        have hj2 : j < s.size := by rw [lA_len] at hj; exact hj
        rw [lA_get s j hj2]; exact HN.out j hj2 hj2)
      clear HN
      go_wp2_with fail
      go_ret
      exact ⟨ret_bool HL.out.symm, rfl⟩
theorem pln_eq (c : UInt8) : plnB c = (letB c && (((c.toNat : Int) != 91) && ((c.toNat : Int) != 93))) := by
  unfold plnB braB
  rw [show (91 : Int) = ((91 : UInt8).toNat : Int) from rfl, show (93 : Int) = ((93 : UInt8).toNat : Int) from rfl, bne, bne, u8_eq, u8_eq, Bool.not_or]
set_option maxHeartbeats 800000 in
theorem refplain_any (c : UInt8) (w : World) : Calls Tryz.prog 20 #[.int .u8 c.toNat] w fun e w' => e = .returned (.bool (plnB c)) ∧ w = w' := by
  have hc := c.toNat_lt
  have KL := Lib.hid (fun w => letter_any c w)
  have HP := Lib.hid (pln_eq c)
  obtain ⟨x, hx⟩ : ∃ x : Int, (c.toNat : Int) = x := ⟨_, rfl⟩
  rw [hx] at KL HP ⊢
  clear hx hc
  cases hl : letB c with
  | false =>
    rw [hl] at KL HP
    clear hl
    go_enter Tryz.func20, Tryz.ntmps20
    go_wp2_with fail
    refine (KL.out _).mono ?_
    rintro e w2 ⟨rfl, rfl⟩
    go_wp2_with fail
    go_ret
    exact ⟨ret_bool (by rw [HP.out]; rfl), rfl⟩
  | true =>
    rw [hl] at KL HP
    clear hl
    cases t1 : (x != 91) with
    | false =>
      rw [t1] at HP
      go_enter Tryz.func20, Tryz.ntmps20
      go_wp2_with fail
      refine (KL.out _).mono ?_
      rintro e w2 ⟨rfl, rfl⟩
      go_wp2_with fail
      go_ret
      exact ⟨ret_bool (by rw [HP.out]; rfl), rfl⟩
    | true =>
      rw [t1, Bool.true_and, Bool.true_and] at HP
      go_enter Tryz.func20, Tryz.ntmps20
      go_wp2_with fail
      refine (KL.out _).mono ?_
      rintro e w2 ⟨rfl, rfl⟩
      go_wp2_with fail
      go_ret
      exact ⟨ret_bool (by rw [HP.out]), rfl⟩
theorem ign_len {s : Bs} (h : 20 < s.length) : ignB s = false := by
  unfold ignB
  rw [decide_eq_false (by omega)]; rfl
theorem ignU_bad {s : Bs} {k : Nat} (hk : k < s.length) (h : plnB s[k] = false ∨ hasB (s.take k) s[k] = true) : ignB s = false := by
  have e : ignU s (k + 1) = false := by
    rw [ignU_succ, show s.getD k 0 = s[k] by simp [List.getD, hk]]
    rcases h with h | h <;> (rw [h]; simp)
  have : ignU s s.length = false := by
    cases hh : ignU s s.length
    · rfl
    · rw [ignU_mono (j := k + 1) (by omega) hh] at e; simp at e
  unfold ignB
  rw [this]; simp
theorem ignU_good {s : Bs} {k : Nat} (hk : k < s.length) (h0 : ignU s k = true) (h1 : plnB s[k] = true) (h2 : hasB (s.take k) s[k] = false) : ignU s (k + 1) = true := by
  rw [ignU_succ, show s.getD k 0 = s[k] by simp [List.getD, hk], h0, h1, h2]; rfl
theorem lA_take (s : ByteArray) (k : Nat) : lA (s.extract 0 k) = (lA s).take k := by
  unfold lA
  simp [ByteArray.data_extract]
set_option maxHeartbeats 1600000 in
theorem refignored_any (s : ByteArray) (hs : s.size ≤ 9223372036854775807) (w : World) : Calls Tryz.prog 21 #[.string s] w fun e w' => e = .returned (.bool (ignB (lA s))) ∧ Below w.heap.size w w' := by
  have KH : Hid (∀ (t : ByteArray) (_ : t.size ≤ s.size) (c : UInt8) (w : World), Calls Tryz.prog 35 #[.string t, .int .u8 c.toNat] w fun e w' => e = .returned (.bool (hasB (lA t) c)) ∧ w' = w) := Lib.hid (fun t ht c w => (refhas_any t (by omega) c w).mono (fun _ _ h => ⟨h.1, h.2.symm⟩))
  have KP : Hid (∀ (c : UInt8) (w : World), Calls Tryz.prog 20 #[.int .u8 c.toNat] w fun e w' => e = .returned (.bool (plnB c)) ∧ w' = w) := Lib.hid (fun c w => (refplain_any c w).mono (fun _ _ h => ⟨h.1, h.2.symm⟩))
  have HSz := Lib.hid (lA_len s)
  go_enter Tryz.func21, Tryz.ntmps21
  go_wp2_with fail
  go_loopw [3] (fun i wr => ∃ k : Nat, k ≤ s.size ∧ i = .int .i64 k ∧ Below w.heap.size w wr ∧ ignU (lA s) k = true) (fun i _ => s.size - (intOf i).toNat)
  case atStart => exact ⟨0, Nat.zero_le _, rfl, Below.refl _ _, ignU_zero _⟩
  case round =>
    obtain ⟨k, hk, rfl, hb0, hok⟩ := hrel
    have HK := Lib.hid hok
    have HB := Lib.hid hb0
    clear hok hb0
    by_cases hlt : k < s.size
    · have hl2 : k < (lA s).length := by rw [HSz.out]; exact hlt
      have HG := Lib.hid (lA_get s k hlt hl2)
      obtain ⟨b, hb⟩ : ∃ b, s[k]'hlt = b := ⟨_, rfl⟩
      rw [hb] at HG
      cases hp : plnB b with
      | false =>
        have KP1 : Hid (∀ w, Calls Tryz.prog 20 #[.int .u8 (s[k]'hlt).toNat] w fun e w' => e = .returned (.bool false) ∧ w' = w) := Lib.hid (fun w => by have := KP.out b w; rw [hp] at this; rw [hb]; exact this)
        have HF : Hid (ignB (lA s) = false) := Lib.hid (ignU_bad hl2 (.inl (by rw [HG.out]; exact hp)))
        clear hp hb
        go_wp2_with fail
        go_quiet ((go_at_call 20; exact Calls.quiet_of_same (KP1.out _)))
        go_wp2_with fail
        go_ret
        exact ⟨ret_bool HF.out.symm, below_drewN HB.out _⟩
      | true =>
        have KP1 : Hid (∀ w, Calls Tryz.prog 20 #[.int .u8 (s[k]'hlt).toNat] w fun e w' => e = .returned (.bool true) ∧ w' = w) := Lib.hid (fun w => by have := KP.out b w; rw [hp] at this; rw [hb]; exact this)
        have KH1 := Lib.hid (fun w => KH.out (s.extract 0 k) (by rw [ByteArray.size_extract]; omega) b w)
        rw [lA_take] at KH1
        cases hh : hasB ((lA s).take k) b with
        | true =>
          have KH2 : Hid (∀ w, Calls Tryz.prog 35 #[.string (s.extract 0 k), .int .u8 (s[k]'hlt).toNat] w fun e w' => e = .returned (.bool true) ∧ w' = w) := Lib.hid (fun w => by have := KH1.out w; rw [hh] at this; rw [hb]; exact this)
          have HF : Hid (ignB (lA s) = false) := Lib.hid (ignU_bad hl2 (.inr (by rw [HG.out]; exact hh)))
          clear hp hb hh KH1
          go_wp2_with fail
          go_quiet (first | (go_at_call 20; exact Calls.quiet_of_same (KP1.out _)) | (go_at_call 35; exact Calls.quiet_of_same (KH2.out _)))
          go_wp2_with fail
          go_ret
          exact ⟨ret_bool HF.out.symm, below_drewN HB.out _⟩
        | false =>
          have KH2 : Hid (∀ w, Calls Tryz.prog 35 #[.string (s.extract 0 k), .int .u8 (s[k]'hlt).toNat] w fun e w' => e = .returned (.bool false) ∧ w' = w) := Lib.hid (fun w => by have := KH1.out w; rw [hh] at this; rw [hb]; exact this)
          have HF : Hid (ignU (lA s) (k + 1) = true) := Lib.hid (ignU_good hl2 HK.out (by rw [HG.out]; exact hp) (by rw [HG.out]; exact hh))
          clear hp hb hh KH1
          go_wp2_with fail
          go_quiet (first | (go_at_call 20; exact Calls.quiet_of_same (KP1.out _)) | (go_at_call 35; exact Calls.quiet_of_same (KH2.out _)))
          go_wp2_with fail
          go_roundw
          case rel => exact ⟨k + 1, by omega, by go_num, below_drewN HB.out _, HF.out⟩
          case measure => simp [intOf]; omega
    · obtain rfl : k = s.size := by omega
      have HE : Hid (ignB (lA s) = decide ((s.size : Int) ≤ 20)) := Lib.hid (by
        unfold ignB
        rw [HSz.out, HK.out, Bool.and_true]
        congr 1
        rw [eq_iff_iff]; omega)
      by_cases h20 : (s.size : Int) ≤ 20
      · rw [decide_eq_true h20] at HE
        go_wp2_with fail
        go_ret
        exact ⟨ret_bool HE.out.symm, HB.out⟩
      · rw [decide_eq_false h20] at HE
        go_wp2_with fail
        go_ret
        exact ⟨ret_bool HE.out.symm, HB.out⟩
end Go.Proofs.YtlmofdmbcddddaaGreatDoor
namespace Go.Proofs.YtlmofdmbcddddaaGreatDoor
open Go.RowKit
open WM RM
set_option linter.unusedVariables false
set_option linter.unusedSimpArgs false

set_option maxHeartbeats 800000 in
theorem within_any (n m : Int) (hm : 0 ≤ m ∧ m ≤ 1000000000) (w : World) :
    Calls Tryz.prog 127 #[.int .i64 n, .int .i64 m] w fun e w' => e = .returned (.bool (decide (-m ≤ n) && decide (n ≤ m))) ∧ w = w' := by
  have hw : wrap64 (-m) = -m := by unfold wrap64; omega
  by_cases h1 : -m ≤ n
  · by_cases h2 : n ≤ m
    · go_enter Tryz.func127, Tryz.ntmps127
      go_wp2_with fail
      go_ret
      exact ⟨ret_bool (by simp [h1, h2]), rfl⟩
    · go_enter Tryz.func127, Tryz.ntmps127
      go_wp2_with fail
      go_ret
      exact ⟨ret_bool (by simp [h1, h2]), rfl⟩
  · go_enter Tryz.func127, Tryz.ntmps127
    go_wp2_with fail
    go_ret
    exact ⟨ret_bool (by simp; omega), rfl⟩
theorem within_coef (n : Int) (w : World) : Calls Tryz.prog 127 #[.int .i64 n, .int .i64 1000000] w fun e w' => e = .returned (.bool (coefB n)) ∧ w = w' := within_any n 1000000 (by decide) w
theorem within_arg (n : Int) (w : World) : Calls Tryz.prog 127 #[.int .i64 n, .int .i64 1000000000] w fun e w' => e = .returned (.bool (decide (-1000000000 ≤ n) && decide (n ≤ 1000000000))) ∧ w = w' := within_any n 1000000000 (by decide) w
set_option maxRecDepth 100000 in
set_option maxHeartbeats 1600000 in
theorem formed_any (f : Fm) (v : Value) (n : Int) (hm : f.cs.length ≤ 9223372036854775807) (w : World) (hv : Ints w v f.cs) :
    Calls Tryz.prog 116 #[.agg #[.int .i64 f.k, v], .int .i64 n] w fun e w' => e = .returned (.bool (formB f n)) ∧ Below w.heap.size w w' := by
  obtain ⟨p, cap, rfl⟩ := hv.slice
  obtain ⟨W0, hW0⟩ : ∃ W, W = w.alloc (.cells #[.int .i64 f.k, .slice p f.cs.length cap] 47) := ⟨_, rfl⟩
  have N0 : W0.heap[w.heap.size]? = some (.cells #[.int .i64 f.k, .slice p f.cs.length cap] 47 (0, 0)) := by rw [hW0]; exact heap_alloc_new _ _
  have B0 : Below w.heap.size w W0 := by rw [hW0]; exact (Below.refl _ _).alloc (Nat.le_refl _) _
  have HB := Lib.hid B0
  have HV0 := Lib.hid (hv.later B0)
  have q0 := cell_two0 N0
  have q1 := cell_two1 N0
  have l1 := lt_of_block N0
  have KW := Lib.hid within_coef
  clear N0 B0 hv
  by_cases h3 : (f.cs.length : Int) = n
  · have t3 : ((f.cs.length : Int) != n) = false := by rw [h3]; simp
    have HN := Lib.hid h3
    cases hk : coefB f.k with
    | false =>
      have HF := Lib.hid (form_k (n := n) hk)
      have K1 := Lib.hid (KW.out f.k)
      rw [hk] at K1
      clear h3 hk
      go_enter Tryz.func116, Tryz.ntmps116
      go_wp2_with fail
      rw [← hW0]
      clear hW0
      go_wp2_with fail
      refine (K1.out _).mono ?_
      rintro e w1 ⟨rfl, rfl⟩
      go_wp2_with fail
      go_ret
      exact ⟨ret_bool HF.out.symm, HB.out⟩
    | true =>
      have HK := Lib.hid hk
      have K1 := Lib.hid (KW.out f.k)
      rw [hk] at K1
      clear h3 hk
      go_enter Tryz.func116, Tryz.ntmps116
      go_wp2_with fail
      rw [← hW0]
      clear hW0
      go_wp2_with fail
      refine (K1.out _).mono ?_
      rintro e w1 ⟨rfl, rfl⟩
      go_wp2_with fail
      go_loopw [21] (fun i wr => ∃ k : Nat, k ≤ f.cs.length ∧ i = .int .i64 k ∧ wr = W0 ∧ ∀ j, (h : j < f.cs.length) → j < k → coefB f.cs[j] = true) (fun i _ => f.cs.length - (intOf i).toNat)
      case atStart => exact ⟨0, Nat.zero_le _, rfl, rfl, fun j _ h => by omega⟩
      case round =>
        obtain ⟨k, hk, rfl, rfl, hok⟩ := hrel
        have HO := Lib.hid hok
        clear hok
        by_cases hlt : k < f.cs.length
        · obtain ⟨b, off, cap', hp, e1, lb⟩ := HV0.out.at hlt
          obtain rfl : p = some ⟨b, off, none⟩ := by cases hp; rfl
          have k1 : (k : Int) < (f.cs.length : Int) := by omega
          have K2 := Lib.hid (KW.out f.cs[k])
          obtain ⟨t, ht⟩ : ∃ t, coefB f.cs[k] = t := ⟨_, rfl⟩
          have HT := Lib.hid ht
          rw [ht] at K2
          clear hp ht
          generalize f.cs[k] = x at e1 K2
          cases t with
          | false =>
            have HF := Lib.hid (form_bad (n := n) hlt HT.out)
            go_wp2_with fail
            refine (K2.out _).mono ?_
            rintro e w1 ⟨rfl, rfl⟩
            go_wp2_with fail
            go_ret
            exact ⟨ret_bool HF.out.symm, HB.out⟩
          | true =>
            have HG : Hid (∀ j, (h : j < f.cs.length) → j < k + 1 → coefB f.cs[j] = true) := Lib.hid (fun j h hj => by
              rcases Nat.lt_or_eq_of_le (Nat.le_of_lt_succ hj) with h6 | h6
              · exact HO.out j h h6
              · subst h6; exact HT.out)
            go_wp2_with fail
            refine (K2.out _).mono ?_
            rintro e w1 ⟨rfl, rfl⟩
            go_wp2_with fail
            go_roundw
            case rel => exact ⟨k + 1, by omega, by go_num, (by first | trivial | rfl), HG.out⟩
            case measure => simp [intOf]; omega
        · obtain rfl : k = f.cs.length := by omega
          have HF := Lib.hid (form_ok HK.out HN.out (fun i hi => HO.out i hi hi))
          go_wp2_with fail
          go_ret
          exact ⟨ret_bool HF.out.symm, HB.out⟩
  · have HF := Lib.hid (form_len h3)
    have t3 : ((f.cs.length : Int) != n) = true := by rw [bne_iff_ne]; exact h3
    go_enter Tryz.func116, Tryz.ntmps116
    go_wp2_with fail
    rw [← hW0]
    clear hW0
    go_wp2_with fail
    go_ret
    exact ⟨ret_bool HF.out.symm, HB.out⟩
/-- Of a form that is valid for the args, which are in range. -/
theorem total_any (f : Fm) (x : List Int) (v u : Value) (hf : formB f (x.length : Int) = true) (hl : x.length ≤ 4) (hx : ∀ y ∈ x, -1000000000 ≤ y ∧ y ≤ 1000000000) (w : World) (hv : Ints w v f.cs) (hu : Ints w u x) :
    Calls Tryz.prog 117 #[.agg #[.int .i64 f.k, v], u] w fun e w' => e = .returned (.int .i64 (worth f x)) ∧ Below w.heap.size w w' := by
  obtain ⟨f1, f2, f3⟩ := form_iff hf
  have hlen : f.cs.length = x.length := by omega
  obtain ⟨p, cap, rfl⟩ := hv.slice
  obtain ⟨p2, cap2, rfl⟩ := hu.slice
  obtain ⟨W0, hW0⟩ : ∃ W, W = w.alloc (.cells #[.int .i64 f.k, .slice p f.cs.length cap] 47) := ⟨_, rfl⟩
  have N0 : W0.heap[w.heap.size]? = some (.cells #[.int .i64 f.k, .slice p f.cs.length cap] 47 (0, 0)) := by rw [hW0]; exact heap_alloc_new _ _
  have B0 : Below w.heap.size w W0 := by rw [hW0]; exact (Below.refl _ _).alloc (Nat.le_refl _) _
  have HB := Lib.hid B0
  have HV0 := Lib.hid (hv.later B0)
  have HU0 := Lib.hid (hu.later B0)
  have q0 := cell_two0 N0
  have q1 := cell_two1 N0
  have l1 := lt_of_block N0
  have HR := Lib.hid (wor_rng hlen f1 f3 hx)
  have HS : Hid (∀ k, (h : k < x.length) → wor f.k (f.cs.take (k + 1)) (x.take (k + 1)) = wor f.k (f.cs.take k) (x.take k) + f.cs[k]'(hlen.symm ▸ h) * x[k]) := Lib.hid (fun k h => wor_take hlen h)
  have HM : Hid (∀ k, (h : k < x.length) → -1000000000000000 ≤ f.cs[k]'(hlen.symm ▸ h) * x[k] ∧ f.cs[k]'(hlen.symm ▸ h) * x[k] ≤ 1000000000000000) := Lib.hid (fun k h => mul_rng (coefB_iff.1 (List.all_eq_true.1 f3 _ (List.getElem_mem (show k < f.cs.length by omega)))) (hx _ (List.getElem_mem h)))
  have HE : Hid (wor f.k (f.cs.take x.length) (x.take x.length) = worth f x) := Lib.hid (by rw [← hlen, List.take_length, hlen, List.take_length]; rfl)
  have H0 : Hid (wor f.k (f.cs.take 0) (x.take 0) = f.k) := Lib.hid (by simp [wor])
  rw [hlen] at q1
  rw [hlen] at hW0
  rw [hlen]
  clear N0 B0 hv hu hf hx f1 f2 f3
  go_enter Tryz.func117, Tryz.ntmps117
  go_wp2_with fail
  rw [← hW0]
  clear hW0
  go_wp2_with fail
  go_loopw [5, 13] (fun m i wr => ∃ k : Nat, k ≤ x.length ∧ i = .int .i64 k ∧ m = .int .i64 (wor f.k (f.cs.take k) (x.take k)) ∧ wr = W0) (fun _ i _ => x.length - (intOf i).toNat)
  case atStart => exact ⟨0, Nat.zero_le _, rfl, by rw [H0.out], rfl⟩
  case round =>
    obtain ⟨k, hk, rfl, rfl, rfl⟩ := hrel
    have hr := HR.out k hk
    by_cases hlt : k < x.length
    · obtain ⟨b, off, cap', hp, e1, lb⟩ := HV0.out.at (k := k) (by omega)
      obtain rfl : p = some ⟨b, off, none⟩ := by cases hp; rfl
      obtain ⟨b2, off2, cap3, hp2, e2, lb2⟩ := HU0.out.at hlt
      obtain rfl : p2 = some ⟨b2, off2, none⟩ := by cases hp2; rfl
      have k1 : (k : Int) < (x.length : Int) := by omega
      have HS1 := Lib.hid (HS.out k hlt)
      have hm := HM.out k hlt
      clear hp hp2
      obtain ⟨m, hmm⟩ : ∃ m, wor f.k (f.cs.take k) (x.take k) = m := ⟨_, rfl⟩
      rw [hmm] at HS1 hr ⊢
      obtain ⟨c, hc⟩ : ∃ c, f.cs[k]'(hlen.symm ▸ hlt) = c := ⟨_, rfl⟩
      rw [hc] at HS1 hm e1
      obtain ⟨y, hy⟩ : ∃ y, x[k] = y := ⟨_, rfl⟩
      rw [hy] at HS1 hm e2
      obtain ⟨z, hz⟩ : ∃ z, c * y = z := ⟨_, rfl⟩
      have hz1 : -1000000000000000 ≤ z ∧ z ≤ 1000000000000000 := by rw [← hz]; exact hm
      rw [hz] at HS1
      have hrr : -5000000001000000 ≤ m ∧ m ≤ 5000000001000000 := by
        have : (k : Int) ≤ 4 := by omega
        omega
      clear hmm hc hy hm hr
      go_wp2_with fail
      go_roundw
      case rel => exact ⟨k + 1, by omega, by go_num, by rw [HS1.out], (by first | trivial | rfl)⟩
      case measure => simp [intOf]; omega
    · obtain rfl : k = x.length := by omega
      rw [HE.out]
      go_wp2_with fail
      go_ret
      exact ⟨rfl, HB.out⟩
theorem all_no {fs : List Fm} {n : Int} {k : Nat} (hk : k < fs.length) (h : formB fs[k] n = false) : fs.all (formB · n) = false := by
  rw [List.all_eq_false]; exact ⟨_, List.getElem_mem hk, by rw [h]; simp⟩
theorem all_yes {fs : List Fm} {n : Int} (h : ∀ k, (hk : k < fs.length) → formB fs[k] n = true) : fs.all (formB · n) = true := by
  rw [List.all_eq_true]
  intro x hx
  obtain ⟨j, hj, rfl⟩ := List.mem_iff_getElem.1 hx
  exact h j hj
set_option maxRecDepth 100000 in
set_option maxHeartbeats 1600000 in
theorem allformed_any (fs : List Fm) (v : Value) (n : Int) (hm : fs.length ≤ 9223372036854775807) (hms : ∀ f ∈ fs, f.cs.length ≤ 9223372036854775807) (w : World) (hv : Fms w v fs) :
    Calls Tryz.prog 100 #[v, .int .i64 n] w fun e w' => e = .returned (.bool (fs.all (formB · n))) ∧ Below w.heap.size w w' := by
  obtain ⟨p, cap, rfl⟩ := hv.slice
  have HV := Lib.hid hv
  have HA := Lib.hid hms
  clear hv hms
  go_enter Tryz.func100, Tryz.ntmps100
  go_wp2_with fail
  go_loopw [9] (fun i wr => ∃ k : Nat, k ≤ fs.length ∧ i = .int .i64 k ∧ Below w.heap.size w wr ∧ ∀ j, (h : j < fs.length) → j < k → formB fs[j] n = true) (fun i _ => fs.length - (intOf i).toNat)
  case atStart => exact ⟨0, Nat.zero_le _, rfl, Below.refl _ _, fun j _ h => by omega⟩
  case round =>
    obtain ⟨k, hk, rfl, hb, hok⟩ := hrel
    have HK := Lib.hid hok
    have HB := Lib.hid hb
    clear hok hb
    by_cases hlt : k < fs.length
    · obtain ⟨b, off, cap', q, c, hp, e1, e2, hin, lb⟩ := (HV.out.later (HB.out.mono (Nat.le_refl _))).at hlt
      obtain rfl : p = some ⟨b, off, none⟩ := by cases hp; rfl
      have k1 : (k : Int) < (fs.length : Int) := by omega
      have HI := Lib.hid hin
      have KF := Lib.hid (fun (w : World) (h : Ints w (.slice q fs[k].cs.length c) fs[k].cs) => formed_any fs[k] (.slice q fs[k].cs.length c) n (HA.out _ (List.getElem_mem hlt)) w h)
      obtain ⟨t, ht⟩ : ∃ t, formB fs[k] n = t := ⟨_, rfl⟩
      have HT := Lib.hid ht
      rw [ht] at KF
      generalize fs[k].k = fk at e1 KF
      generalize fs[k].cs.length = fl at e2 KF HI
      obtain ⟨W1, hW1⟩ : ∃ W, W = wr.alloc (.cells #[.int .i64 fk, .slice q fl c] 47) := ⟨_, rfl⟩
      have N1 : W1.heap[wr.heap.size]? = some (.cells #[.int .i64 fk, .slice q fl c] 47 (0, 0)) := by rw [hW1]; exact heap_alloc_new _ _
      have b1 : Below wr.heap.size wr W1 := by rw [hW1]; exact (Below.refl _ _).alloc (Nat.le_refl _) _
      have B1 := Lib.hid b1
      have q0 := cell_two0 N1
      have q1 := cell_two1 N1
      clear hp hin ht N1 b1
      cases t with
      | false =>
        have HF := Lib.hid (all_no hlt HT.out)
        go_wp2_with fail
        rw [← hW1]
        clear hW1
        go_wp2_with fail
        refine (KF.out _ (HI.out.later B1.out)).mono ?_
        rintro e w1 ⟨rfl, hb⟩
        have HB1 := Lib.hid (HB.out.trans ((B1.out.trans (hb.mono B1.out.size)).mono HB.out.size))
        clear hb
        go_wp2_with fail
        go_ret
        exact ⟨ret_bool HF.out.symm, HB1.out⟩
      | true =>
        have HG : Hid (∀ j, (h : j < fs.length) → j < k + 1 → formB fs[j] n = true) := Lib.hid (fun j h hj => by
          rcases Nat.lt_or_eq_of_le (Nat.le_of_lt_succ hj) with h1 | h1
          · exact HK.out j h h1
          · subst h1; exact HT.out)
        go_wp2_with fail
        rw [← hW1]
        clear hW1
        go_wp2_with fail
        refine (KF.out _ (HI.out.later B1.out)).mono ?_
        rintro e w1 ⟨rfl, hb⟩
        have HB1 := Lib.hid (HB.out.trans ((B1.out.trans (hb.mono B1.out.size)).mono HB.out.size))
        clear hb
        go_wp2_with fail
        go_roundw
        case rel => exact ⟨k + 1, by omega, by go_num, HB1.out, HG.out⟩
        case measure => simp [intOf]; omega
    · obtain rfl : k = fs.length := by omega
      have HF := Lib.hid (all_yes (fun i hi => HK.out i hi hi))
      go_wp2_with fail
      go_ret
      exact ⟨ret_bool HF.out.symm, HB.out⟩
end Go.Proofs.YtlmofdmbcddddaaGreatDoor
namespace Go.Proofs.YtlmofdmbcddddaaGreatDoor
open Go.RowKit
open WM RM
set_option linter.unusedVariables false
set_option linter.unusedSimpArgs false

/-- A word of one module in a new block. -/
theorem mods_new (w : World) (m : Md) (v : Value) (hv : Ints w v m.a) (hn : NilOr v) : Mods (w.alloc (.cells #[.int .u8 m.c.toNat, v] 27)) (.slice (some ⟨w.heap.size, 0, none⟩) 1 1) [m] := by
  have N0 := heap_alloc_new w (.cells #[.int .u8 m.c.toNat, v] 27)
  refine .some w.heap.size 0 1 [m] (by simp) (lt_of_block N0) fun i hi => ?_
  have h0 : i = 0 := by simpa using hi
  subst h0
  exact ⟨cell_two0 N0, v, cell_two1 N0, hv.later ((Below.refl _ _).alloc (Nat.le_refl _) _), hn⟩
set_option maxHeartbeats 800000 in
theorem pletter_any (c : UInt8) (w : World) : Calls Tryz.prog 99 #[.int .u8 c.toNat] w fun e w' => e = .returned (.bool (letB c && !(braB c))) ∧ Below w.heap.size w w' := by
  obtain ⟨W0, hW0⟩ : ∃ W, W = w.alloc (.cells #[.int .u8 c.toNat, .slice none 0 0] 27) := ⟨_, rfl⟩
  have B0 : Below w.heap.size w W0 := by rw [hW0]; exact (Below.refl _ _).alloc (Nat.le_refl _) _
  have HB := Lib.hid B0
  have hm : Mods W0 (.slice (some ⟨w.heap.size, 0, none⟩) 1 1) [⟨c, []⟩] := by rw [hW0]; exact mods_new w ⟨c, []⟩ (.slice none 0 0) (.none _ _) (.inl rfl)
  have K := Lib.hid (pcheck_any (.slice (some ⟨w.heap.size, 0, none⟩) 1 1) [⟨c, []⟩] (by simp) (by simp) W0 hm)
  have hc := chk_let c
  obtain ⟨x, hx⟩ : ∃ x, chk [⟨c, []⟩] = x := ⟨_, rfl⟩
  rw [hx] at K hc
  have HR : Hid ((x == 0) = (letB c && !(braB c))) := Lib.hid (by rw [← hc, Bool.eq_iff_iff, beq_iff_eq, decide_eq_true_iff])
  clear hm hc hx B0
  obtain ⟨cn, hcn⟩ : ∃ cn : Nat, c.toNat = cn := ⟨_, rfl⟩
  rw [hcn] at hW0 ⊢
  clear hcn
  go_enter Tryz.func99, Tryz.ntmps99
  go_wp2_with fail
  rw [← hW0]
  clear hW0
  refine K.out.mono ?_
  rintro e w1 ⟨rfl, hb⟩
  have B1 := Lib.hid (HB.out.trans (hb.mono HB.out.size))
  clear hb
  go_wp2_with fail
  go_ret
  exact ⟨ret_bool HR.out, B1.out⟩
/-- Where blank stands. -/
structure BlAt (w : World) (out : List Sh) (k : Nat) (v : Value) (wr : World) : Prop where
  hi : k ≤ out.length
  below : Below w.heap.size w wr
  own : ∃ vs, ModFr wr w.heap.size v ((out.take k).map blM) vs
theorem blAt_start (w : World) (out : List Sh) : BlAt w out 0 (.slice none 0 0) w := ⟨Nat.zero_le _, Below.refl _ _, [], by simpa using modFr_nil w w.heap.size⟩
theorem blAt_step {w wo X X4 : World} {out : List Sh} {k n0 : Nat} {v v2 u : Value} {vs : List Value} (hlt : k < out.length) (hT : BlAt w out k v wo) (hO : ModFr wo w.heap.size v ((out.take k).map blM) vs) (e : Below wo.heap.size wo X)
    (hz : X.ownsRow wo.heap.size 3 1 u n0 (valsL (List.replicate n0 0))) (hb : blM out[k] = zerM out[k].c n0) (ho : X4.ownsRow w.heap.size 27 2 v2 (k + 1) (modC ((out.take k).map blM) vs ++ [.int .u8 out[k].c.toNat, u]))
    (hg : X.grownBy X4 v.ownBlock) (h4 : v2.ownBlock = v.ownBlock ∨ v2.ownBlock = some X.heap.size) : BlAt w out (k + 1) v2 X4 := by
  have hl : ((out.take k).map blM).length = k := by rw [List.length_map, List.length_take]; omega
  have hsz := hT.below.size
  have z := e.size
  refine ⟨hlt, (hT.below.trans (e.mono hsz)).grown hg (by omega) (fun j ej => (owns_lt hO.row j ej).1), vs ++ [u], ?_⟩
  have em : (out.take (k + 1)).map blM = (out.take k).map blM ++ [zerM out[k].c n0] := by
    rw [List.take_succ_eq_append_getElem hlt, List.map_append, List.map_cons, List.map_nil, hb]
  rw [em]
  exact modFr_snoc (m := zerM out[k].c n0) hO hsz e (by simpa [zerM] using hz) (by rw [hl]; exact ho) hg h4
theorem zer_own (w : World) (n base : Nat) (hn : n ≤ 1000) (hb : base ≤ w.heap.size) : (w.alloc (.cells (zeros n) 3)).ownsRow base 3 1 (.slice (some ⟨w.heap.size, 0, none⟩) n n) n (valsL (List.replicate n 0)) := by
  have h := World.ownsRow_lit (base := base) (e := 3) (size := 1) w (zeros n) n hb (by have : maxLen = 9223372036854775807 := rfl; omega) (by rw [zeros_size, Nat.mul_one])
  have e : (zeros n).toList = valsL (List.replicate n 0) := by
    apply List.ext_getElem
    · simp [zeros_size, valsL]
    · intro i h1 h2
      have h3 : i < n := by simpa [zeros_size] using h1
      have := zeros_at h3
      rw [Array.getElem?_eq_some_iff] at this
      obtain ⟨_, h4⟩ := this
      simp [valsL, h4]
  rw [e] at h; exact h
set_option maxRecDepth 100000 in
set_option maxHeartbeats 1600000 in
theorem blank_any (out : List Sh) (v : Value) (hm : out.length ≤ 2000) (ha : ∀ s ∈ out, s.a.length ≤ 9223372036854775807) (w : World) (hv : Shs w v out) :
    Calls Tryz.prog 101 #[v] w fun e w' => ∃ v' vs, e = .returned v' ∧ Below w.heap.size w w' ∧ ModFr w' w.heap.size v' (out.map blM) vs := by
  obtain ⟨p, cap, rfl⟩ := hv.slice
  have HV := Lib.hid hv
  have HA := Lib.hid ha
  obtain ⟨j0, hj, hy0, hy1, hy2⟩ := info_parts info_mod
  have HM : Hid (maxLen = 9223372036854775807) := Lib.hid rfl
  have S0 := Lib.hid (blAt_start w out)
  clear hv ha
  go_enter Tryz.func101, Tryz.ntmps101
  go_wp2_with fail
  go_loopw [3, 9] (fun v i wr => ∃ k : Nat, i = .int .i64 k ∧ BlAt w out k v wr) (fun _ i _ => out.length - (intOf i).toNat)
  case atStart => exact ⟨0, rfl, S0.out⟩
  case round =>
    rename World => wo
    obtain ⟨k, rfl, hT⟩ := hrel
    have HT := Lib.hid hT
    have n1 := hT.hi
    have hsz := hT.below.size
    obtain ⟨vs, hO⟩ := hT.own
    have HO := Lib.hid hO
    clear hT hO
    by_cases hlt : k < out.length
    · obtain ⟨b, off, cap', q, c, hp, e1, e2, hin, lb⟩ := (HV.out.later (HT.out.below.mono (Nat.le_refl _))).at hlt
      obtain rfl : p = some ⟨b, off, none⟩ := by cases hp; rfl
      have k1 : (k : Int) < (out.length : Int) := by omega
      have hlk : ((out.take k).map blM).length = k := by rw [List.length_map, List.length_take]; omega
      have hal := HA.out _ (List.getElem_mem hlt)
      have HB1 : Hid (blM out[k] = zerM out[k].c (min out[k].a.length 5)) := Lib.hid rfl
      obtain ⟨W1, hW1⟩ : ∃ W, W = wo.alloc (.cells #[.int .u8 out[k].c.toNat, .slice q out[k].a.length c] 49) := ⟨_, rfl⟩
      have N1 : W1.heap[wo.heap.size]? = some (.cells #[.int .u8 out[k].c.toNat, .slice q out[k].a.length c] 49 (0, 0)) := by rw [hW1]; exact heap_alloc_new _ _
      have b1 : Below wo.heap.size wo W1 := by rw [hW1]; exact (Below.refl _ _).alloc (Nat.le_refl _) _
      have B1 := Lib.hid b1
      have q0 := cell_two0 N1
      have q1 := cell_two1 N1
      have l1 := lt_of_block N1
      have hrow := HO.out.row
      rw [hlk] at hrow
      have HR := Lib.hid (l_own_later hrow b1)
      have hvl := owns_lt hrow
      have HVl := Lib.hid hvl
      obtain ⟨cn, hcn⟩ : ∃ cn : Nat, out[k].c.toNat = cn := ⟨_, rfl⟩
      have HCn := Lib.hid hcn
      obtain ⟨al, hal2⟩ : ∃ al, out[k].a.length = al := ⟨_, rfl⟩
      rw [hcn] at e1 q0 hW1
      rw [hal2] at e2 q1 hW1 HB1 hal
      obtain ⟨n0, hn0⟩ : ∃ n0, min al 5 = n0 := ⟨_, rfl⟩
      have hmin : min (al : Int) 5 = (n0 : Int) := by omega
      rw [hn0] at HB1
      have hn5 : n0 ≤ 5 := by omega
      have hmk := made_run n0 (by omega)
      clear hp hin N1 b1 hcn hal2 hrow hvl hn0
      go_wp2_with fail
      rw [← hW1]
      clear hW1
      go_wp2_with fail
      obtain ⟨M, hM⟩ : ∃ M : Obj, M = .cells #[.int .u8 cn, .slice (some ⟨W1.heap.size, 0, none⟩) n0 n0] 27 := ⟨_, rfl⟩
      have P1 : Hid (((W1.alloc (.cells (zeros n0) 3)).alloc M).drew.ownsRow w.heap.size 27 2 u3 k (modC ((out.take k).map blM) vs)) := Lib.hid ((HR.out.alloc _).alloc _)
      have P2 : Hid (((W1.alloc (.cells (zeros n0) 3)).alloc M).drew.ownsRow wo.heap.size 3 1 (.slice (some ⟨W1.heap.size, 0, none⟩) n0 n0) n0 (valsL (List.replicate n0 0))) := Lib.hid ((zer_own W1 n0 wo.heap.size (by omega) B1.out.size).alloc M)
      have P3 : Hid (Below wo.heap.size wo ((W1.alloc (.cells (zeros n0) 3)).alloc M).drew) := Lib.hid ((B1.out.alloc B1.out.size _).alloc (by have := B1.out.size; simp; omega) _).drew
      rw [hM] at P1 P2 P3
      have hz := B1.out.size
      clear hM
      go_region_law? (first
          | (refine step_append_own _ rfl (.tmp 17) (.tmp 23) 22 rfl w.heap.size 27 j0 (.agg #[.int .u8 0, .slice none 0 0]) 2 32 Tryz.underlying22 hj hy0 hy1 hy2 rfl (by decide) u3 k (modC ((out.take k).map blM) vs) rfl P1.out ⟨W1.heap.size + 1, 0, none⟩ 1 1 [.int .u8 cn, .slice (some ⟨W1.heap.size, 0, none⟩) n0 n0] rfl rfl (fun j u h => by have h9 := two_new (W1.alloc (.cells (zeros n0) 3)) _ _ 27 j u h; simpa using h9) (by simp [Value.oneCell']) (by rw [HM.out]; omega) (by omega) (by simp; omega) ?_
             intro v2 w2 ho2 hg2 hn2 hb2))
      all_goals
        have T1 := Lib.hid (blAt_step hlt HT.out HO.out P3.out P2.out HB1.out (by rw [HCn.out]; exact ho2) hg2 hb2)
        clear ho2 hg2 hn2 hb2
        go_wp2_with fail
        go_roundw
        case rel => exact ⟨k + 1, by go_num, T1.out⟩
        case measure => simp [intOf]; omega
    · have hk : k = out.length := by omega
      have HX := Lib.hid hk
      have hm : ¬ (k : Int) < (out.length : Int) := by omega
      clear hk hlt
      go_wp2_with fail
      go_ret
      exact ⟨_, rfl, HT.out.below, vs, by have h9 := HO.out; rw [HX.out, List.take_length] at h9; exact h9⟩
end Go.Proofs.YtlmofdmbcddddaaGreatDoor
namespace Go.Proofs.YtlmofdmbcddddaaGreatDoor
open Go.RowKit
open WM RM CM
set_option linter.unusedVariables false
set_option linter.unusedSimpArgs false

theorem idxB_ge : ∀ (l : List UInt8) (c : UInt8), -1 ≤ Lib.indexByte l c
  | [], _ => by simp [Lib.indexByte]
  | x :: l, c => by
    have := idxB_ge l c
    unfold Lib.indexByte
    repeat (first | omega | split)
theorem idx_has (l : Bs) (c : UInt8) : decide (0 ≤ Lib.indexByte l c) = hasB l c := by
  rw [Bool.eq_iff_iff, decide_eq_true_iff]
  have hge := idxB_ge l c
  constructor
  · intro h
    obtain ⟨o, ho⟩ : ∃ o : Nat, Lib.indexByte l c = (o : Int) := ⟨(Lib.indexByte l c).toNat, by omega⟩
    obtain ⟨h1, _⟩ := Lib.indexByte_some ho
    obtain ⟨h2, h3⟩ := List.getElem?_eq_some_iff.1 h1
    exact has_at h2 (by rw [h3]; simp)
  · intro h
    unfold hasB at h
    rw [List.any_eq_true] at h
    obtain ⟨x, hx, he⟩ := h
    obtain ⟨k, hk, rfl⟩ := List.mem_iff_getElem.1 hx
    by_cases hn : Lib.indexByte l c = -1
    · have := Lib.indexByte_none hn k
      rw [List.getElem?_eq_getElem hk, beq_iff_eq.1 he] at this
      exact absurd rfl this
    · omega
set_option maxHeartbeats 800000 in
theorem cletter_any (c : UInt8) (w : World) : Calls Tryz.prog 29 #[.int .u8 c.toNat] w fun e w' => e = .returned (.bool (plnB c)) ∧ Below w.heap.size w w' := by
  obtain ⟨W0, hW0⟩ : ∃ W, W = w.alloc (.cells #[.int .u8 c.toNat, .slice none 0 0] 27) := ⟨_, rfl⟩
  have B0 : Below w.heap.size w W0 := by rw [hW0]; exact (Below.refl _ _).alloc (Nat.le_refl _) _
  have HB := Lib.hid B0
  have hm : Mods W0 (.slice (some ⟨w.heap.size, 0, none⟩) 1 1) [⟨c, []⟩] := by rw [hW0]; exact mods_new w ⟨c, []⟩ (.slice none 0 0) (.none _ _) (.inl rfl)
  have K := Lib.hid (pcheck_any (.slice (some ⟨w.heap.size, 0, none⟩) 1 1) [⟨c, []⟩] (by simp) (by simp) W0 hm)
  have hc := chk_let c
  obtain ⟨x, hx⟩ : ∃ x, chk [⟨c, []⟩] = x := ⟨_, rfl⟩
  rw [hx] at K hc
  have HR : Hid ((x == 0) = plnB c) := Lib.hid (by show _ = (letB c && !(braB c)); rw [← hc, Bool.eq_iff_iff, beq_iff_eq, decide_eq_true_iff])
  clear hm hc hx B0
  obtain ⟨cn, hcn⟩ : ∃ cn : Nat, c.toNat = cn := ⟨_, rfl⟩
  rw [hcn] at hW0 ⊢
  clear hcn
  go_enter Tryz.func29, Tryz.ntmps29
  go_wp2_with fail
  rw [← hW0]
  clear hW0
  refine K.out.mono ?_
  rintro e w1 ⟨rfl, hb⟩
  have B1 := Lib.hid (HB.out.trans (hb.mono HB.out.size))
  clear hb
  go_wp2_with fail
  go_ret
  exact ⟨ret_bool HR.out, B1.out⟩
def askcB (c : UInt8) : Bool := c == 0 || plnB c
theorem askB_eq (r : Rw) : askB r = (askcB r.l && askcB r.r) := rfl
theorem u8_z {c : UInt8} : ((c.toNat : Int) == 0) = (c == 0) := by
  rw [show (0 : Int) = ((0 : UInt8).toNat : Int) from rfl, u8_eq]
set_option maxHeartbeats 800000 in
theorem caskable_any (c : UInt8) (w : World) : Calls Tryz.prog 69 #[.int .u8 c.toNat] w fun e w' => e = .returned (.bool (askcB c)) ∧ Below w.heap.size w w' := by
  have KL := Lib.hid (fun w => cletter_any c w)
  have HA : Hid (askcB c = (((c.toNat : Int) == 0) || plnB c)) := Lib.hid (by rw [u8_z]; rfl)
  generalize askcB c = t at HA ⊢
  generalize plnB c = pl at KL HA
  generalize c.toNat = cn at KL HA ⊢
  cases t0 : ((cn : Int) == 0) with
  | true =>
    rw [t0] at HA
    go_enter Tryz.func69, Tryz.ntmps69
    go_wp2_with fail
    go_ret
    exact ⟨ret_bool (by rw [HA.out]; rfl), Below.refl _ _⟩
  | false =>
    rw [t0, Bool.false_or] at HA
    go_enter Tryz.func69, Tryz.ntmps69
    go_wp2_with fail
    refine (KL.out _).mono ?_
    rintro e w1 ⟨rfl, hb⟩
    have B1 := Lib.hid hb
    clear hb
    go_wp2_with fail
    go_ret
    exact ⟨ret_bool HA.out.symm, B1.out⟩
set_option maxHeartbeats 800000 in
theorem cignored_any (s : ByteArray) (c : UInt8) (p : Option Addr) (n cap : Nat) (w : World) : Calls Tryz.prog 32 #[.agg #[.int .u8 c.toNat, .slice p n cap], .string s] w fun e w' => e = .returned (.bool (hasB (lA s) c)) ∧ Below w.heap.size w w' := by
  obtain ⟨W0, hW0⟩ : ∃ W, W = w.alloc (.cells #[.int .u8 c.toNat, .slice p n cap] 27) := ⟨_, rfl⟩
  have N0 : W0.heap[w.heap.size]? = some (.cells #[.int .u8 c.toNat, .slice p n cap] 27 (0, 0)) := by rw [hW0]; exact heap_alloc_new _ _
  have B0 : Below w.heap.size w W0 := by rw [hW0]; exact (Below.refl _ _).alloc (Nat.le_refl _) _
  have HB := Lib.hid B0
  have q0 := cell_two0 N0
  have l1 := lt_of_block N0
  have KI := Lib.hid (fun w => Tryz.strings_IndexByte s (c.toNat : Int) w)
  rw [u8_int] at KI
  have HX : Hid (decide (0 ≤ Lib.indexByte s.data.toList c) = hasB (lA s) c) := Lib.hid (idx_has _ c)
  generalize Lib.indexByte s.data.toList c = x at KI HX
  generalize hasB (lA s) c = t at HX ⊢
  have hcl := c.toNat_lt
  generalize c.toNat = cn at KI hW0 q0 hcl ⊢
  clear N0 B0
  go_enter Tryz.func32, Tryz.ntmps32
  go_wp2_with fail
  rw [← hW0]
  clear hW0
  go_wp2_with fail
  refine (KI.out _).mono ?_
  rintro e w1 ⟨rfl, rfl⟩
  go_wp2_with fail
  go_ret
  exact ⟨ret_bool HX.out, HB.out⟩
set_option maxRecDepth 100000 in
set_option maxHeartbeats 3200000 in
theorem cignorable_any (s : ByteArray) (hs : s.size ≤ 9223372036854775807) (w : World) : Calls Tryz.prog 30 #[.string s] w fun e w' => e = .returned (.bool (ignB (lA s))) ∧ Below w.heap.size w w' := by
  have HSz := Lib.hid (lA_len s)
  by_cases h20 : (20 : Int) < (s.size : Int)
  · have HF : Hid (ignB (lA s) = false) := Lib.hid (ign_len (by rw [HSz.out]; omega))
    go_enter Tryz.func30, Tryz.ntmps30
    go_wp2_with fail
    go_ret
    exact ⟨ret_bool HF.out.symm, Below.refl _ _⟩
  · have KL := Lib.hid cletter_any
    have KI := Lib.hid (fun (t : ByteArray) (c : UInt8) w => Tryz.strings_IndexByte t (c.toNat : Int) w)
    go_enter Tryz.func30, Tryz.ntmps30
    go_wp2_with fail
    go_loopw [9] (fun i wr => ∃ k : Nat, k ≤ s.size ∧ i = .int .i64 k ∧ Below w.heap.size w wr ∧ ignU (lA s) k = true) (fun i _ => s.size - (intOf i).toNat)
    case atStart => exact ⟨0, Nat.zero_le _, rfl, Below.refl _ _, ignU_zero _⟩
    case round =>
      obtain ⟨k, hk, rfl, hb0, hok⟩ := hrel
      have HK := Lib.hid hok
      have HB := Lib.hid hb0
      clear hok hb0
      by_cases hlt : k < s.size
      · have hl2 : k < (lA s).length := by rw [HSz.out]; exact hlt
        have HG := Lib.hid (lA_get s k hlt hl2)
        obtain ⟨b, hb⟩ : ∃ b, s[k]'hlt = b := ⟨_, rfl⟩
        rw [hb] at HG
        have KL1 : Hid (∀ (d' : Nat) (os : Array Obj), Calls Tryz.prog 29 #[.int .u8 (s[k]'hlt).toNat] («Sort».grow (redrawn wr d') os) fun e w' => e = .returned (.bool (plnB b)) ∧ Below («Sort».grow (redrawn wr d') os).heap.size («Sort».grow (redrawn wr d') os) w') := Lib.hid (fun d' os => by rw [hb]; exact KL.out b _)
        have KI1 : Hid (∀ (d' : Nat) (os : Array Obj), Calls Tryz.prog 47 #[.string (s.extract 0 k), .int .u8 (s[k]'hlt).toNat] («Sort».grow (redrawn wr d') os) fun e w' => e = .returned (.int .i64 (Lib.indexByte (s.extract 0 k).data.toList b)) ∧ Below («Sort».grow (redrawn wr d') os).heap.size («Sort».grow (redrawn wr d') os) w') := Lib.hid (fun d' os => by
          rw [hb]
          refine (KI.out _ b _).mono ?_
          rintro e w2 ⟨h1, h2⟩
          subst h2
          exact ⟨by rw [h1, u8_int], Below.refl _ _⟩)
        have HX : Hid (decide (0 ≤ Lib.indexByte (s.extract 0 k).data.toList b) = hasB ((lA s).take k) b) := Lib.hid (by rw [← lA_take]; exact idx_has _ b)
        generalize Lib.indexByte (s.extract 0 k).data.toList b = x at KI1 HX
        cases hp : plnB b with
        | false =>
          rw [hp] at KL1
          have HF : Hid (ignB (lA s) = false) := Lib.hid (ignU_bad hl2 (.inl (by rw [HG.out]; exact hp)))
          clear hp hb
          go_wp2_with fail
          (refine wp_region_quiet_below (by kernel_rfl) (by kernel_rfl) ?_; repeat (any_goals (first | go_big_quiet_step ((first | (go_at_call 29; exact Calls.regrown_of (KL1.out _ _)) | (go_at_call 47; exact Calls.regrown_of (KI1.out _ _)))) | quiet_step ((first | (go_at_call 29; exact Calls.regrown_of (KL1.out _ _)) | (go_at_call 47; exact Calls.regrown_of (KI1.out _ _)))))))
          (refine wpQuiet_nil ?_; intro _ hw'; obtain ⟨⟨dq, osq⟩, hw''⟩ := hw'; subst hw''; have HB2 : Hid (Below w.heap.size w («Sort».grow (redrawn wr dq) osq)) := Lib.hid (HB.out.trans ((below_regrown wr dq osq).mono HB.out.size)))
          go_wp2_with fail
          go_ret
          exact ⟨ret_bool HF.out.symm, HB2.out⟩
        | true =>
          rw [hp] at KL1
          cases hh : hasB ((lA s).take k) b with
          | true =>
            have h0 : (0 : Int) ≤ x := of_decide_eq_true (HX.out.trans hh)
            have HF : Hid (ignB (lA s) = false) := Lib.hid (ignU_bad hl2 (.inr (by rw [HG.out]; exact hh)))
            clear hp hb hh
            go_wp2_with fail
            (refine wp_region_quiet_below (by kernel_rfl) (by kernel_rfl) ?_; repeat (any_goals (first | go_big_quiet_step ((first | (go_at_call 29; exact Calls.regrown_of (KL1.out _ _)) | (go_at_call 47; exact Calls.regrown_of (KI1.out _ _)))) | quiet_step ((first | (go_at_call 29; exact Calls.regrown_of (KL1.out _ _)) | (go_at_call 47; exact Calls.regrown_of (KI1.out _ _)))))))
            (refine wpQuiet_nil ?_; intro _ hw'; obtain ⟨⟨dq, osq⟩, hw''⟩ := hw'; subst hw''; have HB2 : Hid (Below w.heap.size w («Sort».grow (redrawn wr dq) osq)) := Lib.hid (HB.out.trans ((below_regrown wr dq osq).mono HB.out.size)))
            go_wp2_with fail
            go_ret
            exact ⟨ret_bool HF.out.symm, HB2.out⟩
          | false =>
            have h0 : ¬ (0 : Int) ≤ x := of_decide_eq_false (HX.out.trans hh)
            have HF : Hid (ignU (lA s) (k + 1) = true) := Lib.hid (ignU_good hl2 HK.out (by rw [HG.out]; exact hp) (by rw [HG.out]; exact hh))
            clear hp hb hh
            go_wp2_with fail
            (refine wp_region_quiet_below (by kernel_rfl) (by kernel_rfl) ?_; repeat (any_goals (first | go_big_quiet_step ((first | (go_at_call 29; exact Calls.regrown_of (KL1.out _ _)) | (go_at_call 47; exact Calls.regrown_of (KI1.out _ _)))) | quiet_step ((first | (go_at_call 29; exact Calls.regrown_of (KL1.out _ _)) | (go_at_call 47; exact Calls.regrown_of (KI1.out _ _)))))))
            (refine wpQuiet_nil ?_; intro _ hw'; obtain ⟨⟨dq, osq⟩, hw''⟩ := hw'; subst hw''; have HB2 : Hid (Below w.heap.size w («Sort».grow (redrawn wr dq) osq)) := Lib.hid (HB.out.trans ((below_regrown wr dq osq).mono HB.out.size)))
            go_wp2_with fail
            go_roundw
            case rel => exact ⟨k + 1, by omega, by go_num, HB2.out, HF.out⟩
            case measure => first | (simp [intOf]; done) | (simp [intOf]; omega)
      · obtain rfl : k = s.size := by omega
        have k1 : ¬ (s.size : Int) < (s.size : Int) := by omega
        have HE : Hid (ignB (lA s) = true) := Lib.hid (by
          unfold ignB
          rw [HSz.out, HK.out, Bool.and_true, decide_eq_true_iff]
          omega)
        go_wp2_with fail
        go_ret
        exact ⟨ret_bool HE.out.symm, HB.out⟩
end Go.Proofs.YtlmofdmbcddddaaGreatDoor
namespace Go.Proofs.YtlmofdmbcddddaaGreatDoor
open Go.RowKit
open WM RM CM
set_option linter.unusedVariables false
set_option linter.unusedSimpArgs false

theorem ne_tst {c d : UInt8} (h : c ≠ d) : ((c.toNat : Int) == (d.toNat : Int)) = false := by rw [u8_eq]; exact beq_eq_false_iff_ne.2 h
theorem nn_tst {c d : UInt8} (h : c ≠ d) : ((c.toNat : Int) != (d.toNat : Int)) = true := by rw [bne, ne_tst h]; rfl
end Go.Proofs.YtlmofdmbcddddaaGreatDoor
namespace Go.Proofs.YtlmofdmbcddddaaGreatDoor
open Go.RowKit
open WM RM CM
set_option linter.unusedVariables false
set_option linter.unusedSimpArgs false

/-- Where pairs stands. -/
structure PaAt (w : World) (u : List Md) (k : Nat) (v : Value) (wr : World) : Prop where
  hi : k ≤ u.length
  below : Below w.heap.size w wr
  row : RowI wr w.heap.size (othL u k)
  own : wr.ownsRow (w.heap.size + 1) 3 1 v (stk u k).length (valsL ((stk u k).reverse.map Int.ofNat))
theorem paAt_start (w : World) (u : List Md) : PaAt w u 0 (.slice none 0 0) (w.alloc (.cells (zeros u.length) 3)) :=
  ⟨Nat.zero_le _, (Below.refl _ _).alloc (Nat.le_refl _) _, made_row _ _, World.ownsRow_nil _ _ _ _⟩
theorem make_ints (n : Nat) (hn : n ≤ 50000) (w : World) : (Instr.makeSlice 25 (.int .i64 (n : Int)) (.int .i64 (n : Int))).run Tryz.prog w = .ok (.slice (some ⟨w.heap.size, 0, none⟩) n n) (w.alloc (.cells (zeros n) 3)) := by
  have := run_make (P := Tryz.prog) w 25 3 Tryz.t3 (.int .i64 0) Tryz.underlying25 (by kernel_rfl) (by kernel_rfl) .i64 .i64 n n (by omega) (Int.le_refl _) (by show ((8 : Nat) : Int) * (n : Int) ≤ _; omega) (by omega)
  rw [this]; simp only [zeros, Value.cells, Int.toNat_natCast, show (Tryz.t3).size = 1 from rfl, Nat.mul_one]
theorem PaAt.drew {w wr : World} {u : List Md} {k : Nat} {v : Value} (h : PaAt w u k v wr) : PaAt w u k v wr.drew := ⟨h.hi, h.below.trans ((Below.refl _ _).drew.mono h.below.size), h.row.of_block rfl, l_own_later h.own (Below.refl _ _).drew⟩
theorem cell_still2 {w : World} {p q : Addr} {x v : Value} (h : w.cell? q = some v) : ∃ v', (w.setCell p x).cell? q = some v' := by
  by_cases e : p = q
  · subst e; exact ⟨x, World.cell?_setCell_same w p x h⟩
  · exact ⟨v, (World.cell?_setCell_other w p q x e).trans h⟩
theorem grown_setCell (W : World) (b i : Nat) (v : Value) : W.grownBy (W.setCell ⟨b, i, none⟩ v) (some b) :=
  ⟨rfl, rfl, rfl, (KeepsWalks.setCell W _ v).size, fun k _ hk => Below.heap_setCell _ _ _ k (fun e => hk (by rw [e]))⟩
theorem own_shrink {w : World} {base n m g cap : Nat} {e : TypeId} {xs : List Value} (h : w.ownsRow base e 1 (.slice (some ⟨g, 0, none⟩) n cap) n xs) (hm : m ≤ n) : w.ownsRow base e 1 (.slice (some ⟨g, 0, none⟩) m cap) m (xs.take m) := by
  obtain ⟨h1, h2⟩ := h
  refine ⟨by rw [List.length_take]; omega, .inr ?_⟩
  rcases h2 with ⟨hv, _⟩ | ⟨g', cap', cur, hv, hb, hg, hc1, hc2, hsz, htake⟩
  · simp at hv
  · simp only [Value.slice.injEq, Option.some.injEq, Addr.mk.injEq] at hv
    obtain ⟨⟨rfl, _⟩, _, rfl⟩ := hv
    refine ⟨g, cap, cur, rfl, hb, hg, by omega, hc2, hsz, ?_⟩
    rw [← htake, List.take_take]; congr 1; omega
theorem own_cap {w : World} {base n g cap k : Nat} {e : TypeId} {xs : List Value} {sz : Nat} (h : w.ownsRow base e sz (.slice (some ⟨g, 0, none⟩) n cap) k xs) : n ≤ cap ∧ cap ≤ maxLen := by
  rcases h.2 with ⟨hv, _⟩ | ⟨g', cap', cur, hv, hb, hg, hc1, hc2, hsz, htake⟩
  · simp at hv
  · simp only [Value.slice.injEq, Option.some.injEq, Addr.mk.injEq] at hv
    obtain ⟨_, rfl, rfl⟩ := hv
    exact ⟨hc1, hc2⟩
/-- The open brackets as they lie in memory. -/
def stI (u : List Md) (k : Nat) : List Int := (stk u k).reverse.map Int.ofNat
theorem stI_length (u : List Md) (k : Nat) : (stI u k).length = (stk u k).length := by simp [stI]
theorem stI_open {u : List Md} {k : Nat} (h : (md u k).c = 91) : stI u (k + 1) = stI u k ++ [(k : Int)] := by simp [stI, stk_open h]
theorem stI_else {u : List Md} {k : Nat} (h1 : (md u k).c ≠ 93) (h2 : (md u k).c ≠ 91) : stI u (k + 1) = stI u k ∧ (stk u (k + 1)).length = (stk u k).length := by simp [stI, stk_else h1 h2]
theorem stI_close {u : List Md} {k j : Nat} {rest : List Nat} (hs : stk u k = j :: rest) (hs' : stk u (k + 1) = rest) : stI u k = stI u (k + 1) ++ [(j : Int)] ∧ (stk u k).length = (stk u (k + 1)).length + 1 := by simp [stI, hs, hs']
theorem paAt_else {w wr : World} {u : List Md} {k : Nat} {v : Value} (h : PaAt w u k v wr) (hk : k < u.length) (h1 : (md u k).c ≠ 93) (h2 : (md u k).c ≠ 91) : PaAt w u (k + 1) v wr := by
  refine ⟨hk, h.below, by rw [othL_else h1]; exact h.row, ?_⟩
  rw [stk_else h1 h2]; exact h.own
theorem paAt_open {w wr w1 w2 : World} {u : List Md} {k : Nat} {v v2 : Value} (h : PaAt w u k v wr) (hk : k < u.length) (h2 : (md u k).c = 91) (hb : Below wr.heap.size wr w1) (hg : w1.grownBy w2 v.ownBlock) (ho : w2.ownsRow (w.heap.size + 1) 3 1 v2 ((stk u k).length + 1) (valsL (stI u k) ++ [.int .i64 (k : Int)])) : PaAt w u (k + 1) v2 w2 := by
  have h1 : (md u k).c ≠ 93 := by rw [h2]; decide
  have hl := owns_lt h.own
  have lr := h.row.lt
  have B1 := h.below.trans (hb.mono h.below.size)
  refine ⟨hk, B1.grown hg B1.size (fun j e => by have := hl j e; omega), ?_, ?_⟩
  · rw [othL_else h1]
    refine (h.row.later hb).of_block (hg.block _ (Nat.lt_of_lt_of_le lr hb.size) fun e => ?_)
    have := hl _ e.symm; omega
  · have e : (stk u (k + 1)).length = (stk u k).length + 1 := by rw [stk_open h2]; rfl
    rw [e]
    show w2.ownsRow _ _ _ _ _ (valsL (stI u (k + 1)))
    rw [stI_open h2]
    unfold valsL at *
    rw [List.map_append]; exact ho
theorem paAt_close {w wr : World} {u : List Md} {k j g cap : Nat} {rest : List Nat} (h : PaAt w u k (.slice (some ⟨g, 0, none⟩) (rest.length + 1) cap) wr) (hk : k < u.length) (h2 : (md u k).c = 93) (hs : stk u k = j :: rest) (hs' : stk u (k + 1) = rest) (hj : j < u.length) (x y : Value) (hx : x = .int .i64 (j : Int)) (hy : y = .int .i64 (k : Int)) :
    PaAt w u (k + 1) (.slice (some ⟨g, 0, none⟩) rest.length cap) ((wr.setCell ⟨w.heap.size, k, none⟩ x).setCell ⟨w.heap.size, j, none⟩ y) := by
  subst hx hy
  have hl := owns_lt h.own g rfl
  refine ⟨hk, (h.below.setCell (Nat.le_refl _) _).setCell (Nat.le_refl _) _, ?_, ?_⟩
  · rw [othL_close h2 hs]
    exact (h.row.set (i := k) (by rw [othL_length]; exact hk) (j : Int)).set (i := j) (by rw [List.length_set, othL_length]; exact hj) (k : Int)
  · rw [hs']
    have hown := (h.own.kept (grown_setCell wr w.heap.size k (.int .i64 (j : Int))) (.inr (by show some g ≠ _; intro e; have := Option.some.inj e; omega))).kept (grown_setCell _ w.heap.size j (.int .i64 (k : Int))) (.inr (by show some g ≠ _; intro e; have := Option.some.inj e; omega))
    obtain ⟨e1, e2⟩ := stI_close hs hs'
    rw [hs, List.length_cons] at hown
    have := own_shrink hown (Nat.le_succ rest.length)
    have e3 : (valsL ((j :: rest).reverse.map Int.ofNat)).take rest.length = valsL (rest.reverse.map Int.ofNat) := by simp [valsL, List.take_append]
    rw [e3] at this
    exact this
/-- How pairs ends. -/
def PaEnd (u : List Md) (w : World) (e : Ending) (w' : World) : Prop := ∃ g, e = .returned (.slice (some ⟨g, 0, none⟩) u.length u.length) ∧ Below w.heap.size w w' ∧ RowI w' g (othL u u.length) ∧ w.heap.size ≤ g
set_option maxRecDepth 100000 in
set_option maxHeartbeats 3200000 in
theorem pairs_any (v : Value) (u : List Md) (hu : u.length ≤ 2000) (hok : okB u u.length = true) (w : World) (hv : Mods w v u) :
    Calls Tryz.prog 31 #[v] w (PaEnd u w) := by
  obtain ⟨p, cap, rfl⟩ := hv.slice
  have HV := Lib.hid hv
  have hmk := make_ints u.length (by omega)
  have S0 := Lib.hid (paAt_start w u)
  have HOk := Lib.hid hok
  obtain ⟨i0, hi, hz0, hz1, hz2⟩ := info_parts info_int
  have HM : Hid (maxLen = 9223372036854775807) := Lib.hid rfl
  clear hv hok
  go_enter Tryz.func31, Tryz.ntmps31
  go_wp2_with fail
  go_loopw [4, 12] (fun v i wr => ∃ k : Nat, i = .int .i64 k ∧ PaAt w u k v wr) (fun _ i _ => u.length - (intOf i).toNat)
  case atStart => exact ⟨0, rfl, S0.out⟩
  case round =>
    obtain ⟨k, rfl, hO⟩ := hrel
    have HO := Lib.hid hO
    have n1 := hO.hi
    have hsz := hO.below.size
    have hlr := hO.row.lt
    clear hO
    by_cases hlt : k < u.length
    · obtain ⟨b, off, cap', q, c, hp, e1, _, _, lb⟩ := (HV.out.later HO.out.below).at hlt
      obtain rfl : p = some ⟨b, off, none⟩ := by cases hp; rfl
      have k1 : (k : Int) < (u.length : Int) := by omega
      rw [← md_get hlt] at e1
      clear hp
      by_cases c1 : (md u k).c = 91
      · have t1 : (((md u k).c.toNat : Int) == 91) = true := by rw [c1]; rfl
        have HT : Hid (∀ v2 w2, _ → _ → PaAt w u (k + 1) v2 w2) := Lib.hid (fun v2 w2 hg ho => paAt_open (w1 := wr.alloc (.cells #[.int .i64 (k : Int)] 3)) HO.out hlt c1 ((Below.refl _ _).alloc (Nat.le_refl _) _) (w2 := w2) (v2 := v2) hg ho)
        have HLn : Hid ((stk u k).length ≤ 2000) := Lib.hid (by
          have := stk_len HOk.out k (by omega)
          have := dep_hi u k (by omega)
          omega)
        have P5 : Hid ((wr.alloc (.cells #[.int .i64 (k : Int)] 3)).ownsRow (w.heap.size + 1) 3 1 u4 (stk u k).length (valsL (stI u k))) := Lib.hid (HO.out.own.alloc (.cells #[.int .i64 (k : Int)] 3))
        generalize (md u k).c.toNat = cn at e1 t1
        generalize (stk u k).length = sn at P5 HT HLn
        generalize valsL (stI u k) = sx at P5 HT
        have hln := HLn.out
        clear c1
        go_wp2_with (at_builtin; refine wpList_append_own _ rfl _ _ 25 rfl (w.heap.size + 1) 3 i0 (.int .i64 0) 1 8 Tryz.underlying25 hi hz0 hz1 hz2 rfl (by decide) u4 sn sx rfl P5.out ⟨wr.heap.size, 0, none⟩ 1 1 [.int .i64 (k : Int)] rfl rfl (cell_one_new _ _ _) (by simp [Value.oneCell']) (by rw [HM.out]; omega) (by omega) (by simp; omega) ?_; intro v2 w3 ho2 hg2 hn2)
        have T1 := Lib.hid (HT.out v2 w3 hg2 ho2)
        clear ho2 hg2 hn2
        go_wp2_with fail
        go_roundw
        case rel => exact ⟨k + 1, by go_num, T1.out⟩
        case measure => first | (simp [intOf]; done) | (simp [intOf]; omega)
      · have t1 : (((md u k).c.toNat : Int) == 91) = false := ne_tst c1
        by_cases c2 : (md u k).c = 93
        · have t2 : (((md u k).c.toNat : Int) == 93) = true := by rw [c2]; rfl
          obtain ⟨j, rest, hs, hs', hjk, _⟩ := stk_top HOk.out hlt c2
          have hown : wr.ownsRow (w.heap.size + 1) 3 1 u4 (rest.length + 1) (valsL (stI u k)) := by
            have := HO.out.own
            rw [hs, List.length_cons] at this; unfold stI; rw [hs]; exact this
          have hlen : (stI u k).length = rest.length + 1 := by rw [stI_length, hs]; rfl
          obtain ⟨g, sc, hv4, hgb, hrow⟩ := row_of_owned hown (by omega)
          rw [hlen] at hv4
          subst hv4
          have hcap := own_cap hown
          have q4 := hrow.cell (i := rest.length) (by omega)
          have e5 : (stI u k)[rest.length]'(by omega) = (j : Int) := by
            have := (stI_close hs hs').1
            have e6 : (stI u (k + 1)).length = rest.length := by rw [stI_length, hs']
            simp only [this]
            rw [List.getElem_append_right (by omega)]
            simp [e6]
          rw [e5] at q4
          have q1 := HO.out.row.cell (i := k) (by rw [othL_length]; exact hlt)
          have f1 := HO.out.row.free k
          have q2 := HO.out.row.cell (i := j) (by rw [othL_length]; omega)
          have f2 := HO.out.row.free j
          generalize (othL u k)[k]'(by rw [othL_length]; exact hlt) = z1 at q1
          generalize (othL u k)[j]'(by rw [othL_length]; omega) = z2 at q2
          have HT := Lib.hid (paAt_close HO.out hlt c2 hs hs' (by omega) (.int .i64 (j : Int)) (.int .i64 (k : Int)) rfl rfl)
          obtain ⟨v3, hy3⟩ := cell_still2 (w := wr) (p := ⟨w.heap.size, k, none⟩) (x := .int .i64 (j : Int)) (q := ⟨w.heap.size, j, none⟩) q2
          have j1 : (j : Int) < (u.length : Int) := by omega
          have n4 : rest.length ≤ 2000 := by
            have h1 := stk_len HOk.out k (by omega)
            have h2 := dep_hi u k (by omega)
            rw [hs, List.length_cons] at h1; omega
          have m4 : ((rest.length : Nat) : Int) ≤ (sc : Int) := by omega
          generalize (md u k).c.toNat = cn at e1 t1 t2
          clear hs hs' hown hlen hrow e5 c1 c2 HO hgb
          generalize rest.length = rn at q4 HT m4 n4 hcap ⊢
          go_wp2_with fail
          go_region
          go_wp2_with fail
          go_roundw
          case rel => exact ⟨k + 1, by go_num, HT.out.drew⟩
          case measure => first | (simp [intOf]; done) | (simp [intOf]; omega)
        · have t2 : (((md u k).c.toNat : Int) == 93) = false := ne_tst c2
          have HT := Lib.hid (paAt_else HO.out hlt c2 c1)
          generalize (md u k).c.toNat = cn at e1 t1 t2
          clear c1 c2
          go_wp2_with fail
          go_roundw
          case rel => exact ⟨k + 1, by go_num, HT.out⟩
          case measure => first | (simp [intOf]; done) | (simp [intOf]; omega)
    · obtain rfl : k = u.length := by omega
      have k1 : ¬ (u.length : Int) < (u.length : Int) := by omega
      have HE : Hid (PaEnd u w (.returned (.slice (some ⟨w.heap.size, 0, none⟩) u.length u.length)) wr) := Lib.hid ⟨_, rfl, HO.out.below, HO.out.row, Nat.le_refl _⟩
      go_wp2_with fail
      go_ret
      exact HE.out
end Go.Proofs.YtlmofdmbcddddaaGreatDoor
