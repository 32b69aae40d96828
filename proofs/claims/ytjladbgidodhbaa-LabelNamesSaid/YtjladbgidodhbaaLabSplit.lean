/-
  What split, under, common, checkBelowRoot, Parent and Join of package label hand back.
-/
import Derived.Test.YtjladbgidodhbaaLabCheck
import Derived.Deep.QuietTactic
import Derived.BigQuiet
namespace Go.Proofs.Ytjladbgidodhbaa
open Go.RowKit Go.Shelf
open LM
set_option linter.unusedVariables false
set_option linter.unusedSimpArgs false
attribute [local go_sem] Oper.semAt_some

def parU (p : Bs) : Bs := pathL (cutL p).dropLast
theorem split_none {p : Bs} (h : (47 : UInt8) ∉ p) : parU p = [] ∧ lasL p = p := by
  unfold parU lasL cutL
  split
  · rename_i h0; subst h0; exact ⟨rfl, rfl⟩
  · rw [splitA_no _ _ h]; exact ⟨rfl, rfl⟩
theorem split_at {a b : Bs} (h : (47 : UInt8) ∉ b) : parU (a ++ 47 :: b) = a ∧ lasL (a ++ 47 :: b) = b := by
  have hne : a ++ 47 :: b ≠ [] := by simp
  unfold parU lasL
  rw [cutL_ne hne, splitA_at, splitA_no _ _ h]
  constructor
  · rw [List.dropLast_concat, pathL_splitA]; rfl
  · simp
set_option maxHeartbeats 400000 in
theorem split_any (s : ByteArray) (hs : s.size ≤ 100000) (w : World) :
    Calls Try.prog 38 #[.string s] w fun e w' => e = .returned (.tuple #[.string (bA (parU (lA s))), .string (bA (lasL (lA s)))]) ∧ Below w.heap.size w w' := by
  obtain ⟨k, hk⟩ : ∃ k, Lib.lastIndex (lA s) [47] = k := ⟨_, rfl⟩
  have K1 : Hid (∀ w, Calls Try.prog 56 #[.string s, .string ⟨#[47]⟩] w fun e w' => e = .returned (.int .i64 k) ∧ w = w') := Lib.hid (fun w => by
    have := lastindex_lib s 47 (by omega) w
    rwa [hk] at this)
  by_cases h : (47 : UInt8) ∈ lA s
  · obtain ⟨a, b, he, hb⟩ := last_slash h
    have hp := split_at (a := a) hb
    rw [← he] at hp
    rw [he, lastIndex_at hb] at hk
    subst hk
    have hal : a.length + 1 + b.length = s.size := by rw [← lA_len, he]; simp; omega
    have hA : Hid (bA (parU (lA s)) = s.extract 0 a.length) := Lib.hid (by rw [hp.1]; apply lA_inj; rw [lA_bA, lA_take, he]; simp)
    have hB : Hid (bA (lasL (lA s)) = s.extract (a.length + 1) s.size) := Lib.hid (by
      rw [hp.2]; apply lA_inj; rw [lA_bA, lA_ext, he]
      have e : (a ++ 47 :: b).drop (a.length + 1) = b := by simp
      rw [e, List.take_of_length_le (by omega)])
    obtain ⟨n, hn⟩ : ∃ n, a.length = n := ⟨_, rfl⟩
    rw [hn] at hA hB K1 hal
    clear h he hb hp hn
    go_enter Try.func38, Try.ntmps38
    go_wp2_with fail
    refine (K1.out _).mono ?_
    rintro e ws ⟨rfl, rfl⟩
    have z1 : (n : Int) + 1 ≤ s.size := by omega
    have z2 : (n : Int) ≤ s.size := by omega
    go_wp2_with fail
    go_quiet (fail)
    go_wp2_with fail
    go_ret2
    exact ⟨by rw [hA.out, hB.out]; rfl, below_drewN (Below.refl _ _) _⟩
  · have hp := split_none h
    rw [lastIndex_none h] at hk
    subst hk
    have hA : Hid (bA (parU (lA s)) = s.extract 0 (max (-1 : Int) 0).toNat) := Lib.hid (by rw [hp.1]; apply lA_inj; rw [lA_take]; rfl)
    have hB : Hid (bA (lasL (lA s)) = s) := Lib.hid (by rw [hp.2]; rfl)
    clear h hp
    go_enter Try.func38, Try.ntmps38
    go_wp2_with fail
    refine (K1.out _).mono ?_
    rintro e ws ⟨rfl, rfl⟩
    go_wp2_with fail
    go_quiet (fail)
    go_wp2_with fail
    go_ret2
    exact ⟨by rw [hA.out, hB.out]; rfl, below_drewN (Below.refl _ _) _⟩

theorem str_eq {s : ByteArray} (h : lA s = []) : s.toList.isEmpty = true := by
  rw [ByteArray.toList_eq]
  show (lA s).isEmpty = true
  rw [h]; rfl
set_option maxHeartbeats 400000 in
theorem under_any (p q : ByteArray) (hp : p.size ≤ 100000) (hq : q.size ≤ 100000) (w : World) :
    Calls Try.prog 45 #[.string p, .string q] w fun e w' => e = .returned (.bool (undB (lA p) (lA q))) ∧ w = w' := by
  have hv := und_text (lA p) (lA q)
  by_cases h0 : 0 < q.size
  · have hem := str_ne h0
    rw [decide_eq_false (lA_ne h0), Bool.false_or] at hv
    by_cases he : p = q
    · subst he
      rw [decide_eq_true rfl, Bool.true_or] at hv
      have HV := Lib.hid hv
      clear hv
      go_enter Try.func45, Try.ntmps45
      go_wp2_with fail
      go_ret
      exact ⟨ret_bool HV.out.symm, rfl⟩
    · rw [decide_eq_false (fun e => he (lA_inj e)), Bool.false_or] at hv
      have hne := bA_ne (x := lA p) (y := lA q) (fun e => he (lA_inj e))
      rw [bA_lA, bA_lA] at hne
      obtain ⟨e1, e2, e3⟩ := hne
      have HV := Lib.hid hv
      have K1 : Hid (∀ w, Calls Try.prog 62 #[.string p, .string (q ++ ⟨#[47]⟩)] w fun e w' => e = .returned (.bool (Lib.hasPrefix (lA p) (lA q ++ [47]))) ∧ w = w') := Lib.hid (fun w => by
        have := hasprefix_lib p (q ++ ⟨#[47]⟩) w
        have e : lA (q ++ ⟨#[47]⟩) = lA q ++ [47] := by
          show (q ++ (⟨#[47]⟩ : ByteArray)).data.toList = _
          rw [ByteArray.data_append, Array.toList_append]; rfl
        rwa [e] at this)
      clear hv he
      go_enter Try.func45, Try.ntmps45
      go_wp2_with fail
      refine (K1.out _).mono ?_
      rintro e ws ⟨rfl, rfl⟩
      go_wp2_with fail
      go_ret
      exact ⟨ret_bool HV.out.symm, rfl⟩
  · obtain rfl := str_nil h0
    have HV : Hid (undB (lA p) (lA ByteArray.empty) = true) := Lib.hid (by rw [hv]; rfl)
    clear hv
    go_enter Try.func45, Try.ntmps45
    go_wp2_with fail
    go_ret
    exact ⟨ret_bool HV.out.symm, rfl⟩

theorem below_root (s : ByteArray) (hs : s.size ≤ 100000) (w : World) (hl : Len w) :
    Calls Try.prog 37 #[.string s] w fun e w' => e = .returned (.int .i64 (parE (lA s))) ∧ Below w.heap.size w w' := by
  obtain ⟨c, hc⟩ : ∃ c, chk (lA s) = c := ⟨_, rfl⟩
  have K1 := Lib.hid (fun w hl => check_v s hs c hc w hl)
  have B0 := Lib.hid (Below.refl w.heap.size w)
  have L_0 := Lib.hid hl
  clear hl
  by_cases h0 : c = 0
  · subst h0
    by_cases hz : 0 < s.size
    · have HE : Hid (parE (lA s) = 0) := Lib.hid (by rw [parE, if_pos hc, if_neg (fun e => lA_ne hz (cutL_eq_nil.1 e))])
      have hem := str_ne hz
      clear hc
      go_enter Try.func37, Try.ntmps37
      go_wp2_with fail
      refine (K1.out _ L_0.out).mono ?_
      rintro e w1 ⟨rfl, hb⟩
      have B1 := Lib.hid (B0.out.trans (hb.mono B0.out.size))
      have L_1 := Lib.hid (L_0.out.later hb)
      clear hb B0 L_0
      go_wp2_with fail
      go_ret
      exact ⟨ret_int (by rw [HE.out]), B1.out⟩
    · have HE : Hid (parE (lA s) = 6) := Lib.hid (by rw [parE, if_pos hc, if_pos (cutL_eq_nil.2 (List.length_eq_zero_iff.1 (by rw [lA_len]; omega)))])
      obtain rfl := str_nil hz
      clear hc
      go_enter Try.func37, Try.ntmps37
      go_wp2_with fail
      refine (K1.out _ L_0.out).mono ?_
      rintro e w1 ⟨rfl, hb⟩
      have B1 := Lib.hid (B0.out.trans (hb.mono B0.out.size))
      have L_1 := Lib.hid (L_0.out.later hb)
      clear hb B0 L_0
      go_wp2_with fail
      go_ret
      exact ⟨ret_int (by rw [HE.out]), B1.out⟩
  · have h1 : (c != 0) = true := bne_iff_ne.2 h0
    have HE : Hid (parE (lA s) = c) := Lib.hid (by rw [parE, if_neg (fun e => h0 (hc.symm.trans e)), hc])
    clear hc
    go_enter Try.func37, Try.ntmps37
    go_wp2_with fail
    refine (K1.out _ L_0.out).mono ?_
    rintro e w1 ⟨rfl, hb⟩
    have B1 := Lib.hid (B0.out.trans (hb.mono B0.out.size))
    have L_1 := Lib.hid (L_0.out.later hb)
    clear hb B0 L_0
    go_wp2_with fail
    go_ret
    exact ⟨ret_int (by rw [HE.out]), B1.out⟩

theorem take_prefix {a b : List Bs} {j : Nat} (hj : j ≤ a.length) : a.take j <+: b ↔ j ≤ sharedL a b := by
  constructor
  · intro h
    have h1 := (prefix_shared (a.take j) a b).2 ⟨List.take_prefix _ _, h⟩
    have := h1.length_le
    rw [List.length_take, List.length_take] at this; omega
  · intro h
    have e : a.take j = (a.take (sharedL a b)).take j := by rw [List.take_take, Nat.min_eq_left h]
    rw [e, sharedL_take]
    exact (List.take_prefix _ _).trans (List.take_prefix _ _)
theorem parU_less {p : Bs} (h : p ≠ []) : (parU p).length < p.length := by
  by_cases hm : (47 : UInt8) ∈ p
  · obtain ⟨a, b, rfl, hb⟩ := last_slash hm
    rw [(split_at hb).1]; simp
  · rw [(split_none hm).1]; exact List.length_pos_iff.2 h
/-- Where common's loop stands. -/
structure ComAt (A B : List Bs) (l : Bs) (j : Nat) : Prop where
  is : cutL l = A.take j
  lo : sharedL A B ≤ j
  hi : j ≤ A.length
theorem ComAt.next {A B : List Bs} {l : Bs} {j : Nat} (h : ComAt A B l j) (hA : ∀ x ∈ A, (47 : UInt8) ∉ x ∧ x ≠ []) (hn : ¬ j ≤ sharedL A B) : ComAt A B (parU l) (j - 1) := by
  have e : (A.take j).dropLast = A.take (j - 1) := by
    rw [List.dropLast_eq_take, List.length_take, List.take_take]; congr 1; have := h.hi; omega
  refine ⟨?_, by omega, by have := h.hi; omega⟩
  unfold parU
  rw [h.is, e, cutL_pathL (fun x hx => hA x (List.mem_of_mem_take hx))]
theorem ComAt.done {p q l : Bs} {j : Nat} (h : ComAt (cutL p) (cutL q) l j) (hn : j ≤ sharedL (cutL p) (cutL q)) : l = comL p q := by
  have : j = sharedL (cutL p) (cutL q) := Nat.le_antisymm hn h.lo
  rw [← pathL_cutL l, h.is, this]; rfl
theorem ComAt.und {p q l : Bs} {j : Nat} (h : ComAt (cutL p) (cutL q) l j) : undB q l = true ↔ j ≤ sharedL (cutL p) (cutL q) := by
  rw [undB_iff, h.is, take_prefix h.hi]
set_option maxHeartbeats 1000000 in
theorem common_any (p q : ByteArray) (hp : p.size ≤ 100000) (hq : q.size ≤ 100000) (hv : chk (lA p) = 0) (w : World) :
    Calls Try.prog 49 #[.string p, .string q] w fun e w' => e = .returned (.string (bA (comL (lA p) (lA q)))) ∧ Below w.heap.size w w' := by
  have HA := Lib.hid (cut_steps hv)
  clear hv
  go_enter Try.func49, Try.ntmps49
  go_wp2_with fail
  go_loopw [0] (fun pv wr => ∃ (l : Bs) (j : Nat), pv = .string (bA l) ∧ l.length ≤ 100000 ∧ ComAt (cutL (lA p)) (cutL (lA q)) l j ∧ Below w.heap.size w wr) (fun pv _ => match pv with | .string r => r.size | _ => 0)
  case atStart => exact ⟨lA p, (cutL (lA p)).length, rfl, by rw [lA_len]; exact hp, ⟨by rw [List.take_length], (sharedL_le _ _).1, Nat.le_refl _⟩, Below.refl _ _⟩
  case round =>
    obtain ⟨l, j, rfl, hl, hC, hB⟩ := hrel
    have HC := Lib.hid hC
    have HB := Lib.hid hB
    have hls : (bA l).size ≤ 100000 := by rw [bA_size]; exact hl
    obtain ⟨u, hu⟩ : ∃ u, undB (lA q) l = u := ⟨_, rfl⟩
    have K1 : Hid (∀ w, Calls Try.prog 45 #[.string q, .string (bA l)] w fun e w' => e = .returned (.bool u) ∧ w = w') := Lib.hid (fun w => by
      have := under_any q (bA l) hq hls w
      rwa [lA_bA, hu] at this)
    have HU := Lib.hid hu
    clear hC hB hu
    cases u
    · have hnj : ¬ j ≤ sharedL (cutL (lA p)) (cutL (lA q)) := fun e => by have := HC.out.und.2 e; rw [HU.out] at this; exact absurd this (by simp)
      have hne : l ≠ [] := fun e => by
        have := HC.out.is
        rw [e, cutL_nil] at this
        have h2 := congrArg List.length this
        rw [List.length_take, List.length_nil] at h2
        have := HC.out.hi; omega
      have HN := Lib.hid (HC.out.next HA.out hnj)
      have HM := Lib.hid (parU_less hne)
      obtain ⟨a, ha⟩ : ∃ a, parU l = a := ⟨_, rfl⟩
      have K2 : Hid (∀ w, Calls Try.prog 38 #[.string (bA l)] w fun e w' => e = .returned (.tuple #[.string (bA a), .string (bA (lasL l))]) ∧ Below w.heap.size w w') := Lib.hid (fun w => by
        have := split_any (bA l) hls w
        rwa [lA_bA, ha] at this)
      rw [ha] at HN HM
      clear ha hne hnj
      go_wp2_with fail
      refine (K1.out _).mono ?_
      rintro e ws ⟨rfl, rfl⟩
      go_wp2_with fail
      refine (K2.out _).mono ?_
      rintro e w2 ⟨rfl, hb⟩
      have HB2 := Lib.hid (HB.out.trans (hb.mono HB.out.size))
      clear hb
      go_wp2_with fail
      go_roundw
      case rel => exact ⟨a, j - 1, rfl, by have := HM.out; omega, HN.out, HB2.out⟩
      case measure =>
        show (bA a).size < (bA l).size
        rw [bA_size, bA_size]; exact HM.out
    · have HE := Lib.hid (HC.out.done (HC.out.und.1 HU.out))
      have K2 := Lib.hid (fun w => clone_lib (bA l) (by omega) w)
      go_wp2_with fail
      refine (K1.out _).mono ?_
      rintro e ws ⟨rfl, rfl⟩
      go_wp2_with fail
      refine (K2.out _).mono ?_
      rintro e w2 ⟨rfl, hb⟩
      have HB2 := Lib.hid (HB.out.trans (hb.mono HB.out.size))
      clear hb
      go_wp2_with fail
      go_ret
      exact ⟨ret_str (by rw [HE.out]), HB2.out⟩
end Go.Proofs.Ytjladbgidodhbaa
