/-
  What the reference's fine, at any value, and Check hand back.
-/
import Derived.Test.YtakjgjhjndiggaaGreatDoorValFine
namespace Go.Proofs.YtakjgjhjndiggaaGreatDoor
open Go.RowKit
open VM
set_option linter.unusedVariables false
set_option linter.unusedSimpArgs false

theorem size_toList (s : ByteArray) : s.size = 0 ↔ s.toList = [] := by
  rw [ByteArray.toList_eq, ← ByteArray.size_data]
  constructor
  · intro h; exact Array.toList_eq_nil_iff.2 (Array.eq_empty_of_size_eq_zero h)
  · intro h; rw [Array.toList_eq_nil_iff.1 h]; rfl
theorem fine_list_no {a : Nd} {l : List V} (h : a.k = 4) (h2 : ¬ (a.n = 0 ∧ a.d = 0 ∧ a.t = false ∧ a.s.size = 0)) : fineB (.mk a l) = false := by
  rw [fine_list h, Bool.eq_false_iff]
  intro e
  simp only [Bool.and_eq_true, decide_eq_true_eq, Bool.not_eq_true'] at e
  exact h2 ⟨e.1.1.1, e.1.1.2, e.1.2.1, e.1.2.2⟩
theorem fine_list_ok {a : Nd} {l : List V} (h : a.k = 4) (hn : a.n = 0) (hd : a.d = 0) (ht : a.t = false) (hs : a.s.size = 0) : fineB (.mk a l) = l.all fineB := by
  rw [fine_list h, hn, hd, ht, hs]; simp

set_option maxHeartbeats 1000000 in
theorem reffine_list_no (a : Nd) (l : List V) (p : Option Addr) (cap : Nat) (w : World) (hk : a.k = 4) (hno : ¬ (a.n = 0 ∧ a.d = 0 ∧ a.t = false ∧ a.s.size = 0)) :
    Calls Tryz.prog 71 #[.agg #[.int .u8 a.k, .int .i64 a.n, .int .i64 a.d, .bool a.t, .string a.s, .slice p l.length cap]] w fun e w' => e = .returned (.bool (fineB (.mk a l))) ∧ Below w.heap.size w w' := by
  have HE := Lib.hid (fine_list_no (l := l) hk hno)
  have HB := Lib.hid (fine_start w)
  have HN := Lib.hid hno
  have k1 : (a.k == 1) = false := by simp [hk]
  have k2 : (a.k == 2) = false := by simp [hk]
  have k3 : (a.k == 3) = false := by simp [hk]
  have k4 : (a.k == 4) = true := by simp [hk]
  clear hk hno
  by_cases hs : a.s.size = 0
  · have s1 : ¬ (0 : Int) < a.s.size := by omega
    cases ht : a.t
    · have HT := Lib.hid ht
      go_enter Tryz.func71, Tryz.ntmps71
      go_wp2_with fail
      all_goals first
        | (go_ret; exact ⟨ret_bool HE.out.symm, HB.out _ _⟩)
        | (exact absurd ⟨by assumption, by assumption, HT.out, hs⟩ HN.out)
    · go_enter Tryz.func71, Tryz.ntmps71
      go_wp2_with fail
      all_goals (go_ret; exact ⟨ret_bool HE.out.symm, HB.out _ _⟩)
  · have s1 : (0 : Int) < a.s.size := by omega
    go_enter Tryz.func71, Tryz.ntmps71
    go_wp2_with fail
    all_goals (go_ret; exact ⟨ret_bool HE.out.symm, HB.out _ _⟩)

set_option maxHeartbeats 2000000 in
theorem reffine_v (Q : Nat → Prop) (v : V) : ∀ (sl : Value) (w : World), Small v → RepL Q w v.list sl →
    Calls Tryz.prog 71 #[.agg #[.int .u8 v.nd.k, .int .i64 v.nd.n, .int .i64 v.nd.d, .bool v.nd.t, .string v.nd.s, sl]] w fun e w' => e = .returned (.bool (fineB v)) ∧ Below w.heap.size w w' := by
  induction v using V.ind with
  | h a l ih =>
    intro sl w hs hr
    obtain ⟨p, cap, rfl⟩ := hr.slice
    dsimp only [V.nd_mk, V.list_mk] at hr ⊢
    by_cases h1 : a.k = 1
    · exact reffine_one a l p cap w h1
    by_cases h2 : a.k = 2
    · exact reffine_two a l p cap w h2
    by_cases h3 : a.k = 3
    · by_cases hno : a.n = 0 ∧ a.d = 0 ∧ a.t = false ∧ l.length = 0 ∧ a.s.size ≤ 60
      · obtain ⟨hn, hd, ht, hl, hsz⟩ := hno
        obtain rfl : l = [] := List.length_eq_zero_iff.1 hl
        exact reffine_str_ok a p cap w h3 hn hd ht hsz
      · exact reffine_str_no a l p cap w h3 hno
    by_cases h4' : ¬ a.k = 4
    · exact reffine_other a l p cap w h1 h2 h3 h4'
    have h4 : a.k = 4 := Decidable.not_not.1 h4'
    by_cases hno : ¬ (a.n = 0 ∧ a.d = 0 ∧ a.t = false ∧ a.s.size = 0)
    · exact reffine_list_no a l p cap w h4 hno
    obtain ⟨hn, hd, ht, hsz⟩ := Decidable.not_not.1 hno
    clear h4' hno
    have HE := Lib.hid (fine_list_ok (l := l) h4 hn hd ht hsz)
    have HI := Lib.hid ih
    have HW := Lib.hid hs
    have hll : l.length ≤ 20000 := hs.wf.len
    have S0 := Lib.hid ((LoopAt.start (a := ⟨a.k, 0, 0, false, a.s⟩) hr).later ((Below.refl _ _).alloc (Nat.le_refl _) (.cells #[.int .i64 0, .int .i64 0] 25)))
    have k1 : (a.k == 1) = false := by simp [h1]
    have k2 : (a.k == 2) = false := by simp [h2]
    have k3 : (a.k == 3) = false := by simp [h3]
    have k4 : (a.k == 4) = true := by simp [h4]
    have s1 : ¬ (0 : Int) < a.s.size := by omega
    clear h1 h2 h3 h4 hs hr ih
    go_enter Tryz.func71, Tryz.ntmps71
    go_wp2_with fail
    go_loopw [5] (fun i wr => ∃ j : Nat, j ≤ l.length ∧ i = .int .i64 j ∧ (∀ k, k < j → (h : k < l.length) → fineB l[k] = true) ∧ LoopAt Q w ⟨a.k, 0, 0, false, a.s⟩ p cap l wr) (fun i _ => l.length - (intOf i).toNat)
    case atStart => exact ⟨0, Nat.zero_le _, rfl, fun k hk => by omega, S0.out⟩
    case round =>
      obtain ⟨j, hj, rfl, hall, hS⟩ := hrel
      have HA := Lib.hid hall
      have HS := Lib.hid hS
      have l1 := lt_of_block hS.box
      have R := box_row hS.box
      have q5 := R.c5
      simp only [Nat.zero_add] at q5
      clear R hS hall
      by_cases hlt : j < l.length
      · obtain ⟨b, off, S, rfl, hq, hb, R, hR⟩ := HS.out.rep.at hlt
        have r0 := R.c0
        have r1 := R.c1
        have r2 := R.c2
        have r3 := R.c3
        have r4 := R.c4
        have r5 := R.c5
        have HC := Lib.hid (HI.out l[j] (List.getElem_mem hlt) _ _ (HW.out.get hlt) hR)
        have HT : Hid (fineB l[j] = true → ∀ k, k < j + 1 → (h : k < l.length) → fineB l[k] = true) := Lib.hid fun e k hk h => by
          rcases Nat.lt_or_ge k j with hk2 | hk2
          · exact HA.out k hk2 h
          · obtain rfl : k = j := by omega
            exact e
        have HF : Hid (fineB l[j] = false → l.all fineB = false) := Lib.hid fun e => by
          rw [List.all_eq_false]; exact ⟨l[j], List.getElem_mem hlt, by rw [e]; simp⟩
        generalize fineB l[j] = g at HC HT HF
        generalize l[j].nd = x at r0 r1 r2 r3 r4 HC
        clear R hR hq
        go_wp2_with fail
        refine HC.out.mono ?_
        rintro e w1 ⟨rfl, hb1⟩
        have H1 := Lib.hid (HS.out.later hb1)
        clear hb1
        cases g
        · go_wp2_with fail
          go_ret
          exact ⟨ret_bool (by rw [HE.out, HF.out (by trivial)]), H1.out.below⟩
        · go_wp2_with fail
          go_roundw
          case rel => exact ⟨j + 1, by omega, by go_num, HT.out (by trivial), H1.out⟩
          case measure => simp [intOf]; omega
      · obtain rfl : j = l.length := by omega
        have HG : Hid (l.all fineB = true) := Lib.hid (by
          rw [List.all_eq_true]; intro x hx
          obtain ⟨k, hk, rfl⟩ := List.getElem_of_mem hx
          exact HA.out k hk hk)
        go_wp2_with fail
        go_ret
        exact ⟨ret_bool (by rw [HE.out, HG.out]), HS.out.below⟩

theorem chk_wrap {v : V} (h : deep v ≤ 6 → (parts v : Int) ≤ 9223372036854775807) : vchk v = if 100 < wrap64 (parts v) ∨ 6 < (deep v : Int) then 4 else if fineB v = true then 0 else 8 := by
  have e : (100 < wrap64 (parts v) ∨ 6 < (deep v : Int)) ↔ (100 < parts v ∨ 6 < deep v) := by
    rw [← many_wrap h]; omega
  unfold vchk
  by_cases hA : 100 < parts v ∨ 6 < deep v
  · rw [if_pos hA, if_pos (e.2 hA)]
  · rw [if_neg hA, if_neg (fun h => hA (e.1 h))]
set_option maxHeartbeats 1000000 in
theorem refvcheck_any (Q : Nat → Prop) (a : Nd) (l : List V) (p : Option Addr) (cap : Nat) (w : World) (hs : Small (.mk a l)) (hpb : deep (.mk a l) ≤ 6 → (parts (.mk a l) : Int) ≤ 9223372036854775807) (hr : RepL Q w l (.slice p l.length cap)) :
    Calls Tryz.prog 46 #[.agg #[.int .u8 a.k, .int .i64 a.n, .int .i64 a.d, .bool a.t, .string a.s, .slice p l.length cap]] w fun e w' => e = .returned (.int .i64 (vchk (.mk a l))) ∧ Below w.heap.size w w' := by
  have HE := Lib.hid (chk_wrap hpb)
  have S0 := Lib.hid (LoopAt.start (a := a) hr)
  have HP : Hid (∀ w1, LoopAt Q w a p cap l w1 → Calls Tryz.prog 44 #[.agg #[.int .u8 a.k, .int .i64 a.n, .int .i64 a.d, .bool a.t, .string a.s, .slice p l.length cap]] w1 fun e w' => e = .returned (.int .i64 (wrap64 (parts (.mk a l)))) ∧ LoopAt Q w a p cap l w') := Lib.hid fun w1 h =>
    (refparts_any Q a l _ w1 (hs.wf.mono (by omega)) h.rep).mono fun e w' ⟨he, hb⟩ => ⟨he, h.later hb⟩
  have HD : Hid (∀ w1, LoopAt Q w a p cap l w1 → Calls Tryz.prog 70 #[.agg #[.int .u8 a.k, .int .i64 a.n, .int .i64 a.d, .bool a.t, .string a.s, .slice p l.length cap]] w1 fun e w' => e = .returned (.int .i64 (deep (.mk a l))) ∧ LoopAt Q w a p cap l w') := Lib.hid fun w1 h =>
    (refdeep_any Q a l _ w1 hs h.rep).mono fun e w' ⟨he, hb⟩ => ⟨he, h.later hb⟩
  have HF : Hid (∀ w1, LoopAt Q w a p cap l w1 → Calls Tryz.prog 71 #[.agg #[.int .u8 a.k, .int .i64 a.n, .int .i64 a.d, .bool a.t, .string a.s, .slice p l.length cap]] w1 fun e w' => e = .returned (.bool (fineB (.mk a l))) ∧ LoopAt Q w a p cap l w') := Lib.hid fun w1 h =>
    (reffine_v Q (.mk a l) _ w1 hs h.rep).mono fun e w' ⟨he, hb⟩ => ⟨he, h.later hb⟩
  clear hs hr
  obtain ⟨P, hP⟩ : ∃ P, wrap64 (parts (.mk a l)) = P := ⟨_, rfl⟩
  obtain ⟨D, hD⟩ : ∃ D, ((deep (.mk a l) : Nat) : Int) = D := ⟨_, rfl⟩
  obtain ⟨G, hG⟩ : ∃ G, fineB (.mk a l) = G := ⟨_, rfl⟩
  obtain ⟨C, hC⟩ : ∃ C, vchk (.mk a l) = C := ⟨_, rfl⟩
  rw [hP, hD, hG, hC] at HE
  rw [hP] at HP
  rw [hD] at HD
  rw [hG] at HF
  rw [hC]
  clear hP hD hG hC
  go_enter Tryz.func46, Tryz.ntmps46
  go_wp2_with fail
  refine (HP.out _ S0.out).mono ?_
  rintro e w1 ⟨rfl, hS⟩
  have H1 := Lib.hid hS
  have l1 := lt_of_block hS.box
  have R := box_row hS.box
  have q0 := R.c0
  have q1 := R.c1
  have q2 := R.c2
  have q3 := R.c3
  have q4 := R.c4
  have q5 := R.c5
  simp only [Nat.zero_add] at q1 q2 q3 q4 q5
  clear R hS S0
  by_cases hP : 100 < P
  · have HR : Hid (C = 4) := Lib.hid (by rw [HE.out, if_pos (.inl hP)])
    go_wp2_with fail
    go_ret
    exact ⟨ret_int HR.out.symm, H1.out.below⟩
  · go_wp2_with fail
    refine (HD.out _ H1.out).mono ?_
    rintro e w2 ⟨rfl, hS⟩
    have H2 := Lib.hid hS
    have l2 := lt_of_block hS.box
    have R := box_row hS.box
    have p0 := R.c0
    have p1 := R.c1
    have p2 := R.c2
    have p3 := R.c3
    have p4 := R.c4
    have p5 := R.c5
    simp only [Nat.zero_add] at p1 p2 p3 p4 p5
    clear R hS q0 q1 q2 q3 q4 q5 l1
    by_cases hD : 6 < D
    · have HR : Hid (C = 4) := Lib.hid (by rw [HE.out, if_pos (.inr hD)])
      go_wp2_with fail
      go_ret
      exact ⟨ret_int HR.out.symm, H2.out.below⟩
    · have HR : Hid (C = if G = true then 0 else 8) := Lib.hid (by rw [HE.out, if_neg (by omega)])
      go_wp2_with fail
      refine (HF.out _ H2.out).mono ?_
      rintro e w3 ⟨rfl, hS⟩
      have H3 := Lib.hid hS
      clear hS
      cases G
      · go_wp2_with fail
        go_ret
        exact ⟨ret_int (by rw [HR.out]; rfl), H3.out.below⟩
      · go_wp2_with fail
        go_ret
        exact ⟨ret_int (by rw [HR.out]; rfl), H3.out.below⟩
end Go.Proofs.YtakjgjhjndiggaaGreatDoor
