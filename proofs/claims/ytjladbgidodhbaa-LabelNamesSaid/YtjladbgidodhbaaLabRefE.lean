/-
  What the reference's Both, Path, shared, sign and Same hand back.
-/
import Derived.Test.YtjladbgidodhbaaLabRefD
import Derived.Deep.QuietTactic
import Derived.BigQuiet
namespace Go.Proofs.Ytjladbgidodhbaa
open Go.RowKit
open LM
set_option linter.unusedVariables false
set_option linter.unusedSimpArgs false

theorem refcheck_v (s : ByteArray) (hs : s.size ≤ 100000) (c : Int) (hc : chk (lA s) = c) (w : World) : Calls Try.prog 20 #[.string s] w fun e w' => e = .returned (.int .i64 c) ∧ Below w.heap.size w w' := by
  subst hc; exact refcheck_any s hs w
theorem refboth_any (p q : ByteArray) (hp : p.size ≤ 100000) (hq : q.size ≤ 100000) (w : World) : Calls Try.prog 46 #[.string p, .string q] w fun e w' => e = .returned (.int .i64 (both (lA p) (lA q))) ∧ Below w.heap.size w w' := by
  obtain ⟨c, hc⟩ : ∃ c, chk (lA p) = c := ⟨_, rfl⟩
  obtain ⟨d, hd⟩ : ∃ d, chk (lA q) = d := ⟨_, rfl⟩
  have K1 := Lib.hid (fun w => refcheck_v p hp c hc w)
  have K2 := Lib.hid (fun w => refcheck_v q hq d hd w)
  have HR : Hid (both (lA p) (lA q) = if c = 0 then d else c) := Lib.hid (by unfold both; rw [hc, hd])
  clear hc hd
  by_cases h0 : c = 0
  · subst h0
    go_enter Try.func46, Try.ntmps46
    go_wp2_with fail
    refine (K1.out _).mono ?_
    rintro e w1 ⟨rfl, hb⟩
    have HB := Lib.hid hb
    clear hb
    go_wp2_with fail
    refine (K2.out _).mono ?_
    rintro e w2 ⟨rfl, hb⟩
    have HB2 := Lib.hid hb
    clear hb
    go_wp2_with fail
    go_ret
    exact ⟨ret_int (by rw [HR.out]; rfl), HB.out.trans (HB2.out.mono HB.out.size)⟩
  · have h1 : (c != 0) = true := bne_iff_ne.2 h0
    go_enter Try.func46, Try.ntmps46
    go_wp2_with fail
    refine (K1.out _).mono ?_
    rintro e w1 ⟨rfl, hb⟩
    have HB := Lib.hid hb
    clear hb
    go_wp2_with fail
    refine (K1.out _).mono ?_
    rintro e w2 ⟨rfl, hb⟩
    have HB2 := Lib.hid hb
    clear hb
    go_wp2_with fail
    go_ret
    exact ⟨ret_int (by rw [HR.out, if_neg h0]), HB.out.trans (HB2.out.mono HB.out.size)⟩

theorem sign_any (a b : Bool) (w : World) : Calls Try.prog 52 #[.bool a, .bool b] w fun e w' => e = .returned (.int .i64 (if a = true then -1 else if b = true then 1 else 0)) ∧ w = w' := by
  cases a <;> cases b <;>
  · go_enter Try.func52, Try.ntmps52
    go_wp2
    go_ret
    exact ⟨rfl, rfl⟩

theorem bA_app (x y : Bs) : bA x ++ bA y = bA (x ++ y) := by
  apply lA_inj
  rw [lA_bA]
  show (bA x ++ bA y).data.toList = _
  rw [ByteArray.data_append, Array.toList_append]
  show lA (bA x) ++ lA (bA y) = _
  rw [lA_bA, lA_bA]
theorem bA_slash (l x : Bs) : bA l ++ { data := #[47] } ++ bA x = bA (l ++ 47 :: x) := by
  show bA l ++ bA [47] ++ bA x = _
  rw [bA_app, bA_app]; simp
theorem pathL_take {xs : List Bs} {i : Nat} (hi : i < xs.length) : pathL (xs.take (i + 1)) = if i = 0 then xs[i] else pathL (xs.take i) ++ 47 :: xs[i] := by
  rw [List.take_succ_eq_append_getElem hi, pathL_snoc]
  by_cases h : i = 0
  · subst h; simp
  · have : xs.take i ≠ [] := fun e => by have := congrArg List.length e; rw [List.length_take, List.length_nil] at this; omega
    rw [if_neg this, if_neg h]
theorem pathL_mono (xs : List Bs) (i : Nat) : (pathL (xs.take i)).length ≤ (pathL xs).length := by
  by_cases h : xs.take i = []
  · rw [h]; simp [pathL]
  · have := pathL_app (xs.take i) (xs.drop i) h
    rw [List.take_append_drop] at this
    rw [this, List.length_append]; omega
theorem mem_path {xs : List Bs} {x : Bs} (h : x ∈ xs) : x.length ≤ (pathL xs).length := by
  have : ∀ ys : List Bs, x ∈ ys → x.length ≤ (tailL ys).length := by
    intro ys
    induction ys with
    | nil => intro h; simp at h
    | cons y ys ih =>
      intro h
      rw [List.mem_cons] at h
      simp only [tailL, List.length_cons, List.length_append]
      rcases h with rfl | h
      · omega
      · have := ih h; omega
  cases xs with
  | nil => simp at h
  | cons y ys =>
    rw [List.mem_cons] at h
    simp only [pathL, List.length_append]
    rcases h with rfl | h
    · omega
    · have := this ys h; omega

set_option maxHeartbeats 400000 in
theorem refpath_row (g cap n : Nat) (xs : List Bs) (hn : xs.length = n) (hl : (pathL xs).length ≤ 100000) (hn2 : n ≤ 200000) (w : World) (hR : Row w g cap xs) :
    Calls Try.prog 39 #[.slice (some ⟨g, 0, none⟩) n cap] w fun e w' => e = .returned (.string (bA (pathL xs))) ∧ w = w' := by
  have HR := Lib.hid hR
  have HN := Lib.hid hn
  have HL := Lib.hid hl
  have hcap := hR.le
  rw [hn] at hcap
  clear hR hn hl
  go_enter Try.func39, Try.ntmps39
  go_wp2_with fail
  go_loop [3, 4] (fun s i => ∃ (k : Nat) (l : Bs), k ≤ n ∧ i = .int .i64 k ∧ s = .string (bA l) ∧ l = pathL (xs.take k)) (fun _ i => n - (intOf i).toNat)
  case atStart => exact ⟨0, [], Nat.zero_le _, rfl, rfl, by simp [pathL]⟩
  case round =>
    obtain ⟨k, l, hk, rfl, rfl, hl⟩ := hrel
    have hs : (bA l).size ≤ 100000 := by rw [bA_size, hl]; exact Nat.le_trans (pathL_mono _ _) HL.out
    have HLl := Lib.hid hl
    clear hl
    by_cases hlt : k < n
    · have hlx : k < xs.length := by rw [HN.out]; exact hlt
      have hc := HR.out.at k hlx
      obtain ⟨x, hx⟩ : ∃ x, xs[k] = x := ⟨_, rfl⟩
      rw [hx] at hc
      have hxs : (bA x).size ≤ 100000 := by rw [bA_size, ← hx]; exact Nat.le_trans (mem_path (List.getElem_mem _)) HL.out
      have hP := pathL_take hlx
      rw [hx, ← HLl.out] at hP
      have HP := Lib.hid hP
      have HX := Lib.hid hx
      clear hP hx
      by_cases h0 : k = 0
      · subst h0
        have hl0 : l = [] := by rw [HLl.out]; rfl
        have HL0 := Lib.hid hl0
        clear hl0
        go_wp2_with fail
        go_round
        case rel => exact ⟨1, x, by omega, by go_num, by rw [HL0.out, bA_app]; rfl, by rw [HP.out]; rfl⟩
        case measure => simp [intOf]; omega
      · have hk0 : (0 : Int) < k := by omega
        go_wp2_with fail
        go_round
        case rel => exact ⟨k + 1, l ++ 47 :: x, by omega, by go_num, by rw [bA_slash], by rw [HP.out, if_neg h0]⟩
        case measure => simp [intOf]; omega
    · obtain rfl : k = n := by omega
      have HE : Hid (l = pathL xs) := Lib.hid (by rw [HLl.out, List.take_of_length_le (by rw [HN.out]; exact Nat.le_refl _)])
      go_wp2_with fail
      go_ret
      exact ⟨ret_str (by rw [HE.out]), rfl⟩
theorem refpath_nil (w : World) : Calls Try.prog 39 #[.slice none 0 0] w fun e w' => e = .returned (.string (bA [])) ∧ w = w' := by
  go_enter Try.func39, Try.ntmps39
  go_wp2_with fail
  go_loop [3, 4] (fun s i => i = .int .i64 0 ∧ s = .string (bA [])) (fun _ i => 0)
  case atStart => exact ⟨rfl, rfl⟩
  case round =>
    obtain ⟨rfl, rfl⟩ := hrel
    go_wp2_with fail
    go_ret
    exact ⟨rfl, rfl⟩

theorem sharedL_step {a b : List Bs} {k : Nat} (hk : k ≤ sharedL a b) (h1 : k < a.length) (h2 : k < b.length) (he : a[k] = b[k]) : k + 1 ≤ sharedL a b := by
  induction a generalizing b k with
  | nil => simp at h1
  | cons x a ih =>
    cases b with
    | nil => simp at h2
    | cons y b =>
      cases k with
      | zero =>
        simp only [List.getElem_cons_zero] at he
        subst he
        simp [sharedL]
      | succ k =>
        unfold sharedL at hk ⊢
        split
        · rename_i hxy
          rw [if_pos hxy] at hk
          have := ih (b := b) (k := k) (by omega) (by simpa using h1) (by simpa using h2) (by simpa using he)
          omega
        · rename_i hxy
          rw [if_neg hxy] at hk; omega
theorem sharedL_stop {a b : List Bs} {k : Nat} (hk : k ≤ sharedL a b) (h : ∀ (h1 : k < a.length) (h2 : k < b.length), a[k] ≠ b[k]) : sharedL a b = k := by
  induction a generalizing b k with
  | nil => unfold sharedL at hk ⊢; omega
  | cons x a ih =>
    cases b with
    | nil => unfold sharedL at hk ⊢; omega
    | cons y b =>
      cases k with
      | zero =>
        have := h (by simp) (by simp)
        simp only [List.getElem_cons_zero] at this
        unfold sharedL; rw [if_neg this]
      | succ k =>
        unfold sharedL at hk ⊢
        split
        · rename_i hxy
          rw [if_pos hxy] at hk
          have := ih (b := b) (k := k) (by omega) (fun h1 h2 => by have := h (by simpa using h1) (by simpa using h2); simpa using this)
          omega
        · rename_i hxy
          rw [if_neg hxy] at hk; omega
theorem below_drewN {B : Nat} {u w : World} (h : Below B u w) (n : Nat) : Below B u (w.drewN n) := ⟨h.os, h.tape, h.output, h.size, h.block⟩
theorem bA_ne {x y : Bs} (h : x ≠ y) : ((bA x).toList == (bA y).toList) = false ∧ ¬ (bA x).toList = (bA y).toList ∧ ¬ bA x = bA y := by
  have h1 : ¬ bA x = bA y := fun e => h (by rw [← lA_bA x, e, lA_bA])
  have h2 : ¬ (bA x).toList = (bA y).toList := fun e => by
    rw [ByteArray.toList_eq, ByteArray.toList_eq] at e
    exact h1 (lA_inj e)
  exact ⟨beq_eq_false_iff_ne.2 h2, h2, h1⟩

set_option maxHeartbeats 1000000 in
theorem shared_row (g cap n h' cap' m : Nat) (xs ys : List Bs) (hn : xs.length = n) (hm : ys.length = m) (hn2 : n ≤ 200000) (hm2 : m ≤ 200000) (w : World) (hR : Row w g cap xs) (hS : Row w h' cap' ys) :
    Calls Try.prog 47 #[.slice (some ⟨g, 0, none⟩) n cap, .slice (some ⟨h', 0, none⟩) m cap'] w fun e w' => e = .returned (.int .i64 (sharedL xs ys)) ∧ Below w.heap.size w w' := by
  have HR := Lib.hid hR
  have HS := Lib.hid hS
  have HN := Lib.hid hn
  have HM := Lib.hid hm
  have hcap := hR.le
  rw [hn] at hcap
  have hcap' := hS.le
  rw [hm] at hcap'
  clear hR hS hn hm
  go_enter Try.func47, Try.ntmps47
  go_wp2_with fail
  go_loopw [5] (fun i wr => ∃ k : Nat, k ≤ n ∧ k ≤ m ∧ i = .int .i64 k ∧ k ≤ sharedL xs ys ∧ Below w.heap.size w wr) (fun i _ => n - (intOf i).toNat)
  case atStart => exact ⟨0, Nat.zero_le _, Nat.zero_le _, rfl, Nat.zero_le _, Below.refl _ _⟩
  case round =>
    obtain ⟨k, hkn, hkm, rfl, hsh, hB⟩ := hrel
    have HSh := Lib.hid hsh
    have HB := Lib.hid hB
    clear hsh hB
    by_cases h1 : k < n
    · by_cases h2 : k < m
      · have l1 : k < xs.length := by rw [HN.out]; exact h1
        have l2 : k < ys.length := by rw [HM.out]; exact h2
        have c1 := (HR.out.later HB.out).at k l1
        have c2 := (HS.out.later HB.out).at k l2
        obtain ⟨x, hx⟩ : ∃ x, xs[k] = x := ⟨_, rfl⟩
        obtain ⟨y, hy⟩ : ∃ y, ys[k] = y := ⟨_, rfl⟩
        rw [hx] at c1
        rw [hy] at c2
        have k1 : (k : Int) < n := by omega
        have k2 : (k : Int) < m := by omega
        have k0 : (0 : Int) ≤ k := by omega
        by_cases he : x = y
        · subst he
          have HG := Lib.hid (sharedL_step HSh.out l1 l2 (hx.trans hy.symm))
          clear hx hy
          go_wp2_with fail
          go_quiet (fail)
          go_wp2_with fail
          go_roundw
          case rel => exact ⟨k + 1, by omega, by omega, by go_num, HG.out, below_drewN HB.out _⟩
          case measure => simp [intOf]; omega
        · obtain ⟨e1, e2, e3⟩ := bA_ne he
          have HG := Lib.hid (sharedL_stop HSh.out (fun _ _ => by rw [hx, hy]; exact he))
          clear hx hy he
          go_wp2_with fail
          go_quiet (fail)
          go_wp2_with fail
          go_ret
          exact ⟨ret_int (by rw [HG.out]), below_drewN HB.out _⟩
      · have HG := Lib.hid (sharedL_stop HSh.out (fun _ h => by rw [HM.out] at h; exact absurd h h2))
        have k1 : (k : Int) < n := by omega
        have k2 : ¬ (k : Int) < m := by omega
        have k3 : decide (k < m) = false := by simpa using h2
        go_wp2_with fail
        go_quiet (fail)
        go_wp2_with fail
        go_ret
        exact ⟨ret_int (by rw [HG.out]), below_drewN HB.out _⟩
    · have HG := Lib.hid (sharedL_stop HSh.out (fun h _ => by rw [HN.out] at h; exact absurd h h1))
      have k2 : ¬ (k : Int) < n := by omega
      have k3 : decide (k < n) = false := by simpa using h1
      go_wp2_with fail
      go_quiet (fail)
      go_wp2_with fail
      go_ret
      exact ⟨ret_int (by rw [HG.out]), below_drewN HB.out _⟩
end Go.Proofs.Ytjladbgidodhbaa
