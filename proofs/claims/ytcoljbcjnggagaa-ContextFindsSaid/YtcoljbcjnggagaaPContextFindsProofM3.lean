/-
  Texts of the proof, merged: PWordRefC, PRewPrM, PRewMem, PRewRefA, PRewRefB, PRewRefC, PRewRefD, PRewRefE.
-/
import Derived.Test.YtcoljbcjnggagaaPContextFindsProofM2
import Derived.Lib.QuietBelow
import Derived.Test.YtcoljbcjnggagaaPContextFindsProofM1
namespace Go.Proofs.Ytcoljbcjnggagaa
open Go.RowKit
open WM
set_option linter.unusedVariables false
set_option linter.unusedSimpArgs false

theorem md_ext {a b : Md} (h1 : a.c = b.c) (h2 : a.a = b.a) : a = b := by cases a; cases b; simp_all
theorem u8_ne {x y : UInt8} : ((x.toNat : Int) != (y.toNat : Int)) = !(x == y) := by rw [← u8_eq]; rfl
set_option maxHeartbeats 1600000 in
theorem samemod_any (a b : Md) (v1 v2 : Value) (h1 : a.a.length ≤ 9223372036854775807) (h2 : b.a.length ≤ 9223372036854775807) (w : World) (i1 : Ints w v1 a.a) (i2 : Ints w v2 b.a) :
    Calls Try.prog 44 #[.agg #[.int .u8 a.c.toNat, v1], .agg #[.int .u8 b.c.toNat, v2]] w fun e w' => e = .returned (.bool (decide (a = b))) ∧ Below w.heap.size w w' := by
  obtain ⟨p1, cap1, rfl⟩ := i1.slice
  obtain ⟨p2, cap2, rfl⟩ := i2.slice
  obtain ⟨W0, hW0⟩ : ∃ W, W = (w.alloc (.cells #[.int .u8 a.c.toNat, .slice p1 a.a.length cap1] 55)).alloc (.cells #[.int .u8 b.c.toNat, .slice p2 b.a.length cap2] 55) := ⟨_, rfl⟩
  have N1 : W0.heap[w.heap.size]? = some (.cells #[.int .u8 a.c.toNat, .slice p1 a.a.length cap1] 55 (0, 0)) := by rw [hW0]; exact heap_alloc_old (heap_alloc_new _ _) _
  have N2 : W0.heap[w.heap.size + 1]? = some (.cells #[.int .u8 b.c.toNat, .slice p2 b.a.length cap2] 55 (0, 0)) := by
    have := heap_alloc_new (w.alloc (.cells #[.int .u8 a.c.toNat, .slice p1 a.a.length cap1] 55)) (.cells #[.int .u8 b.c.toNat, .slice p2 b.a.length cap2] 55)
    rw [hW0]; simpa using this
  have B0 : Below w.heap.size w W0 := by rw [hW0]; exact ((Below.refl _ _).alloc (Nat.le_refl _) _).alloc (by simp) _
  have HB := Lib.hid B0
  have HI1 := Lib.hid (i1.later B0)
  have HI2 := Lib.hid (i2.later B0)
  have q0 := cell_two0 N1
  have q1 := cell_two1 N1
  have q2 := cell_two0 N2
  have q3 := cell_two1 N2
  have l1 := lt_of_block N1
  have l2 := lt_of_block N2
  clear N1 N2 B0 i1 i2
  by_cases hc : a.c = b.c
  · have t1 : ((a.c.toNat : Int) != (b.c.toNat : Int)) = false := by rw [hc]; simp
    by_cases hl : a.a.length = b.a.length
    · have HC := Lib.hid hc
      obtain ⟨n, hn⟩ : ∃ n, a.a.length = n := ⟨_, rfl⟩
      have hn2 : b.a.length = n := by omega
      have HN1 := Lib.hid hn
      have HN2 := Lib.hid hn2
      rw [hn] at q1 HI1 hW0 h1 ⊢
      rw [hn2] at q3 HI2 hW0 ⊢
      clear hn hn2 hl hc h2
      generalize a.c.toNat = ca at q0 t1 hW0 ⊢
      generalize b.c.toNat = cb at q2 t1 hW0 ⊢
      go_enter Try.func44, Try.ntmps44
      go_wp2_with fail
      rw [← hW0]
      clear hW0
      go_wp2_with fail
      go_loopw [5] (fun i wr => ∃ k q : Nat, k ≤ n ∧ i = .int .i64 k ∧ wr = W0.drewN q ∧ ∀ j, (hj : j < a.a.length) → (hj2 : j < b.a.length) → j < k → a.a[j] = b.a[j]) (fun i _ => n - (intOf i).toNat)
      case atStart => exact ⟨0, 0, Nat.zero_le _, rfl, rfl, fun j _ _ h => by omega⟩
      case round =>
        obtain ⟨k, q, hk, rfl, rfl, hok⟩ := hrel
        have HK := Lib.hid hok
        clear hok
        by_cases hlt : k < n
        · have ha : k < a.a.length := by rw [HN1.out]; exact hlt
          have hb : k < b.a.length := by rw [HN2.out]; exact hlt
          obtain ⟨b1, o1, c1, hp1, e1, lb1⟩ := HI1.out.at ha
          obtain ⟨b2, o2, c2, hp2, e2, lb2⟩ := HI2.out.at hb
          rw [HN1.out] at hp1
          rw [HN2.out] at hp2
          obtain rfl : p1 = some ⟨b1, o1, none⟩ := by cases hp1; rfl
          obtain rfl : p2 = some ⟨b2, o2, none⟩ := by cases hp2; rfl
          obtain ⟨x, hx⟩ : ∃ x, a.a[k] = x := ⟨_, rfl⟩
          obtain ⟨y, hy⟩ : ∃ y, b.a[k] = y := ⟨_, rfl⟩
          have HX := Lib.hid hx
          have HY := Lib.hid hy
          rw [hx] at e1
          rw [hy] at e2
          have k1 : (k : Int) < (n : Int) := by omega
          clear hx hy hp1 hp2
          by_cases hxy : x = y
          · have HG : Hid (∀ j, (hj : j < a.a.length) → (hj2 : j < b.a.length) → j < k + 1 → a.a[j] = b.a[j]) := Lib.hid (fun j hj hj2 h => by
              rcases Nat.lt_or_eq_of_le (Nat.le_of_lt_succ h) with h1 | h1
              · exact HK.out j hj hj2 h1
              · subst h1; rw [HX.out, HY.out]; exact hxy)
            subst hxy
            go_wp2_with fail
            go_quiet (fail)
            go_wp2_with fail
            go_roundw
            case rel => exact ⟨k + 1, _, by omega, by go_num, rfl, HG.out⟩
            case measure => simp [intOf]; omega
          · have t2 : (x != y) = true := by rw [bne_iff_ne]; exact hxy
            have HF : Hid (decide (a = b) = false) := Lib.hid (decide_eq_false (fun e => by
              have e3 := HX.out
              subst e
              exact hxy (e3.symm.trans HY.out)))
            go_wp2_with fail
            go_quiet (fail)
            go_wp2_with fail
            go_ret
            exact ⟨ret_bool HF.out.symm, below_drewN (below_drewN HB.out _) _⟩
        · obtain rfl : k = n := by omega
          have HF : Hid (decide (a = b) = true) := Lib.hid (decide_eq_true (md_ext HC.out (by
            apply List.ext_getElem (by rw [HN1.out, HN2.out])
            intro j h1 h2; exact HK.out j h1 h2 (by rw [HN1.out] at h1; exact h1))))
          go_wp2_with fail
          go_ret
          exact ⟨ret_bool HF.out.symm, below_drewN HB.out _⟩
    · have t2 : ((a.a.length : Int) != (b.a.length : Int)) = true := by rw [bne_iff_ne]; omega
      have HF : Hid (decide (a = b) = false) := Lib.hid (decide_eq_false (fun e => hl (by rw [e])))
      clear hc hl
      go_enter Try.func44, Try.ntmps44
      go_wp2_with fail
      rw [← hW0]
      clear hW0
      go_wp2_with fail
      go_ret
      exact ⟨ret_bool HF.out.symm, HB.out⟩
  · have t1 : ((a.c.toNat : Int) != (b.c.toNat : Int)) = true := by rw [u8_ne]; simp [hc]
    have HF : Hid (decide (a = b) = false) := Lib.hid (decide_eq_false (fun e => hc (by rw [e])))
    clear hc
    go_enter Try.func44, Try.ntmps44
    go_wp2_with fail
    rw [← hW0]
    clear hW0
    go_wp2_with fail
    go_ret
    exact ⟨ret_bool HF.out.symm, HB.out⟩

theorem same_at {a b : List Md} {k : Nat} (h1 : k < a.length) (h2 : k < b.length) (h : a[k] ≠ b[k]) : decide (a = b) = false := decide_eq_false (fun e => by subst e; exact h rfl)
set_option maxHeartbeats 1600000 in
theorem same_any (v1 v2 : Value) (a b : List Md) (h1 : a.length ≤ 9223372036854775807) (h2 : b.length ≤ 9223372036854775807) (g1 : ∀ m ∈ a, m.a.length ≤ 9223372036854775807) (g2 : ∀ m ∈ b, m.a.length ≤ 9223372036854775807)
    (w : World) (i1 : Mods w v1 a) (i2 : Mods w v2 b) :
    Calls Try.prog 20 #[v1, v2] w fun e w' => e = .returned (.bool (decide (a = b))) ∧ Below w.heap.size w w' := by
  obtain ⟨p1, cap1, rfl⟩ := i1.slice
  obtain ⟨p2, cap2, rfl⟩ := i2.slice
  have HI1 := Lib.hid i1
  have HI2 := Lib.hid i2
  have HG1 := Lib.hid g1
  have HG2 := Lib.hid g2
  clear i1 i2 g1 g2
  by_cases hl : a.length = b.length
  · obtain ⟨n, hn⟩ : ∃ n, a.length = n := ⟨_, rfl⟩
    have hn2 : b.length = n := by omega
    have HN1 := Lib.hid hn
    have HN2 := Lib.hid hn2
    rw [hn] at HI1 h1 ⊢
    rw [hn2] at HI2 ⊢
    clear hn hn2 hl h2
    go_enter Try.func20, Try.ntmps20
    go_wp2_with fail
    go_loopw [5] (fun i wr => ∃ k : Nat, k ≤ n ∧ i = .int .i64 k ∧ Below w.heap.size w wr ∧ ∀ j, (hj : j < a.length) → (hj2 : j < b.length) → j < k → a[j] = b[j]) (fun i _ => n - (intOf i).toNat)
    case atStart => exact ⟨0, Nat.zero_le _, rfl, Below.refl _ _, fun j _ _ h => by omega⟩
    case round =>
      obtain ⟨k, hk, rfl, hb, hok⟩ := hrel
      have HK := Lib.hid hok
      have HB := Lib.hid hb
      clear hok hb
      by_cases hlt : k < n
      · have ha : k < a.length := by rw [HN1.out]; exact hlt
        have hb : k < b.length := by rw [HN2.out]; exact hlt
        obtain ⟨b1, o1, c1, q1, d1, hp1, e1, f1, j1, lb1⟩ := (HI1.out.later (HB.out.mono (Nat.le_refl _))).at ha
        obtain ⟨b2, o2, c2, q2, d2, hp2, e2, f2, j2, lb2⟩ := (HI2.out.later (HB.out.mono (Nat.le_refl _))).at hb
        rw [HN1.out] at hp1
        rw [HN2.out] at hp2
        obtain rfl : p1 = some ⟨b1, o1, none⟩ := by cases hp1; rfl
        obtain rfl : p2 = some ⟨b2, o2, none⟩ := by cases hp2; rfl
        have k1 : (k : Int) < (n : Int) := by omega
        have hx1 := HG1.out _ (List.getElem_mem ha)
        have hx2 := HG2.out _ (List.getElem_mem hb)
        have HC : Hid (∀ (d : Nat) (os : Array Obj), Calls Try.prog 44 #[.agg #[.int .u8 a[k].c.toNat, .slice q1 a[k].a.length d1], .agg #[.int .u8 b[k].c.toNat, .slice q2 b[k].a.length d2]] («Sort».grow (redrawn wr d) os) fun e w' =>
            e = .returned (.bool (decide (a[k] = b[k]))) ∧ Below («Sort».grow (redrawn wr d) os).heap.size («Sort».grow (redrawn wr d) os) w') :=
          Lib.hid (fun d os => samemod_any a[k] b[k] _ _ hx1 hx2 _ (j1.later (below_regrown wr d os)) (j2.later (below_regrown wr d os)))
        obtain ⟨t, ht⟩ : ∃ t, decide (a[k] = b[k]) = t := ⟨_, rfl⟩
        have HT := Lib.hid ht
        rw [ht] at HC
        clear hp1 hp2 j1 j2 ht hx1 hx2
        generalize a[k].c.toNat = ca at e1 HC
        generalize b[k].c.toNat = cb at e2 HC
        generalize a[k].a.length = la at f1 HC
        generalize b[k].a.length = lb at f2 HC
        have r1 := fun d os => cell_regrown e1 d os
        have r2 := fun d os => cell_regrown f1 d os
        have r3 := fun d os => cell_regrown e2 d os
        have r4 := fun d os => cell_regrown f2 d os
        go_wp2_with fail
        refine wp_region_quiet_below (by kernel_rfl) (by kernel_rfl) ?_
        repeat (any_goals (first | go_big_quiet_step ((go_at_call 44; exact Calls.regrown_of (HC.out _ _))) | quiet_step ((go_at_call 44; exact Calls.regrown_of (HC.out _ _)))))
        refine wpQuiet_nil ?_
        intro _ hw'
        obtain ⟨⟨dq, osq⟩, hw''⟩ := hw'
        subst hw''
        have HB2 : Hid (Below w.heap.size w («Sort».grow (redrawn wr dq) osq)) := Lib.hid (HB.out.trans ((below_regrown wr dq osq).mono HB.out.size))
        cases t with
        | true =>
          have HG : Hid (∀ j, (hj : j < a.length) → (hj2 : j < b.length) → j < k + 1 → a[j] = b[j]) := Lib.hid (fun j hj hj2 h => by
            rcases Nat.lt_or_eq_of_le (Nat.le_of_lt_succ h) with h1 | h1
            · exact HK.out j hj hj2 h1
            · subst h1; exact of_decide_eq_true HT.out)
          go_wp2_with fail
          go_roundw
          case rel => exact ⟨k + 1, by omega, by go_num, HB2.out, HG.out⟩
          case measure => simp [intOf]; omega
        | false =>
          have HF := Lib.hid (same_at ha hb (of_decide_eq_false HT.out))
          go_wp2_with fail
          go_ret
          exact ⟨ret_bool HF.out.symm, HB2.out⟩
      · obtain rfl : k = n := by omega
        have HF : Hid (decide (a = b) = true) := Lib.hid (decide_eq_true (by
          apply List.ext_getElem (by rw [HN1.out, HN2.out])
          intro j h1 h2; exact HK.out j h1 h2 (by rw [HN1.out] at h1; exact h1)))
        go_wp2_with fail
        go_ret
        exact ⟨ret_bool HF.out.symm, HB.out⟩
  · have t2 : ((a.length : Int) != (b.length : Int)) = true := by rw [bne_iff_ne]; omega
    have HF : Hid (decide (a = b) = false) := Lib.hid (decide_eq_false (fun e => hl (by rw [e])))
    clear hl
    go_enter Try.func20, Try.ntmps20
    go_wp2_with fail
    go_ret
    exact ⟨ret_bool HF.out.symm, Below.refl _ _⟩
end Go.Proofs.Ytcoljbcjnggagaa
namespace Go.Proofs.Ytcoljbcjnggagaa
open WM
set_option linter.unusedVariables false
set_option linter.unusedSimpArgs false
namespace RM

def zerM (c : UInt8) (n : Nat) : Md := ⟨c, List.replicate n 0⟩
/-- The module that the package lays for a shape. -/
def blM (s : Sh) : Md := zerM s.c (min s.a.length 5)
theorem rng_zer (n : Nat) : rngB (List.replicate n 0) = true := by
  rw [rngB_iff]; intro x hx
  have := List.eq_of_mem_replicate hx
  omega
theorem fine_zer (c : UInt8) (n : Nat) : fineB (zerM c n) = (letB c && decide (n ≤ 4) && !(braB c && decide (0 < n))) := by
  simp [fineB, zerM, rng_zer]
theorem fine_bl (s : Sh) : fineB (blM s) = fineB (shM s) := by
  have e : shM s = zerM s.c s.a.length := rfl
  rw [e, blM, fine_zer, fine_zer]
  have h1 : decide (min s.a.length 5 ≤ 4) = decide (s.a.length ≤ 4) := by rw [decide_eq_decide]; omega
  have h2 : decide (0 < min s.a.length 5) = decide (0 < s.a.length) := by rw [decide_eq_decide]; omega
  rw [h1, h2]
theorem dlt_c {a b : Md} (h : a.c = b.c) : dlt a = dlt b := by unfold dlt; rw [h]
theorem dep_map {α : Type} (f g : α → Md) (h : ∀ x, (f x).c = (g x).c) : ∀ l : List α, dep (l.map f) = dep (l.map g)
  | [] => rfl
  | x :: l => by rw [List.map_cons, List.map_cons, dep_cons, dep_cons, dep_map f g h l, dlt_c (h x)]
theorem ok_map {α : Type} (f g : α → Md) (h : ∀ x, (f x).c = (g x).c) (l : List α) (k : Nat) : okB (l.map f) k = okB (l.map g) k := by
  rw [Bool.eq_iff_iff, okB_iff, okB_iff]
  have e : ∀ i, dep ((l.map f).take (i + 1)) = dep ((l.map g).take (i + 1)) := fun i => by rw [← List.map_take, ← List.map_take, dep_map f g h]
  constructor
  · intro h1 i hi; rw [← e i]; exact h1 i hi
  · intro h1 i hi; rw [e i]; exact h1 i hi
theorem chk_bl {out : List Sh} (hl : out.length ≤ 2000) : decide (chk (out.map blM) = 0) = (out.all (fun s => fineB (shM s)) && decide (chk (out.map shM) = 0)) := by
  have hc : ∀ s : Sh, (blM s).c = (shM s).c := fun _ => rfl
  rw [Bool.eq_iff_iff, decide_eq_true_iff, Bool.and_eq_true, decide_eq_true_iff, chk_zero, chk_zero]
  rw [List.length_map, List.length_map, ok_map blM shM hc, dep_map blM shM hc, List.all_map, List.all_map]
  have e : (fineB ∘ blM) = fun s => fineB (shM s) := by funext s; exact fine_bl s
  have e2 : (fineB ∘ shM) = fun s => fineB (shM s) := rfl
  rw [e, e2]
  constructor
  · rintro ⟨h1, h2, h3, h4⟩; exact ⟨h2, h1, h2, h3, h4⟩
  · rintro ⟨_, h1, h2, h3, h4⟩; exact ⟨h1, h2, h3, h4⟩
/-- valid's answer. -/
def validB (r : Rw) : Bool := letB r.c && !(braB r.c) && decide (0 ≤ r.ar) && decide (r.ar ≤ 4) && plainB r && r.gs.all (formB · r.ar) && decide (chk (r.out.map blM) = 0) && r.out.all (fun s => s.a.all (formB · r.ar))
theorem sh_all (out : List Sh) (n : Int) : out.all (shB · n) = (out.all (fun s => fineB (shM s)) && out.all (fun s => s.a.all (formB · n))) := by
  induction out with
  | nil => rfl
  | cons s l ih =>
    rw [List.all_cons, List.all_cons, List.all_cons, ih]
    unfold shB
    cases fineB (shM s) <;> cases s.a.all (formB · n) <;> simp
theorem validB_eq {r : Rw} (hl : r.out.length ≤ 2000) : validB r = (ruleB r && plainB r) := by
  unfold validB ruleB
  rw [chk_bl hl, sh_all]
  cases letB r.c <;> cases braB r.c <;> cases decide (0 ≤ r.ar) <;> cases decide (r.ar ≤ 4) <;> cases plainB r <;> cases r.gs.all (formB · r.ar) <;> cases r.out.all (fun s => fineB (shM s)) <;> cases r.out.all (fun s => s.a.all (formB · r.ar)) <;> cases decide (chk (r.out.map shM) = 0) <;> rfl
theorem dep_one (m : Md) : dep [m] = dlt m := by rw [dep_cons, dep_nil]; omega
theorem ok_one (m : Md) : okB [m] 1 = decide (0 ≤ dlt m) := by rw [okB_succ, okB_zero, Bool.true_and]; rw [show ([m] : List Md).take (0 + 1) = [m] from rfl, dep_one]
/-- A module alone is a word where it is no bracket. -/
theorem chk_let (c : UInt8) : decide (chk [⟨c, []⟩] = 0) = (letB c && !(braB c)) := by
  rw [Bool.eq_iff_iff, decide_eq_true_iff, chk_zero]
  have hf : ([⟨c, []⟩] : List Md).all fineB = letB c := by simp [fineB, rngB]
  rw [hf, dep_one, show ([⟨c, []⟩] : List Md).length = 1 from rfl, ok_one]
  have hd : (0 ≤ dlt ⟨c, []⟩ ∧ dlt ⟨c, []⟩ = 0) ↔ braB c = false := by
    unfold dlt braB
    by_cases h1 : c = 91
    · subst h1; decide
    · by_cases h2 : c = 93
      · subst h2; decide
      · simp [h1, h2]
  rw [Bool.and_eq_true, Bool.not_eq_true', decide_eq_true_iff]
  constructor
  · rintro ⟨_, h2, h3, h4⟩; exact ⟨h2, hd.1 ⟨h3, h4⟩⟩
  · rintro ⟨h1, h2⟩
    obtain ⟨h3, h4⟩ := hd.2 h2
    exact ⟨by omega, h1, h3, h4⟩
/-- A module alone is told bad exactly if it is no valid module. -/
theorem chk_one (m : Md) : (chk [m] == 8) = !(fineB m) := by
  cases h : fineB m with
  | false =>
    rw [chk_bad (by simp) (by simp [h])]; rfl
  | true =>
    have h1 : ([m] : List Md).all fineB = true := by simp [h]
    cases h2 : (okB [m] ([m] : List Md).length && decide (dep [m] = 0)) with
    | false => rw [chk_open (by simp) h1 h2]; rfl
    | true =>
      have : chk [m] = 0 := by unfold chk; rw [if_neg (by simp), if_neg (by simp [h]), if_pos h2]
      rw [this]; rfl
/-- Check's answer, as the package finds it. -/
theorem rchk_valid {l : List Rw} (h : manyB l = false) : rchk l = if l.all validB = true then 0 else 8 := by
  have e : l.all validB = l.all (fun r => ruleB r && plainB r) := by
    unfold manyB at h
    simp only [Bool.or_eq_false_iff] at h
    have h2 := List.any_eq_false.1 h.2
    apply Bool.eq_iff_iff.2
    rw [List.all_eq_true, List.all_eq_true]
    have key : ∀ r ∈ l, validB r = (ruleB r && plainB r) := fun r hr => validB_eq (by
      have := h2 r hr
      simp only [Bool.or_eq_true, decide_eq_true_eq, not_or, Nat.not_lt] at this
      omega)
    constructor
    · intro h3 r hr; rw [← key r hr]; exact h3 r hr
    · intro h3 r hr; rw [key r hr]; exact h3 r hr
  unfold rchk
  rw [if_neg (by rw [h]; decide), e]
/-- What the modules become, one by one: none where an arg is out of range. -/
def shO (s : Sh) (x : List Int) : Option Md := if mkB s x = true then some (mkM s x) else none
def sucO (l : List Rw) (m : Md) : List (Option Md) := if h : 0 ≤ first l m then (match l[(first l m).toNat]? with | some r => r.out.map (shO · m.a) | none => []) else [some m]
def seqO (l : List Rw) (w : List Md) : List (Option Md) := w.flatMap (sucO l)
def allO : List (Option Md) → Option (List Md)
  | [] => some []
  | none :: _ => none
  | some m :: l => (allO l).map (m :: ·)
theorem allO_app : ∀ a b : List (Option Md), allO (a ++ b) = (match allO a, allO b with | some x, some y => some (x ++ y) | _, _ => none)
  | [], b => by cases h : allO b <;> simp [allO, h]
  | none :: a, b => by simp [allO]
  | some m :: a, b => by
    simp only [List.cons_append, allO]
    rw [allO_app a b]
    cases allO a <;> cases allO b <;> simp
theorem allO_some (d : List Md) : allO (d.map some) = some d := by
  induction d with
  | nil => rfl
  | cons m d ih => simp [allO, ih]
theorem allO_none {a : List (Option Md)} (h : none ∈ a) : allO a = none := by
  induction a with
  | nil => simp at h
  | cons o a ih =>
    cases o with
    | none => rfl
    | some m =>
      simp only [List.mem_cons, reduceCtorEq, false_or] at h
      simp [allO, ih h]
theorem allO_map (out : List Sh) (x : List Int) : allO (out.map (shO · x)) = if out.all (mkB · x) = true then some (out.map (mkM · x)) else none := by
  induction out with
  | nil => rfl
  | cons s out ih =>
    rw [List.map_cons, List.all_cons, List.map_cons]
    cases h : mkB s x with
    | false =>
      rw [show shO s x = none by unfold shO; rw [if_neg (by rw [h]; decide)]]
      simp [allO]
    | true =>
      rw [show shO s x = some (mkM s x) by unfold shO; rw [if_pos h]]
      rw [allO, ih, Bool.true_and]
      split <;> rfl
theorem allO_suc (l : List Rw) (m : Md) (hb : first l m < l.length) : allO (sucO l m) = succM l m := by
  unfold sucO succM
  by_cases h : 0 ≤ first l m
  · rw [dif_pos h, dif_pos h]
    have hk : (first l m).toNat < l.length := by omega
    rw [List.getElem?_eq_getElem hk]
    exact allO_map _ _
  · rw [dif_neg h, dif_neg h]; rfl
theorem first_lt (l : List Rw) (m : Md) : first l m < l.length := by
  rcases firstF_rng l m 0 with h | h <;> unfold first <;> omega
/-- A word's successor, by its sequence. -/
theorem allO_seq (l : List Rw) : ∀ w : List Md, allO (seqO l w) = stepL l w
  | [] => rfl
  | m :: w => by
    have e : seqO l (m :: w) = sucO l m ++ seqO l w := rfl
    rw [e, allO_app, allO_suc l m (first_lt l m), allO_seq l w]
    rfl
theorem seqO_snoc {l : List Rw} {w : List Md} {k : Nat} (hk : k < w.length) : seqO l (w.take (k + 1)) = seqO l (w.take k) ++ sucO l w[k] := by
  unfold seqO
  rw [List.take_succ_eq_append_getElem hk, List.flatMap_append, List.flatMap_cons, List.flatMap_nil, List.append_nil]
theorem seqO_pre (l : List Rw) (w : List Md) (k : Nat) : seqO l (w.take k) <+: seqO l w := by
  refine ⟨seqO l (w.drop k), ?_⟩
  unfold seqO
  rw [← List.flatMap_append, List.take_append_drop]
theorem sucO_self {l : List Rw} {m : Md} (h : first l m < 0) : sucO l m = [some m] := by unfold sucO; rw [dif_neg (by omega)]
theorem sucO_made {l : List Rw} {m : Md} {k : Nat} (h : first l m = (k : Int)) (hk : k < l.length) : sucO l m = l[k].out.map (shO · m.a) := by
  unfold sucO
  rw [dif_pos (by omega)]
  have : (first l m).toNat = k := by omega
  rw [this, List.getElem?_eq_getElem hk]
theorem sucO_len {l : List Rw} (h : ∀ r ∈ l, r.out.length ≤ 20) (m : Md) : (sucO l m).length ≤ 20 := by
  unfold sucO
  split
  · split
    · rename_i r hr
      rw [List.length_map]; exact h r (List.mem_of_getElem? hr)
    · simp
  · simp
theorem seqO_len {l : List Rw} (h : ∀ r ∈ l, r.out.length ≤ 20) (w : List Md) : (seqO l w).length ≤ 20 * w.length := by
  induction w with
  | nil => simp [seqO]
  | cons m w ih =>
    have e : seqO l (m :: w) = sucO l m ++ seqO l w := rfl
    have := sucO_len h m
    rw [e, List.length_append, List.length_cons]; omega
end RM
end Go.Proofs.Ytcoljbcjnggagaa
namespace Go.Proofs.Ytcoljbcjnggagaa
open Go.RowKit
open WM RM
set_option linter.unusedVariables false
set_option linter.unusedSimpArgs false

inductive Fms (w : World) : Value → List Fm → Prop
  | none (p : Option Addr) (cap : Nat) : Fms w (.slice p 0 cap) []
  | some (b off cap : Nat) (l : List Fm) (hpos : 0 < l.length) (hb : b < w.heap.size)
      (h : ∀ i, (h : i < l.length) → w.cell? ⟨b, off + i * 2, Option.none⟩ = Option.some (.int .i64 l[i].k) ∧
        ∃ v, w.cell? ⟨b, off + i * 2 + 1, Option.none⟩ = Option.some v ∧ Ints w v l[i].cs) :
      Fms w (.slice (Option.some ⟨b, off, Option.none⟩) l.length cap) l
theorem Fms.later {w w1 : World} {v : Value} {l : List Fm} (h : Fms w v l) (hb : Below w.heap.size w w1) : Fms w1 v l := by
  cases h with
  | none p cap => exact .none p cap
  | some b off cap _ hpos hlt hx =>
    refine .some b off cap l hpos (Nat.lt_of_lt_of_le hlt hb.size) fun i hi => ?_
    obtain ⟨h1, v, h2, h3⟩ := hx i hi
    exact ⟨(hb.cell (p := ⟨b, off + i * 2, Option.none⟩) hlt).trans h1, v, (hb.cell (p := ⟨b, off + i * 2 + 1, Option.none⟩) hlt).trans h2, h3.later hb⟩
theorem Fms.slice {w : World} {v : Value} {l : List Fm} (h : Fms w v l) : ∃ p cap, v = .slice p l.length cap := by
  cases h with
  | none p cap => exact ⟨p, cap, rfl⟩
  | some b off cap _ _ _ _ => exact ⟨_, cap, rfl⟩
theorem Fms.at {w : World} {v : Value} {l : List Fm} (h : Fms w v l) {k : Nat} (hk : k < l.length) :
    ∃ b off cap p c, v = .slice (Option.some ⟨b, off, Option.none⟩) l.length cap ∧ w.cell? ⟨b, off + k * 2, Option.none⟩ = Option.some (.int .i64 l[k].k) ∧
      w.cell? ⟨b, off + k * 2 + 1, Option.none⟩ = Option.some (.slice p l[k].cs.length c) ∧ Ints w (.slice p l[k].cs.length c) l[k].cs ∧ b < w.heap.size := by
  cases h with
  | none p cap => simp at hk
  | some b off cap _ _ hb hx =>
    obtain ⟨h1, v, h2, h3⟩ := hx k hk
    obtain ⟨p, c, rfl⟩ := h3.slice
    exact ⟨b, off, cap, p, c, rfl, h1, h2, h3, hb⟩
inductive Shs (w : World) : Value → List Sh → Prop
  | none (p : Option Addr) (cap : Nat) : Shs w (.slice p 0 cap) []
  | some (b off cap : Nat) (l : List Sh) (hpos : 0 < l.length) (hb : b < w.heap.size)
      (h : ∀ i, (h : i < l.length) → w.cell? ⟨b, off + i * 2, Option.none⟩ = Option.some (.int .u8 l[i].c.toNat) ∧
        ∃ v, w.cell? ⟨b, off + i * 2 + 1, Option.none⟩ = Option.some v ∧ Fms w v l[i].a) :
      Shs w (.slice (Option.some ⟨b, off, Option.none⟩) l.length cap) l
theorem Shs.later {w w1 : World} {v : Value} {l : List Sh} (h : Shs w v l) (hb : Below w.heap.size w w1) : Shs w1 v l := by
  cases h with
  | none p cap => exact .none p cap
  | some b off cap _ hpos hlt hx =>
    refine .some b off cap l hpos (Nat.lt_of_lt_of_le hlt hb.size) fun i hi => ?_
    obtain ⟨h1, v, h2, h3⟩ := hx i hi
    exact ⟨(hb.cell (p := ⟨b, off + i * 2, Option.none⟩) hlt).trans h1, v, (hb.cell (p := ⟨b, off + i * 2 + 1, Option.none⟩) hlt).trans h2, h3.later hb⟩
theorem Shs.slice {w : World} {v : Value} {l : List Sh} (h : Shs w v l) : ∃ p cap, v = .slice p l.length cap := by
  cases h with
  | none p cap => exact ⟨p, cap, rfl⟩
  | some b off cap _ _ _ _ => exact ⟨_, cap, rfl⟩
theorem Shs.at {w : World} {v : Value} {l : List Sh} (h : Shs w v l) {k : Nat} (hk : k < l.length) :
    ∃ b off cap p c, v = .slice (Option.some ⟨b, off, Option.none⟩) l.length cap ∧ w.cell? ⟨b, off + k * 2, Option.none⟩ = Option.some (.int .u8 l[k].c.toNat) ∧
      w.cell? ⟨b, off + k * 2 + 1, Option.none⟩ = Option.some (.slice p l[k].a.length c) ∧ Fms w (.slice p l[k].a.length c) l[k].a ∧ b < w.heap.size := by
  cases h with
  | none p cap => simp at hk
  | some b off cap _ _ hb hx =>
    obtain ⟨h1, v, h2, h3⟩ := hx k hk
    obtain ⟨p, c, rfl⟩ := h3.slice
    exact ⟨b, off, cap, p, c, rfl, h1, h2, h3, hb⟩
inductive Rws (w : World) : Value → List Rw → Prop
  | none (p : Option Addr) (cap : Nat) : Rws w (.slice p 0 cap) []
  | some (b off cap : Nat) (l : List Rw) (hpos : 0 < l.length) (hb : b < w.heap.size)
      (h : ∀ i, (h : i < l.length) → w.cell? ⟨b, off + i * 7, Option.none⟩ = Option.some (.int .u8 l[i].c.toNat) ∧ w.cell? ⟨b, off + i * 7 + 1, Option.none⟩ = Option.some (.int .i64 l[i].ar) ∧
        w.cell? ⟨b, off + i * 7 + 2, Option.none⟩ = Option.some (.int .u8 l[i].l.toNat) ∧ w.cell? ⟨b, off + i * 7 + 3, Option.none⟩ = Option.some (.int .u8 l[i].r.toNat) ∧
        w.cell? ⟨b, off + i * 7 + 5, Option.none⟩ = Option.some (.int .i64 l[i].wt) ∧
        (∃ v, w.cell? ⟨b, off + i * 7 + 4, Option.none⟩ = Option.some v ∧ Fms w v l[i].gs) ∧ (∃ v, w.cell? ⟨b, off + i * 7 + 6, Option.none⟩ = Option.some v ∧ Shs w v l[i].out)) :
      Rws w (.slice (Option.some ⟨b, off, Option.none⟩) l.length cap) l
theorem Rws.later {w w1 : World} {v : Value} {l : List Rw} (h : Rws w v l) (hb : Below w.heap.size w w1) : Rws w1 v l := by
  cases h with
  | none p cap => exact .none p cap
  | some b off cap _ hpos hlt hx =>
    refine .some b off cap l hpos (Nat.lt_of_lt_of_le hlt hb.size) fun i hi => ?_
    obtain ⟨h1, h2, h3, h4, h5, ⟨v, h6, h7⟩, ⟨u, h8, h9⟩⟩ := hx i hi
    have c : ∀ o, w1.cell? ⟨b, o, Option.none⟩ = w.cell? ⟨b, o, Option.none⟩ := fun o => hb.cell (p := ⟨b, o, Option.none⟩) hlt
    exact ⟨(c _).trans h1, (c _).trans h2, (c _).trans h3, (c _).trans h4, (c _).trans h5, ⟨v, (c _).trans h6, h7.later hb⟩, ⟨u, (c _).trans h8, h9.later hb⟩⟩
theorem Rws.slice {w : World} {v : Value} {l : List Rw} (h : Rws w v l) : ∃ p cap, v = .slice p l.length cap := by
  cases h with
  | none p cap => exact ⟨p, cap, rfl⟩
  | some b off cap _ _ _ _ => exact ⟨_, cap, rfl⟩
/-- A rule's cells, at a place. -/
structure RwAt (w : World) (b o : Nat) (r : Rw) (gv ov : Value) : Prop where
  c0 : w.cell? ⟨b, o, Option.none⟩ = Option.some (.int .u8 r.c.toNat)
  c1 : w.cell? ⟨b, o + 1, Option.none⟩ = Option.some (.int .i64 r.ar)
  c2 : w.cell? ⟨b, o + 2, Option.none⟩ = Option.some (.int .u8 r.l.toNat)
  c3 : w.cell? ⟨b, o + 3, Option.none⟩ = Option.some (.int .u8 r.r.toNat)
  c4 : w.cell? ⟨b, o + 4, Option.none⟩ = Option.some gv
  c5 : w.cell? ⟨b, o + 5, Option.none⟩ = Option.some (.int .i64 r.wt)
  c6 : w.cell? ⟨b, o + 6, Option.none⟩ = Option.some ov
  gs : Fms w gv r.gs
  out : Shs w ov r.out
theorem Rws.at {w : World} {v : Value} {l : List Rw} (h : Rws w v l) {k : Nat} (hk : k < l.length) :
    ∃ b off cap p c q d, v = .slice (Option.some ⟨b, off, Option.none⟩) l.length cap ∧ b < w.heap.size ∧ RwAt w b (off + k * 7) l[k] (.slice p l[k].gs.length c) (.slice q l[k].out.length d) := by
  cases h with
  | none p cap => simp at hk
  | some b off cap _ _ hb hx =>
    obtain ⟨h1, h2, h3, h4, h5, ⟨v, h6, h7⟩, ⟨u, h8, h9⟩⟩ := hx k hk
    obtain ⟨p, c, rfl⟩ := h7.slice
    obtain ⟨q, d, rfl⟩ := h9.slice
    exact ⟨b, off, cap, p, c, q, d, rfl, hb, h1, h2, h3, h4, h6, h5, h8, h7, h9⟩
end Go.Proofs.Ytcoljbcjnggagaa
namespace Go.Proofs.Ytcoljbcjnggagaa
open Go.RowKit
open WM RM
set_option linter.unusedVariables false
set_option linter.unusedSimpArgs false

theorem form_k {f : Fm} {n : Int} (h : coefB f.k = false) : formB f n = false := by simp [formB, h]
theorem form_len {f : Fm} {n : Int} (h : (f.cs.length : Int) ≠ n) : formB f n = false := by simp [formB, h]
theorem form_bad {f : Fm} {n : Int} {i : Nat} (hi : i < f.cs.length) (h : coefB f.cs[i] = false) : formB f n = false := by
  have : f.cs.all coefB = false := by
    rw [List.all_eq_false]
    exact ⟨_, List.getElem_mem hi, by rw [h]; simp⟩
  simp [formB, this]
theorem form_ok {f : Fm} {n : Int} (h1 : coefB f.k = true) (h2 : (f.cs.length : Int) = n) (h : ∀ i, (hi : i < f.cs.length) → coefB f.cs[i] = true) : formB f n = true := by
  have : f.cs.all coefB = true := by
    rw [List.all_eq_true]
    intro x hx
    obtain ⟨j, hj, rfl⟩ := List.mem_iff_getElem.1 hx
    exact h j hj
  simp [formB, h1, h2, this]
theorem form_iff {f : Fm} {n : Int} (h : formB f n = true) : coefB f.k = true ∧ (f.cs.length : Int) = n ∧ f.cs.all coefB = true := by
  unfold formB at h
  simp only [Bool.and_eq_true, decide_eq_true_eq] at h
  exact ⟨h.1.1, h.1.2, h.2⟩
theorem coef_lo {x : Int} (h : x < -1000000) : coefB x = false := by simp [coefB]; omega
theorem coef_hi {x : Int} (h : 1000000 < x) : coefB x = false := by simp [coefB]; omega
set_option maxRecDepth 100000 in
set_option maxHeartbeats 1600000 in
theorem refform_any (f : Fm) (v : Value) (n : Int) (hm : f.cs.length ≤ 9223372036854775807) (w : World) (hv : Ints w v f.cs) :
    Calls Try.prog 59 #[.agg #[.int .i64 f.k, v], .int .i64 n] w fun e w' => e = .returned (.bool (formB f n)) ∧ Below w.heap.size w w' := by
  obtain ⟨p, cap, rfl⟩ := hv.slice
  obtain ⟨W0, hW0⟩ : ∃ W, W = w.alloc (.cells #[.int .i64 f.k, .slice p f.cs.length cap] 51) := ⟨_, rfl⟩
  have N0 : W0.heap[w.heap.size]? = some (.cells #[.int .i64 f.k, .slice p f.cs.length cap] 51 (0, 0)) := by rw [hW0]; exact heap_alloc_new _ _
  have B0 : Below w.heap.size w W0 := by rw [hW0]; exact (Below.refl _ _).alloc (Nat.le_refl _) _
  have HB := Lib.hid B0
  have HV0 := Lib.hid (hv.later B0)
  have q0 := cell_two0 N0
  have q1 := cell_two1 N0
  have l1 := lt_of_block N0
  clear N0 B0 hv
  by_cases h1 : f.k < -1000000
  · have HF := Lib.hid (form_k (n := n) (coef_lo h1))
    go_enter Try.func59, Try.ntmps59
    go_wp2_with fail
    rw [← hW0]
    clear hW0
    go_wp2_with fail
    go_ret
    exact ⟨ret_bool HF.out.symm, HB.out⟩
  by_cases h2 : 1000000 < f.k
  · have HF := Lib.hid (form_k (n := n) (coef_hi h2))
    go_enter Try.func59, Try.ntmps59
    go_wp2_with fail
    rw [← hW0]
    clear hW0
    go_wp2_with fail
    go_ret
    exact ⟨ret_bool HF.out.symm, HB.out⟩
  by_cases h3 : (f.cs.length : Int) = n
  · have HK : Hid (coefB f.k = true) := Lib.hid (coefB_iff.2 ⟨by omega, by omega⟩)
    subst h3
    go_enter Try.func59, Try.ntmps59
    go_wp2_with fail
    rw [← hW0]
    clear hW0
    go_wp2_with fail
    go_loop [5] (fun i => ∃ k : Nat, k ≤ f.cs.length ∧ i = .int .i64 k ∧ ∀ j, (h : j < f.cs.length) → j < k → coefB f.cs[j] = true) (fun i => f.cs.length - (intOf i).toNat)
    case atStart => exact ⟨0, Nat.zero_le _, rfl, fun j _ h => by omega⟩
    case round =>
      obtain ⟨k, hk, rfl, hok⟩ := hrel
      have HO := Lib.hid hok
      clear hok
      by_cases hlt : k < f.cs.length
      · obtain ⟨b, off, cap', hp, e1, lb⟩ := HV0.out.at hlt
        obtain rfl : p = some ⟨b, off, none⟩ := by cases hp; rfl
        have k1 : (k : Int) < (f.cs.length : Int) := by omega
        clear hp
        by_cases h4 : f.cs[k] < -1000000
        · have HF := Lib.hid (form_bad (n := (f.cs.length : Int)) hlt (coef_lo h4))
          obtain ⟨x, hx⟩ : ∃ x, f.cs[k] = x := ⟨_, rfl⟩
          rw [hx] at h4 e1
          clear hx
          go_wp2_with fail
          go_ret
          exact ⟨ret_bool HF.out.symm, HB.out⟩
        · by_cases h5 : 1000000 < f.cs[k]
          · have HF := Lib.hid (form_bad (n := (f.cs.length : Int)) hlt (coef_hi h5))
            obtain ⟨x, hx⟩ : ∃ x, f.cs[k] = x := ⟨_, rfl⟩
            rw [hx] at h4 h5 e1
            clear hx
            go_wp2_with fail
            go_ret
            exact ⟨ret_bool HF.out.symm, HB.out⟩
          · have HG : Hid (∀ j, (h : j < f.cs.length) → j < k + 1 → coefB f.cs[j] = true) := Lib.hid (fun j h hj => by
              rcases Nat.lt_or_eq_of_le (Nat.le_of_lt_succ hj) with h6 | h6
              · exact HO.out j h h6
              · subst h6; exact coefB_iff.2 ⟨by omega, by omega⟩)
            obtain ⟨x, hx⟩ : ∃ x, f.cs[k] = x := ⟨_, rfl⟩
            rw [hx] at h4 h5 e1
            clear hx
            go_wp2_with fail
            go_round
            case rel => exact ⟨k + 1, by omega, by go_num, HG.out⟩
            case measure => simp [intOf]; omega
      · obtain rfl : k = f.cs.length := by omega
        have HF := Lib.hid (form_ok HK.out rfl (fun i hi => HO.out i hi hi))
        go_wp2_with fail
        go_ret
        exact ⟨ret_bool HF.out.symm, HB.out⟩
  · have HF := Lib.hid (form_len h3)
    go_enter Try.func59, Try.ntmps59
    go_wp2_with fail
    rw [← hW0]
    clear hW0
    go_wp2_with fail
    go_ret
    exact ⟨ret_bool HF.out.symm, HB.out⟩
/-- Of a form that is valid for the args, which are in range. -/
theorem refworth_any (f : Fm) (x : List Int) (v u : Value) (hf : formB f (x.length : Int) = true) (hl : x.length ≤ 4) (hx : ∀ y ∈ x, -1000000000 ≤ y ∧ y ≤ 1000000000) (w : World) (hv : Ints w v f.cs) (hu : Ints w u x) :
    Calls Try.prog 61 #[.agg #[.int .i64 f.k, v], u] w fun e w' => e = .returned (.int .i64 (worth f x)) ∧ Below w.heap.size w w' := by
  obtain ⟨f1, f2, f3⟩ := form_iff hf
  have hlen : f.cs.length = x.length := by omega
  obtain ⟨p, cap, rfl⟩ := hv.slice
  obtain ⟨p2, cap2, rfl⟩ := hu.slice
  obtain ⟨W0, hW0⟩ : ∃ W, W = w.alloc (.cells #[.int .i64 f.k, .slice p f.cs.length cap] 51) := ⟨_, rfl⟩
  have N0 : W0.heap[w.heap.size]? = some (.cells #[.int .i64 f.k, .slice p f.cs.length cap] 51 (0, 0)) := by rw [hW0]; exact heap_alloc_new _ _
  have B0 : Below w.heap.size w W0 := by rw [hW0]; exact (Below.refl _ _).alloc (Nat.le_refl _) _
  have HB := Lib.hid B0
  have HV0 := Lib.hid (hv.later B0)
  have HU0 := Lib.hid (hu.later B0)
  have q0 := cell_two0 N0
  have q1 := cell_two1 N0
  have l1 := lt_of_block N0
  have HR := Lib.hid (wor_rng hlen f1 f3 hx)
  have HS : Hid (∀ k, (h : k < x.length) → wor f.k (f.cs.take (k + 1)) (x.take (k + 1)) = wor f.k (f.cs.take k) (x.take k) + f.cs[k]'(hlen.symm ▸ h) * x[k]) := Lib.hid (fun k h => wor_take hlen h)
  have HM : Hid (∀ k, (h : k < x.length) → -1000000000000000 ≤ f.cs[k]'(hlen.symm ▸ h) * x[k] ∧ f.cs[k]'(hlen.symm ▸ h) * x[k] ≤ 1000000000000000) := Lib.hid (fun k h => mul_rng (coefB_iff.1 (List.all_eq_true.1 f3 _ (List.getElem_mem (show k < f.cs.length by omega)))) (hx _ (List.getElem_mem h)))
  have HE : Hid (wor f.k (f.cs.take x.length) (x.take x.length) = worth f x) := Lib.hid (by rw [← hlen, List.take_length, hlen, List.take_length]; rfl)
  have H0 : Hid (wor f.k (f.cs.take 0) (x.take 0) = f.k) := Lib.hid (by simp [wor])
  rw [hlen] at q1
  rw [hlen] at hW0
  rw [hlen]
  clear N0 B0 hv hu hf hx f1 f2 f3
  go_enter Try.func61, Try.ntmps61
  go_wp2_with fail
  rw [← hW0]
  clear hW0
  go_wp2_with fail
  go_loopw [5, 6] (fun m i wr => ∃ k q : Nat, k ≤ x.length ∧ i = .int .i64 k ∧ m = .int .i64 (wor f.k (f.cs.take k) (x.take k)) ∧ wr = W0.drewN q) (fun _ i _ => x.length - (intOf i).toNat)
  case atStart => exact ⟨0, 0, Nat.zero_le _, rfl, by rw [H0.out], rfl⟩
  case round =>
    obtain ⟨k, q, hk, rfl, rfl, rfl⟩ := hrel
    have hr := HR.out k hk
    by_cases hlt : k < x.length
    · obtain ⟨b, off, cap', hp, e1, lb⟩ := HV0.out.at (k := k) (by omega)
      obtain rfl : p = some ⟨b, off, none⟩ := by cases hp; rfl
      obtain ⟨b2, off2, cap3, hp2, e2, lb2⟩ := HU0.out.at hlt
      obtain rfl : p2 = some ⟨b2, off2, none⟩ := by cases hp2; rfl
      have k1 : (k : Int) < (x.length : Int) := by omega
      have HS1 := Lib.hid (HS.out k hlt)
      have hm := HM.out k hlt
      clear hp hp2
      obtain ⟨m, hmm⟩ : ∃ m, wor f.k (f.cs.take k) (x.take k) = m := ⟨_, rfl⟩
      rw [hmm] at HS1 hr ⊢
      obtain ⟨c, hc⟩ : ∃ c, f.cs[k]'(hlen.symm ▸ hlt) = c := ⟨_, rfl⟩
      rw [hc] at HS1 hm e1
      obtain ⟨y, hy⟩ : ∃ y, x[k] = y := ⟨_, rfl⟩
      rw [hy] at HS1 hm e2
      obtain ⟨z, hz⟩ : ∃ z, c * y = z := ⟨_, rfl⟩
      have hz1 : -1000000000000000 ≤ z ∧ z ≤ 1000000000000000 := by rw [← hz]; exact hm
      rw [hz] at HS1
      have hrr : -5000000001000000 ≤ m ∧ m ≤ 5000000001000000 := by
        have : (k : Int) ≤ 4 := by omega
        omega
      clear hmm hc hy hm hr
      go_wp2_with fail
      go_quiet (fail)
      go_wp2_with fail
      go_roundw
      case rel => exact ⟨k + 1, _, by omega, by go_num, by rw [HS1.out], rfl⟩
      case measure => simp [intOf]; omega
    · obtain rfl : k = x.length := by omega
      rw [HE.out]
      go_wp2_with fail
      go_ret
      exact ⟨rfl, below_drewN HB.out _⟩
end Go.Proofs.Ytcoljbcjnggagaa
namespace Go.Proofs.Ytcoljbcjnggagaa
open Go.RowKit
open WM RM
set_option linter.unusedVariables false
set_option linter.unusedSimpArgs false

theorem fit_name {r : Rw} {m : Md} (h : r.c ≠ m.c) : fitB r m = false := by simp [fitB, h]
theorem fit_len {r : Rw} {m : Md} (h : r.ar ≠ (m.a.length : Int)) : fitB r m = false := by simp [fitB, h]
theorem fit_neg {r : Rw} {m : Md} {i : Nat} (hi : i < r.gs.length) (h : worth r.gs[i] m.a < 0) : fitB r m = false := by
  have : (r.gs.all fun g => decide (0 ≤ worth g m.a)) = false := by
    rw [List.all_eq_false]
    exact ⟨_, List.getElem_mem hi, by simp; omega⟩
  simp [fitB, this]
theorem fit_ok {r : Rw} {m : Md} (h1 : r.c = m.c) (h2 : r.ar = (m.a.length : Int)) (h : ∀ i, (hi : i < r.gs.length) → 0 ≤ worth r.gs[i] m.a) : fitB r m = true := by
  have : (r.gs.all fun g => decide (0 ≤ worth g m.a)) = true := by
    rw [List.all_eq_true]
    intro x hx
    obtain ⟨j, hj, rfl⟩ := List.mem_iff_getElem.1 hx
    simpa using h j hj
  simp [fitB, h1, h2, this]
theorem fine_args4 {m : Md} (h : fineB m = true) : m.a.length ≤ 4 ∧ ∀ x ∈ m.a, -1000000000 ≤ x ∧ x ≤ 1000000000 := by
  unfold fineB at h
  simp only [Bool.and_eq_true, decide_eq_true_eq] at h
  exact ⟨h.1.1.2, rngB_iff.1 h.2⟩
/-- A rule as a value. -/
def rwV (r : Rw) (gv ov : Value) : Value := .agg #[.int .u8 r.c.toNat, .int .i64 r.ar, .int .u8 r.l.toNat, .int .u8 r.r.toNat, gv, .int .i64 r.wt, ov]
set_option maxRecDepth 100000 in
set_option maxHeartbeats 3200000 in
theorem reffits_any (r : Rw) (m : Md) (gv ov mv : Value) (hg : r.gs.all (formB · r.ar) = true) (hm : fineB m = true) (hlen : r.gs.length ≤ 9223372036854775807) (w : World) (h1 : Fms w gv r.gs) (h2 : Ints w mv m.a) :
    Calls Try.prog 53 #[rwV r gv ov, .agg #[.int .u8 m.c.toNat, mv]] w fun e w' => e = .returned (.bool (fitB r m)) ∧ Below w.heap.size w w' := by
  obtain ⟨p, cap, rfl⟩ := h1.slice
  obtain ⟨p2, cap2, rfl⟩ := h2.slice
  obtain ⟨m4, mr⟩ := fine_args4 hm
  unfold rwV
  obtain ⟨W0, hW0⟩ : ∃ W, W = (w.alloc (.cells #[.int .u8 r.c.toNat, .int .i64 r.ar, .int .u8 r.l.toNat, .int .u8 r.r.toNat, .slice p r.gs.length cap, .int .i64 r.wt, ov] 48)).alloc (.cells #[.int .u8 m.c.toNat, .slice p2 m.a.length cap2] 55) := ⟨_, rfl⟩
  have N1 : W0.heap[w.heap.size]? = some (.cells #[.int .u8 r.c.toNat, .int .i64 r.ar, .int .u8 r.l.toNat, .int .u8 r.r.toNat, .slice p r.gs.length cap, .int .i64 r.wt, ov] 48 (0, 0)) := by rw [hW0]; exact heap_alloc_old (heap_alloc_new _ _) _
  have N2 : W0.heap[w.heap.size + 1]? = some (.cells #[.int .u8 m.c.toNat, .slice p2 m.a.length cap2] 55 (0, 0)) := by
    have := heap_alloc_new (w.alloc (.cells #[.int .u8 r.c.toNat, .int .i64 r.ar, .int .u8 r.l.toNat, .int .u8 r.r.toNat, .slice p r.gs.length cap, .int .i64 r.wt, ov] 48)) (.cells #[.int .u8 m.c.toNat, .slice p2 m.a.length cap2] 55)
    rw [hW0]; simpa using this
  have B0 : Below w.heap.size w W0 := by rw [hW0]; exact ((Below.refl _ _).alloc (Nat.le_refl _) _).alloc (by simp) _
  have HB := Lib.hid B0
  have H1 := Lib.hid (h1.later B0)
  have H2 := Lib.hid (h2.later B0)
  have q0 : W0.cell? ⟨w.heap.size, 0, none⟩ = some (.int .u8 r.c.toNat) := by simp [World.cell?, N1]
  have q1 : W0.cell? ⟨w.heap.size, 1, none⟩ = some (.int .i64 r.ar) := by simp [World.cell?, N1]
  have q4 : W0.cell? ⟨w.heap.size, 4, none⟩ = some (.slice p r.gs.length cap) := by simp [World.cell?, N1]
  have s0 := cell_two0 N2
  have s1 := cell_two1 N2
  have l1 := lt_of_block N1
  have l2 := lt_of_block N2
  have HG := Lib.hid hg
  have HMR := Lib.hid mr
  clear N1 N2 B0 h1 h2 hg hm mr
  by_cases hc : r.c = m.c
  · have HC := Lib.hid hc
    have t1 : ((r.c.toNat : Int) != (m.c.toNat : Int)) = false := by rw [hc]; simp
    by_cases ha : r.ar = (m.a.length : Int)
    · have HA := Lib.hid ha
      have t2 : (r.ar != (m.a.length : Int)) = false := by rw [ha]; simp
      rw [ha] at q1
      rw [ha] at hW0
      rw [ha]
      clear hc ha t2
      generalize r.c.toNat = ca at q0 t1 hW0 ⊢
      generalize m.c.toNat = cb at s0 t1 hW0 ⊢
      go_enter Try.func53, Try.ntmps53
      go_wp2_with fail
      rw [← hW0]
      clear hW0
      go_wp2_with fail
      go_loopw [5] (fun i wr => ∃ k : Nat, k ≤ r.gs.length ∧ i = .int .i64 k ∧ Below W0.heap.size W0 wr ∧ ∀ j, (hj : j < r.gs.length) → j < k → 0 ≤ worth r.gs[j] m.a) (fun i _ => r.gs.length - (intOf i).toNat)
      case atStart => exact ⟨0, Nat.zero_le _, rfl, Below.refl _ _, fun j _ h => by omega⟩
      case round =>
        obtain ⟨k, hk, rfl, hb, hok⟩ := hrel
        have HK := Lib.hid hok
        have HBr := Lib.hid hb
        have y1 := (hb.cell (p := ⟨w.heap.size, 4, none⟩) l1).trans q4
        have y2 := (hb.cell (p := ⟨w.heap.size + 1, 1, none⟩) l2).trans s1
        clear hok hb
        by_cases hlt : k < r.gs.length
        · obtain ⟨b, off, cap', q, d, hp, e1, e2, hin, lb⟩ := (H1.out.later HBr.out).at hlt
          obtain rfl : p = some ⟨b, off, none⟩ := by cases hp; rfl
          have k1 : (k : Int) < (r.gs.length : Int) := by omega
          have hf := List.all_eq_true.1 HG.out _ (List.getElem_mem hlt)
          rw [HA.out] at hf
          have HX := Lib.hid (H2.out.later HBr.out)
          have HCw : Hid (∀ (d' : Nat) (os : Array Obj), Calls Try.prog 61 #[.agg #[.int .i64 r.gs[k].k, .slice q r.gs[k].cs.length d], .slice p2 m.a.length cap2] («Sort».grow (redrawn wr d') os) fun e w' =>
              e = .returned (.int .i64 (worth r.gs[k] m.a)) ∧ Below («Sort».grow (redrawn wr d') os).heap.size («Sort».grow (redrawn wr d') os) w') :=
            Lib.hid (fun d' os => refworth_any r.gs[k] m.a _ _ hf m4 HMR.out _ (hin.later (below_regrown wr d' os)) (HX.out.later (below_regrown wr d' os)))
          obtain ⟨z, hz⟩ : ∃ z, worth r.gs[k] m.a = z := ⟨_, rfl⟩
          have HZ := Lib.hid hz
          rw [hz] at HCw
          obtain ⟨fk, hfk⟩ : ∃ fk, r.gs[k].k = fk := ⟨_, rfl⟩
          obtain ⟨fl, hfl⟩ : ∃ fl, r.gs[k].cs.length = fl := ⟨_, rfl⟩
          rw [hfk] at e1 HCw
          rw [hfl] at e2 HCw
          clear hp hin hf hz hfk hfl
          have r1 := fun d os => cell_regrown e1 d os
          have r2 := fun d os => cell_regrown e2 d os
          have r3 := fun d os => cell_regrown y1 d os
          have r4 := fun d os => cell_regrown y2 d os
          go_wp2_with fail
          refine wp_region_quiet_below (by kernel_rfl) (by kernel_rfl) ?_
          repeat (any_goals (first | go_big_quiet_step ((go_at_call 61; exact Calls.regrown_of (HCw.out _ _))) | quiet_step ((go_at_call 61; exact Calls.regrown_of (HCw.out _ _)))))
          refine wpQuiet_nil ?_
          intro _ hw'
          obtain ⟨⟨dq, osq⟩, hw''⟩ := hw'
          subst hw''
          have HB2 : Hid (Below W0.heap.size W0 («Sort».grow (redrawn wr dq) osq)) := Lib.hid (HBr.out.trans ((below_regrown wr dq osq).mono HBr.out.size))
          by_cases h0 : z < 0
          · have HF := Lib.hid (fit_neg hlt (by rw [HZ.out]; exact h0))
            go_wp2_with fail
            go_ret
            exact ⟨ret_bool HF.out.symm, HB.out.trans (HB2.out.mono HB.out.size)⟩
          · have HG2 : Hid (∀ j, (hj : j < r.gs.length) → j < k + 1 → 0 ≤ worth r.gs[j] m.a) := Lib.hid (fun j hj h => by
              rcases Nat.lt_or_eq_of_le (Nat.le_of_lt_succ h) with h1 | h1
              · exact HK.out j hj h1
              · subst h1; rw [HZ.out]; omega)
            go_wp2_with fail
            go_roundw
            case rel => exact ⟨k + 1, by omega, by go_num, HB2.out, HG2.out⟩
            case measure => simp [intOf]; omega
        · obtain rfl : k = r.gs.length := by omega
          have HF := Lib.hid (fit_ok HC.out HA.out (fun i hi => HK.out i hi hi))
          go_wp2_with fail
          go_ret
          exact ⟨ret_bool HF.out.symm, HB.out.trans (HBr.out.mono HB.out.size)⟩
    · have HF := Lib.hid (fit_len (m := m) ha)
      have t2 : (r.ar != (m.a.length : Int)) = true := by rw [bne_iff_ne]; exact ha
      clear hc
      generalize r.c.toNat = ca at q0 t1 hW0 ⊢
      generalize m.c.toNat = cb at s0 t1 hW0 ⊢
      go_enter Try.func53, Try.ntmps53
      go_wp2_with fail
      rw [← hW0]
      clear hW0
      go_wp2_with fail
      go_ret
      exact ⟨ret_bool HF.out.symm, HB.out⟩
  · have HF := Lib.hid (fit_name hc)
    have t1 : ((r.c.toNat : Int) != (m.c.toNat : Int)) = true := by
      rw [bne_iff_ne]; intro e; exact hc (UInt8.toNat_inj.1 (by omega))
    generalize r.c.toNat = ca at q0 t1 hW0 ⊢
    generalize m.c.toNat = cb at s0 t1 hW0 ⊢
    go_enter Try.func53, Try.ntmps53
    go_wp2_with fail
    rw [← hW0]
    clear hW0
    go_wp2_with fail
    go_ret
    exact ⟨ret_bool HF.out.symm, HB.out⟩
end Go.Proofs.Ytcoljbcjnggagaa
namespace Go.Proofs.Ytcoljbcjnggagaa
open Go.RowKit
open WM RM
set_option linter.unusedVariables false
set_option linter.unusedSimpArgs false

theorem va_bad {f : Fm} {x : List Int} (h : 4 < x.length ∨ formB f (x.length : Int) = false ∨ fineB ⟨70, x⟩ = false) : vaC f x = 8 ∧ vaV f x = 0 := by
  have e : vaC f x = 8 := by unfold vaC; rw [if_pos h]
  exact ⟨e, by unfold vaV; rw [e]; rfl⟩
theorem va_good {f : Fm} {x : List Int} (h1 : ¬ 4 < x.length) (h2 : formB f (x.length : Int) = true) (h3 : fineB ⟨70, x⟩ = true) :
    (¬ (-1000000000 ≤ worth f x ∧ worth f x ≤ 1000000000) → vaC f x = 16 ∧ vaV f x = 0) ∧ ((-1000000000 ≤ worth f x ∧ worth f x ≤ 1000000000) → vaC f x = 0 ∧ vaV f x = worth f x) := by
  have e : vaC f x = if -1000000000 ≤ worth f x ∧ worth f x ≤ 1000000000 then 0 else 16 := by
    unfold vaC; rw [if_neg (by rw [h2, h3]; simp [h1])]
  constructor
  · intro h
    rw [if_neg h] at e
    exact ⟨e, by unfold vaV; rw [e]; rfl⟩
  · intro h
    rw [if_pos h] at e
    exact ⟨e, by unfold vaV; rw [e]; rfl⟩
theorem rret_two {a b c d : Int} (h1 : a = c) (h2 : b = d) : Ending.returned (.tuple #[.int .i64 a, .int .i64 b]) = .returned (.tuple #[.int .i64 c, .int .i64 d]) := by rw [h1, h2]
/-! ### Many -/
theorem many_len {l : List Rw} (h : 40 < l.length) : manyB l = true := by simp [manyB, h]
theorem many_at {l : List Rw} {k : Nat} (hk : k < l.length) (h : 4 < l[k].gs.length ∨ 20 < l[k].out.length) : manyB l = true := by
  have : (l.any fun r => decide (4 < r.gs.length) || decide (20 < r.out.length)) = true := by
    rw [List.any_eq_true]
    exact ⟨_, List.getElem_mem hk, by simpa using h⟩
  unfold manyB
  rw [this]; simp
theorem many_not {l : List Rw} (h1 : ¬ 40 < l.length) (h : ∀ k, (hk : k < l.length) → ¬ 4 < l[k].gs.length ∧ ¬ 20 < l[k].out.length) : manyB l = false := by
  have : (l.any fun r => decide (4 < r.gs.length) || decide (20 < r.out.length)) = false := by
    rw [List.any_eq_false]
    intro x hx
    obtain ⟨j, hj, rfl⟩ := List.mem_iff_getElem.1 hx
    have := h j hj
    simp; omega
  unfold manyB
  rw [this]; simpa using h1
theorem many_no {l : List Rw} (h : manyB l = false) : l.length ≤ 40 ∧ ∀ r ∈ l, r.gs.length ≤ 4 ∧ r.out.length ≤ 20 := by
  unfold manyB at h
  rw [Bool.or_eq_false_iff] at h
  refine ⟨by simpa using h.1, fun r hr => ?_⟩
  have := List.any_eq_false.1 h.2 r hr
  simpa using this
set_option maxRecDepth 100000 in
set_option maxHeartbeats 1600000 in
theorem refmany_any (v : Value) (l : List Rw) (hmax : l.length ≤ 9223372036854775807) (w : World) (hv : Rws w v l) :
    Calls Try.prog 37 #[v] w fun e w' => e = .returned (.bool (manyB l)) ∧ w = w' := by
  obtain ⟨p, cap, rfl⟩ := hv.slice
  have HV := Lib.hid hv
  clear hv
  by_cases h40 : 40 < l.length
  · have HF := Lib.hid (many_len h40)
    have c1 : (40 : Int) < (l.length : Int) := by omega
    go_enter Try.func37, Try.ntmps37
    go_wp2_with fail
    go_ret
    exact ⟨ret_bool HF.out.symm, rfl⟩
  · have c1 : ¬ (40 : Int) < (l.length : Int) := by omega
    go_enter Try.func37, Try.ntmps37
    go_wp2_with fail
    go_loop [3] (fun i => ∃ k : Nat, k ≤ l.length ∧ i = .int .i64 k ∧ ∀ j, (hj : j < l.length) → j < k → ¬ 4 < l[j].gs.length ∧ ¬ 20 < l[j].out.length) (fun i => l.length - (intOf i).toNat)
    case atStart => exact ⟨0, Nat.zero_le _, rfl, fun j _ h => by omega⟩
    case round =>
      obtain ⟨k, hk, rfl, hok⟩ := hrel
      have HK := Lib.hid hok
      clear hok
      by_cases hlt : k < l.length
      · obtain ⟨b, off, cap', g, gc, o, oc, hp, lb, hat⟩ := HV.out.at hlt
        obtain rfl : p = some ⟨b, off, none⟩ := by cases hp; rfl
        have e4 := hat.c4
        have e6 := hat.c6
        have k1 : (k : Int) < (l.length : Int) := by omega
        clear hp hat
        by_cases h4 : 4 < l[k].gs.length
        · have HF := Lib.hid (many_at hlt (.inl h4))
          have c4 : (4 : Int) < (l[k].gs.length : Int) := by omega
          obtain ⟨n, hn⟩ : ∃ n, l[k].gs.length = n := ⟨_, rfl⟩
          rw [hn] at e4 c4
          clear hn h4
          go_wp2_with fail
          go_ret
          exact ⟨ret_bool HF.out.symm, rfl⟩
        · have c4 : ¬ (4 : Int) < (l[k].gs.length : Int) := by omega
          by_cases h20 : 20 < l[k].out.length
          · have HF := Lib.hid (many_at hlt (.inr h20))
            have c5 : (20 : Int) < (l[k].out.length : Int) := by omega
            obtain ⟨n, hn⟩ : ∃ n, l[k].gs.length = n := ⟨_, rfl⟩
            rw [hn] at e4 c4
            obtain ⟨m, hm⟩ : ∃ m, l[k].out.length = m := ⟨_, rfl⟩
            rw [hm] at e6 c5
            clear hn hm h4 h20
            go_wp2_with fail
            go_ret
            exact ⟨ret_bool HF.out.symm, rfl⟩
          · have c5 : ¬ (20 : Int) < (l[k].out.length : Int) := by omega
            have HG : Hid (∀ j, (hj : j < l.length) → j < k + 1 → ¬ 4 < l[j].gs.length ∧ ¬ 20 < l[j].out.length) := Lib.hid (fun j hj h => by
              rcases Nat.lt_or_eq_of_le (Nat.le_of_lt_succ h) with h1 | h1
              · exact HK.out j hj h1
              · subst h1; exact ⟨h4, h20⟩)
            obtain ⟨n, hn⟩ : ∃ n, l[k].gs.length = n := ⟨_, rfl⟩
            rw [hn] at e4 c4
            obtain ⟨m, hm⟩ : ∃ m, l[k].out.length = m := ⟨_, rfl⟩
            rw [hm] at e6 c5
            clear hn hm h4 h20
            go_wp2_with fail
            go_round
            case rel => exact ⟨k + 1, by omega, by go_num, HG.out⟩
            case measure => simp [intOf]; omega
      · obtain rfl : k = l.length := by omega
        have HF := Lib.hid (many_not h40 (fun i hi => HK.out i hi hi))
        go_wp2_with fail
        go_ret
        exact ⟨ret_bool HF.out.symm, rfl⟩
end Go.Proofs.Ytcoljbcjnggagaa
namespace Go.Proofs.Ytcoljbcjnggagaa
open Go.RowKit
open WM RM
set_option linter.unusedVariables false
set_option linter.unusedSimpArgs false

/-- How the search stands. -/
def FAt (l : List Rw) (m : Md) (k : Nat) : Prop := first l m = firstF (l.drop k) m (k : Int)
theorem fAt_start (l : List Rw) (m : Md) : FAt l m 0 := rfl
theorem fAt_yes {l : List Rw} {m : Md} {k : Nat} (hk : k < l.length) (h : FAt l m k) (hf : fitB l[k] m = true) : first l m = (k : Int) := by
  unfold FAt at h; rw [h, firstF_drop hk, if_pos hf]
theorem fAt_no {l : List Rw} {m : Md} {k : Nat} (hk : k < l.length) (h : FAt l m k) (hf : fitB l[k] m = false) : FAt l m (k + 1) := by
  unfold FAt at h ⊢; rw [h, firstF_drop hk, if_neg (by rw [hf]; decide)]
theorem fAt_end {l : List Rw} {m : Md} (h : FAt l m l.length) : first l m = -1 := by
  unfold FAt at h; rw [h, firstF_end (Nat.le_refl _)]
end Go.Proofs.Ytcoljbcjnggagaa
namespace Go.Proofs.Ytcoljbcjnggagaa
open Go.RowKit
open WM RM
set_option linter.unusedVariables false
set_option linter.unusedSimpArgs false

/-- Rules that are no greater than the statements look at. -/
def RwSm (r : Rw) : Prop := r.gs.length ≤ 10 ∧ r.out.length ≤ 30 ∧ (∀ f ∈ r.gs, f.cs.length ≤ 10) ∧ ∀ s ∈ r.out, s.a.length ≤ 10 ∧ ∀ f ∈ s.a, f.cs.length ≤ 10
/-- What rules' Fine is to hand back. -/
def FineR : Prop := ∀ (r : Rw) (gv ov : Value) (w : World), RwSm r → Fms w gv r.gs → Shs w ov r.out →
  Calls Try.prog 38 #[rwV r gv ov] w fun e w' => e = .returned (.bool (ruleB r)) ∧ Below w.heap.size w w'
theorem rchk_many {l : List Rw} (h : manyB l = true) : rchk l = 4 := by unfold rchk; rw [if_pos h]
theorem rchk_bad {l : List Rw} (h : manyB l = false) {k : Nat} (hk : k < l.length) (h2 : ruleB l[k] = false ∨ plainB l[k] = false) : rchk l = 8 := by
  have : (l.all fun r => ruleB r && plainB r) = false := by
    rw [List.all_eq_false]
    refine ⟨_, List.getElem_mem hk, ?_⟩
    rcases h2 with h | h <;> simp [h]
  unfold rchk; rw [if_neg (by rw [h]; decide), if_neg (by rw [this]; decide)]
theorem rchk_ok {l : List Rw} (h : manyB l = false) (h2 : ∀ k, (hk : k < l.length) → ruleB l[k] = true ∧ plainB l[k] = true) : rchk l = 0 := by
  have : (l.all fun r => ruleB r && plainB r) = true := by
    rw [List.all_eq_true]
    intro x hx
    obtain ⟨j, hj, rfl⟩ := List.mem_iff_getElem.1 hx
    obtain ⟨h3, h4⟩ := h2 j hj
    simp [h3, h4]
  unfold rchk; rw [if_neg (by rw [h]; decide), if_pos this]
theorem rchk_zero {l : List Rw} (h : rchk l = 0) : manyB l = false ∧ ∀ r ∈ l, ruleB r = true ∧ plainB r = true := by
  unfold rchk at h
  split at h
  · omega
  · rename_i h1
    split at h
    · rename_i h2
      refine ⟨by simpa using h1, fun r hr => ?_⟩
      have := List.all_eq_true.1 h2 r hr
      simpa using this
    · omega
theorem rule_guards {r : Rw} (h : ruleB r = true) : r.gs.all (formB · r.ar) = true := by
  unfold ruleB at h
  simp only [Bool.and_eq_true] at h
  exact h.1.1.2
theorem plain_l {r : Rw} (h : r.l ≠ 0) : plainB r = false := by simp [plainB, h]
theorem plain_r {r : Rw} (h : r.r ≠ 0) : plainB r = false := by simp [plainB, h]
theorem plain_w {r : Rw} (h : r.wt ≠ 0) : plainB r = false := by simp [plainB, h]
theorem plain_ok {r : Rw} (h1 : r.l = 0) (h2 : r.r = 0) (h3 : r.wt = 0) : plainB r = true := by simp [plainB, h1, h2, h3]
theorem u8_nz {c : UInt8} (h : c ≠ 0) : ((c.toNat : Int) != 0) = true := by
  rw [bne_iff_ne]; intro e
  exact h (UInt8.toNat_inj.1 (by show c.toNat = 0; omega))
/-! ### Find -/
theorem fin_rules {l : List Rw} {m : Md} (h : rchk l ≠ 0) : finC l m = rchk l ∧ finV l m = 0 := by
  have e : finC l m = rchk l := by unfold finC; rw [if_pos h]
  exact ⟨e, by unfold finV; rw [e, if_neg h]⟩
theorem fin_bad {l : List Rw} {m : Md} (h : rchk l = 0) (h2 : fineB m = false) : finC l m = 8 ∧ finV l m = 0 := by
  have e : finC l m = 8 := by unfold finC; rw [if_neg (by simp [h]), if_neg (by rw [h2]; decide)]
  exact ⟨e, by unfold finV; rw [e, if_neg (by decide)]⟩
theorem fin_ok {l : List Rw} {m : Md} (h : rchk l = 0) (h2 : fineB m = true) : finC l m = 0 ∧ finV l m = first l m := by
  have e : finC l m = 0 := by unfold finC; rw [if_neg (by simp [h]), if_pos h2]
  exact ⟨e, by unfold finV; rw [if_pos e]⟩
end Go.Proofs.Ytcoljbcjnggagaa
