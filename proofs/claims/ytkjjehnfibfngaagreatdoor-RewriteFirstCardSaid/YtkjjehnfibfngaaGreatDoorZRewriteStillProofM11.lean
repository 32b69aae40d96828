/-
  Texts of the proof, merged: ZRewRefN, ZRewAlive, ZWordTrM.
-/
import Derived.Test.YtkjjehnfibfngaaGreatDoorZRewriteStillProofM8
import Derived.Test.YtkjjehnfibfngaaGreatDoorZRewriteStillProofM6
import Derived.Lib.QuietBelow
import Derived.Test.YtkjjehnfibfngaaGreatDoorZRewriteStillProofM10
import Derived.Test.YtkjjehnfibfngaaGreatDoorZRewriteStillProofM5
namespace Go.Proofs.YtkjjehnfibfngaaGreatDoor
open Go.RowKit
open WM RM
set_option linter.unusedVariables false
set_option linter.unusedSimpArgs false

theorem rb_let {r : Rw} (h : letB r.c = false) : ruleB r = false := by unfold ruleB; rw [h]; simp
theorem rb_bra {r : Rw} (h : braB r.c = true) : ruleB r = false := by unfold ruleB; rw [h]; simp
theorem rb_lo {r : Rw} (h : r.ar < 0) : ruleB r = false := by unfold ruleB; rw [decide_eq_false (by omega : ¬ 0 ≤ r.ar)]; simp
theorem rb_hi {r : Rw} (h : 4 < r.ar) : ruleB r = false := by unfold ruleB; rw [decide_eq_false (by omega : ¬ r.ar ≤ 4)]; simp
theorem rb_gs {r : Rw} {k : Nat} (hk : k < r.gs.length) (h : formB r.gs[k] r.ar = false) : ruleB r = false := by
  have : r.gs.all (formB · r.ar) = false := by rw [List.all_eq_false]; exact ⟨_, List.getElem_mem hk, by rw [h]; simp⟩
  unfold ruleB; rw [this]; simp
theorem rb_out {r : Rw} {k : Nat} (hk : k < r.out.length) (h : shB r.out[k] r.ar = false) : ruleB r = false := by
  have : r.out.all (shB · r.ar) = false := by rw [List.all_eq_false]; exact ⟨_, List.getElem_mem hk, by rw [h]; simp⟩
  unfold ruleB; rw [this]; simp
theorem rb_chk {r : Rw} {b : Bool} (h1 : letB r.c = true) (h2 : braB r.c = false) (h3 : ¬ r.ar < 0) (h4 : ¬ 4 < r.ar) (h5 : ∀ k, (hk : k < r.gs.length) → formB r.gs[k] r.ar = true) (h6 : ∀ k, (hk : k < r.out.length) → shB r.out[k] r.ar = true) (h7 : decide (chk (r.out.map shM) = 0) = b) : ruleB r = b := by
  have a1 : r.gs.all (formB · r.ar) = true := by
    rw [List.all_eq_true]; intro x hx
    obtain ⟨j, hj, rfl⟩ := List.mem_iff_getElem.1 hx
    exact h5 j hj
  have a2 : r.out.all (shB · r.ar) = true := by
    rw [List.all_eq_true]; intro x hx
    obtain ⟨j, hj, rfl⟩ := List.mem_iff_getElem.1 hx
    exact h6 j hj
  unfold ruleB
  rw [h1, h2, a1, a2, h7, decide_eq_true (by omega : 0 ≤ r.ar), decide_eq_true (by omega : r.ar ≤ 4)]
  simp
theorem sh_no1 {s : Sh} {n : Int} (h : fineB (shM s) = false) : shB s n = false := by unfold shB; rw [h]; rfl
theorem sh_no2 {s : Sh} {n : Int} {k : Nat} (hk : k < s.a.length) (h : formB s.a[k] n = false) : shB s n = false := by
  have : s.a.all (formB · n) = false := by rw [List.all_eq_false]; exact ⟨_, List.getElem_mem hk, by rw [h]; simp⟩
  unfold shB; rw [this]; simp
theorem sh_yes {s : Sh} {n : Int} (h : fineB (shM s) = true) (h2 : ∀ k, (hk : k < s.a.length) → formB s.a[k] n = true) : shB s n = true := by
  have : s.a.all (formB · n) = true := by
    rw [List.all_eq_true]; intro x hx
    obtain ⟨j, hj, rfl⟩ := List.mem_iff_getElem.1 hx
    exact h2 j hj
  unfold shB; rw [h, this]; rfl
/-- Where the loop over Out stands. -/
structure FrAt (w0 : World) (out : List Sh) (ar : Int) (k : Nat) (v : Value) (wr : World) : Prop where
  hi : k ≤ out.length
  below : Below w0.heap.size w0 wr
  own : ∃ vs, ModFr wr w0.heap.size v ((out.take k).map shM) vs
  good : ∀ j, (h : j < out.length) → j < k → shB out[j] ar = true
/-- A module in a new block, and its args in another. -/
structure TwoBl (W1 W2 : World) (mb ib : Nat) (s : Sh) : Prop where
  below : Below W1.heap.size W1 W2
  mod : W2.heap[mb]? = some (.cells #[.int .u8 s.c.toNat, .slice (some ⟨ib, 0, none⟩) s.a.length s.a.length] 43 (0, 0))
  own : W2.ownsRow W1.heap.size 3 1 (.slice (some ⟨ib, 0, none⟩) s.a.length s.a.length) (shM s).a.length (valsL (shM s).a)
theorem zero_own (w : World) (n base : Nat) (hn : n ≤ 10) (hb : base ≤ w.heap.size) : (w.alloc (.cells (zeros n) 3)).ownsRow base 3 1 (.slice (some ⟨w.heap.size, 0, none⟩) n n) n (valsL (List.replicate n 0)) := by
  have h := World.ownsRow_lit (base := base) (e := 3) (size := 1) w (zeros n) n hb (by have : maxLen = 9223372036854775807 := rfl; omega) (by rw [zeros_size, Nat.mul_one])
  have e : (zeros n).toList = valsL (List.replicate n 0) := by
    apply List.ext_getElem
    · simp [zeros_size, valsL]
    · intro i h1 h2
      have h3 : i < n := by simpa [zeros_size] using h1
      have := zeros_at h3
      rw [Array.getElem?_eq_some_iff] at this
      obtain ⟨_, h4⟩ := this
      simp [valsL, h4]
  rw [e] at h; exact h
theorem twoBl_a (W1 : World) (s : Sh) (h : s.a.length ≤ 10) : TwoBl W1 ((W1.alloc (.cells (zeros s.a.length) 3)).alloc (.cells #[.int .u8 s.c.toNat, .slice (some ⟨W1.heap.size, 0, none⟩) s.a.length s.a.length] 43)).drew (W1.heap.size + 1) W1.heap.size s := by
  refine ⟨(((Below.refl _ _).alloc (Nat.le_refl _) _).alloc (by simp) _).drew, ?_, ?_⟩
  · have := heap_alloc_new (W1.alloc (.cells (zeros s.a.length) 3)) (.cells #[.int .u8 s.c.toNat, .slice (some ⟨W1.heap.size, 0, none⟩) s.a.length s.a.length] 43)
    rw [World.size_alloc] at this
    exact this
  · have h2 := (zero_own W1 s.a.length W1.heap.size h (Nat.le_refl _)).alloc (.cells #[.int .u8 s.c.toNat, .slice (some ⟨W1.heap.size, 0, none⟩) s.a.length s.a.length] 43)
    have e : (shM s).a.length = s.a.length := by simp [shM]
    rw [e]; exact h2
theorem twoBl_b (W1 : World) (s : Sh) (h : s.a.length ≤ 10) : TwoBl W1 ((W1.alloc (.cells #[.int .u8 s.c.toNat, .slice (some ⟨W1.heap.size + 1, 0, none⟩) s.a.length s.a.length] 43)).alloc (.cells (zeros s.a.length) 3)).drew W1.heap.size (W1.heap.size + 1) s := by
  refine ⟨(((Below.refl _ _).alloc (Nat.le_refl _) _).alloc (by simp) _).drew, ?_, ?_⟩
  · exact heap_alloc_old (heap_alloc_new W1 _) _
  · have h2 := zero_own (W1.alloc (.cells #[.int .u8 s.c.toNat, .slice (some ⟨W1.heap.size + 1, 0, none⟩) s.a.length s.a.length] 43)) s.a.length W1.heap.size h (by simp)
    have e : (shM s).a.length = s.a.length := by simp [shM]
    rw [e]
    rw [World.size_alloc] at h2
    exact h2
theorem u8_91 (c : UInt8) : ((c.toNat : Int) == 91) = (c == 91) := by rw [show (91 : Int) = ((91 : UInt8).toNat : Int) from rfl, u8_eq]
theorem u8_93 (c : UInt8) : ((c.toNat : Int) == 93) = (c == 93) := by rw [show (93 : Int) = ((93 : UInt8).toNat : Int) from rfl, u8_eq]
set_option maxRecDepth 100000 in
set_option maxHeartbeats 6400000 in
theorem fineR_out (r : Rw) (pg : Option Addr) (cg : Nat) (po : Option Addr) (co : Nat) (hs : RwSm r) (w : World) (h1 : Fms w (.slice pg r.gs.length cg) r.gs) (h2 : Shs w (.slice po r.out.length co) r.out) (c1 : letB r.c = true) (c2 : braB r.c = false) (c3 : ¬ r.ar < 0) (c4 : ¬ 4 < r.ar) :
    Calls Tryz.prog 33 #[.agg #[.int .u8 r.c.toNat, .int .i64 r.ar, .int .u8 r.l.toNat, .int .u8 r.r.toNat, .slice pg r.gs.length cg, .int .i64 r.wt, .slice po r.out.length co]] w fun e w' => e = .returned (.bool (ruleB r)) ∧ Below w.heap.size w w' := by
  obtain ⟨s1, s2, s3, s4⟩ := hs
  obtain ⟨W0, hW0⟩ : ∃ W, W = w.alloc (.cells #[.int .u8 r.c.toNat, .int .i64 r.ar, .int .u8 r.l.toNat, .int .u8 r.r.toNat, .slice pg r.gs.length cg, .int .i64 r.wt, .slice po r.out.length co] 38) := ⟨_, rfl⟩
  have N1 : W0.heap[w.heap.size]? = some (.cells #[.int .u8 r.c.toNat, .int .i64 r.ar, .int .u8 r.l.toNat, .int .u8 r.r.toNat, .slice pg r.gs.length cg, .int .i64 r.wt, .slice po r.out.length co] 38 (0, 0)) := by rw [hW0]; exact heap_alloc_new _ _
  have B0 : Below w.heap.size w W0 := by rw [hW0]; exact (Below.refl _ _).alloc (Nat.le_refl _) _
  have HB := Lib.hid B0
  have HG := Lib.hid (h1.later B0)
  have HO := Lib.hid (h2.later B0)
  have q0 : W0.cell? ⟨w.heap.size, 0, none⟩ = some (.int .u8 r.c.toNat) := by simp [World.cell?, N1]
  have q1 : W0.cell? ⟨w.heap.size, 1, none⟩ = some (.int .i64 r.ar) := by simp [World.cell?, N1]
  have q4 : W0.cell? ⟨w.heap.size, 4, none⟩ = some (.slice pg r.gs.length cg) := by simp [World.cell?, N1]
  have q6 : W0.cell? ⟨w.heap.size, 6, none⟩ = some (.slice po r.out.length co) := by simp [World.cell?, N1]
  have l0 := lt_of_block N1
  have KL := Lib.hid (fun w => letter_any r.c w)
  rw [c1] at KL
  have hbr : (r.c == 91) = false ∧ (r.c == 93) = false := by
    unfold braB at c2; simpa [Bool.or_eq_false_iff] using c2
  have t1 : ((r.c.toNat : Int) == 91) = false := by rw [u8_91]; exact hbr.1
  have t2 : ((r.c.toNat : Int) == 93) = false := by rw [u8_93]; exact hbr.2
  have HFin : Hid (∀ b, (∀ k, (hk : k < r.gs.length) → formB r.gs[k] r.ar = true) → (∀ k, (hk : k < r.out.length) → shB r.out[k] r.ar = true) → decide (chk (r.out.map shM) = 0) = b → ruleB r = b) := Lib.hid (fun b h5 h6 h7 => rb_chk c1 c2 c3 c4 h5 h6 h7)
  have S3 := Lib.hid s3
  have S4 := Lib.hid s4
  have HM : Hid (maxLen = 9223372036854775807) := Lib.hid rfl
  obtain ⟨j0, hj, hy0, hy1, hy2⟩ := info_parts info_mod
  clear N1 B0 h1 h2 c1 c2 hbr s3 s4
  obtain ⟨cn, hcn⟩ : ∃ cn : Nat, r.c.toNat = cn := ⟨_, rfl⟩
  rw [hcn] at KL hW0 q0 t1 t2 ⊢
  clear hcn
  go_enter Tryz.func33, Tryz.ntmps33
  go_wp2_with fail
  rw [← hW0]
  clear hW0
  go_wp2_with fail
  refine (KL.out _).mono ?_
  rintro e wx ⟨rfl, rfl⟩
  go_wp2_with fail
  go_loopw [3] (fun i wr => ∃ k : Nat, k ≤ r.gs.length ∧ i = .int .i64 k ∧ Below W0.heap.size W0 wr ∧ ∀ j, (hj : j < r.gs.length) → j < k → formB r.gs[j] r.ar = true) (fun i _ => r.gs.length - (intOf i).toNat)
  case atStart => exact ⟨0, Nat.zero_le _, rfl, Below.refl _ _, fun j _ h => by omega⟩
  case round =>
    rename World => wo
    obtain ⟨k, hk, rfl, hb, hok⟩ := hrel
    have HK := Lib.hid hok
    have HBr := Lib.hid hb
    have y1 := (hb.cell (p := ⟨w.heap.size, 1, none⟩) l0).trans q1
    have y4 := (hb.cell (p := ⟨w.heap.size, 4, none⟩) l0).trans q4
    clear hok hb
    by_cases hlt : k < r.gs.length
    · obtain ⟨b, off, cap', q, d, hp, e1, e2, hin, lb⟩ := (HG.out.later HBr.out).at hlt
      obtain rfl : pg = some ⟨b, off, none⟩ := by cases hp; rfl
      have k1 : (k : Int) < (r.gs.length : Int) := by omega
      have HCw : Hid (∀ (d' : Nat) (os : Array Obj), Calls Tryz.prog 46 #[.agg #[.int .i64 r.gs[k].k, .slice q r.gs[k].cs.length d], .int .i64 r.ar] («Sort».grow (redrawn wo d') os) fun e w' =>
          e = .returned (.bool (formB r.gs[k] r.ar)) ∧ Below («Sort».grow (redrawn wo d') os).heap.size («Sort».grow (redrawn wo d') os) w') :=
        Lib.hid (fun d' os => refform_any r.gs[k] _ r.ar (by have := S3.out _ (List.getElem_mem hlt); omega) _ (hin.later (below_regrown wo d' os)))
      obtain ⟨t, ht⟩ : ∃ t, formB r.gs[k] r.ar = t := ⟨_, rfl⟩
      have HT := Lib.hid ht
      rw [ht] at HCw
      obtain ⟨fk, hfk⟩ : ∃ fk, r.gs[k].k = fk := ⟨_, rfl⟩
      obtain ⟨fl, hfl⟩ : ∃ fl, r.gs[k].cs.length = fl := ⟨_, rfl⟩
      rw [hfk] at e1 HCw
      rw [hfl] at e2 HCw
      clear hp hin ht hfk hfl
      have r1 := fun d os => cell_regrown e1 d os
      have r2 := fun d os => cell_regrown e2 d os
      have r3 := fun d os => cell_regrown y1 d os
      have r4 := fun d os => cell_regrown y4 d os
      go_wp2_with fail
      refine wp_region_quiet_below (by kernel_rfl) (by kernel_rfl) ?_
      repeat (any_goals (first | go_big_quiet_step ((go_at_call 46; exact Calls.regrown_of (HCw.out _ _))) | quiet_step ((go_at_call 46; exact Calls.regrown_of (HCw.out _ _)))))
      refine wpQuiet_nil ?_
      intro _ hw'
      obtain ⟨⟨dq, osq⟩, hw''⟩ := hw'
      subst hw''
      have HB2 : Hid (Below W0.heap.size W0 («Sort».grow (redrawn wo dq) osq)) := Lib.hid (HBr.out.trans ((below_regrown wo dq osq).mono HBr.out.size))
      cases t with
      | false =>
        have HF := Lib.hid (rb_gs hlt HT.out)
        go_wp2_with fail
        go_ret
        exact ⟨ret_bool HF.out.symm, HB.out.trans (HB2.out.mono HB.out.size)⟩
      | true =>
        have HG2 : Hid (∀ j, (hj : j < r.gs.length) → j < k + 1 → formB r.gs[j] r.ar = true) := Lib.hid (fun j hj h => by
          rcases Nat.lt_or_eq_of_le (Nat.le_of_lt_succ h) with h1 | h1
          · exact HK.out j hj h1
          · subst h1; exact HT.out)
        go_wp2_with fail
        go_roundw
        case rel => exact ⟨k + 1, by omega, by go_num, HB2.out, HG2.out⟩
        case measure => simp [intOf]; omega
    · obtain rfl : k = r.gs.length := by omega
      have HGd : Hid (∀ k, (hk : k < r.gs.length) → formB r.gs[k] r.ar = true) := Lib.hid (fun i hi => HK.out i hi hi)
      clear HK
      have y6 := (HBr.out.cell (p := ⟨w.heap.size, 6, none⟩) l0).trans q6
      have F0 : Hid (FrAt W0 r.out r.ar 0 (.slice none 0 0) wo) := Lib.hid ⟨Nat.zero_le _, HBr.out, ⟨[], by simpa using modFr_nil wo W0.heap.size⟩, fun j _ h => by omega⟩
      go_wp2_with fail
      go_loopw [4, 5] (fun v i wr => ∃ k : Nat, i = .int .i64 k ∧ FrAt W0 r.out r.ar k v wr) (fun _ i _ => r.out.length - (intOf i).toNat)
      case atStart => exact ⟨0, rfl, F0.out⟩
      case round =>
        rename World => wi
        obtain ⟨k, rfl, hS⟩ := hrel
        have HS := Lib.hid hS
        have hsz := hS.below.size
        have hko := hS.hi
        have z1 := (hS.below.cell (p := ⟨w.heap.size, 1, none⟩) l0).trans q1
        have z6 := (hS.below.cell (p := ⟨w.heap.size, 6, none⟩) l0).trans q6
        have li : w.heap.size < wi.heap.size := Nat.lt_of_lt_of_le l0 hsz
        clear hS
        by_cases hlt : k < r.out.length
        · obtain ⟨b, off, cap', q, d, hp, e1, e2, hin, lb⟩ := (HO.out.later HS.out.below).at hlt
          obtain rfl : po = some ⟨b, off, none⟩ := by cases hp; rfl
          have k1 : (k : Int) < (r.out.length : Int) := by omega
          obtain ⟨a10, ac10⟩ := S4.out _ (List.getElem_mem hlt)
          have HI := Lib.hid hin
          have HAc := Lib.hid ac10
          obtain ⟨vs, hM⟩ := HS.out.own
          have HMF := Lib.hid hM
          obtain ⟨s, hs⟩ : ∃ s, r.out[k] = s := ⟨_, rfl⟩
          have HSe := Lib.hid hs
          rw [hs] at e1 e2 HI HAc a10
          obtain ⟨W1, hW1⟩ : ∃ W, W = wi.alloc (.cells #[.int .u8 s.c.toNat, .slice q s.a.length d] 45) := ⟨_, rfl⟩
          have N1 : W1.heap[wi.heap.size]? = some (.cells #[.int .u8 s.c.toNat, .slice q s.a.length d] 45 (0, 0)) := by rw [hW1]; exact heap_alloc_new _ _
          have b1 : Below wi.heap.size wi W1 := by rw [hW1]; exact (Below.refl _ _).alloc (Nat.le_refl _) _
          have E1 := Lib.hid b1
          have hz1 := b1.size
          have p0 := cell_two0 N1
          have p1 := cell_two1 N1
          have lp := lt_of_block N1
          have hmk := made_run s.a.length (by omega)
          clear hp hin hM hs N1 b1 ac10
          go_wp2_with fail
          rw [← hW1]
          clear hW1
          go_wp2_with fail
          go_region
          · obtain ⟨W2, hW2⟩ : ∃ W, W = ((W1.alloc (.cells (zeros s.a.length) 3)).alloc (.cells #[.int .u8 s.c.toNat, .slice (some ⟨W1.heap.size, 0, none⟩) s.a.length s.a.length] 43)).drew := ⟨_, rfl⟩
            have hT : TwoBl W1 W2 (W1.heap.size + 1) (W1.heap.size) s := by rw [hW2]; exact twoBl_a W1 s a10
            have HT2 := Lib.hid hT
            have b2 : Below wi.heap.size wi W2 := E1.out.trans (hT.below.mono hz1)
            have E2 := Lib.hid b2
            have hz2 := b2.size
            have x1 := (hT.below.cell (p := ⟨w.heap.size, 1, none⟩) (show w.heap.size < W1.heap.size by omega)).trans ((E1.out.cell (p := ⟨w.heap.size, 1, none⟩) li).trans z1)
            have v1 := (hT.below.cell (p := ⟨wi.heap.size, 1, none⟩) lp).trans p1
            have u0 := cell_two0 hT.mod
            have u1 := cell_two1 hT.mod
            have lm := lt_of_block hT.mod
            have KI : Hid (Calls Tryz.prog 34 #[.agg #[.int .u8 s.c.toNat, .slice (some ⟨W1.heap.size, 0, none⟩) s.a.length s.a.length]] W2 fun e w' => e = .returned (.bool (fineB (shM s))) ∧ Below W2.heap.size W2 w') :=
              Lib.hid (fine_any (shM s) _ (by simp [shM]; omega) W2 (ints_of_owned hT.own))
            obtain ⟨n, hn⟩ : ∃ n, s.a.length = n := ⟨_, rfl⟩
            have HN := Lib.hid hn
            obtain ⟨sc, hsc⟩ : ∃ sc : Nat, s.c.toNat = sc := ⟨_, rfl⟩
            have HSc := Lib.hid hsc
            rw [← hW2]
            clear hT b2 hW2
            rw [hn] at u1 v1 KI a10 e2 p1
            rw [hsc] at u0 KI e1 p0
            clear hn hsc
            cases hf : fineB (shM s) with
            | false =>
              rw [hf] at KI
              have HF := Lib.hid (rb_out hlt (by rw [HSe.out]; exact sh_no1 hf))
              clear hf
              go_wp2_with fail
              refine KI.out.mono ?_
              rintro e w3 ⟨rfl, hb⟩
              have B3 := Lib.hid (HB.out.trans ((HS.out.below.trans ((E2.out.trans (hb.mono hz2)).mono hsz)).mono HB.out.size))
              clear hb
              go_wp2_with fail
              go_ret
              exact ⟨ret_bool HF.out.symm, B3.out⟩
            | true =>
              rw [hf] at KI
              have HFi := Lib.hid hf
              clear hf
              go_wp2_with fail
              refine KI.out.mono ?_
              rintro e w3 ⟨rfl, hb⟩
              have E3 := Lib.hid hb
              clear hb
              go_wp2_with fail
              go_loopw [8] (fun i wr => ∃ j : Nat, j ≤ n ∧ i = .int .i64 j ∧ Below W2.heap.size W2 wr ∧ ∀ j', (hj : j' < s.a.length) → j' < j → formB s.a[j'] r.ar = true) (fun i _ => n - (intOf i).toNat)
              case atStart => exact ⟨0, Nat.zero_le _, rfl, E3.out, fun j _ h => by omega⟩
              case round =>
                rename World => wn
                obtain ⟨j, hjn, rfl, hb, hok⟩ := hrel
                have HJ := Lib.hid hok
                have HBn := Lib.hid hb
                have hbz := hb.size
                have x1n := (hb.cell (p := ⟨w.heap.size, 1, none⟩) (show w.heap.size < W2.heap.size by have := HT2.out.below.size; omega)).trans x1
                have v1n := (hb.cell (p := ⟨wi.heap.size, 1, none⟩) (show wi.heap.size < W2.heap.size by have := HT2.out.below.size; omega)).trans v1
                have u0n := (hb.cell (p := ⟨W1.heap.size + 1, 0, none⟩) lm).trans u0
                have u1n := (hb.cell (p := ⟨W1.heap.size + 1, 1, none⟩) lm).trans u1
                have HBi : Hid (Below wi.heap.size wi wn) := Lib.hid (E2.out.trans (hb.mono hz2))
                clear hok hb
                by_cases hjl : j < s.a.length
                · obtain ⟨bg, og, cgp, qf, df, hp, f0, f1, hin, lg⟩ := (HI.out.later HBi.out).at hjl
                  obtain rfl : q = some ⟨bg, og, none⟩ := by cases hp; rfl
                  have j1 : (j : Int) < (n : Int) := by have := HN.out; omega
                  have HCw : Hid (∀ (d' : Nat) (os : Array Obj), Calls Tryz.prog 46 #[.agg #[.int .i64 s.a[j].k, .slice qf s.a[j].cs.length df], .int .i64 r.ar] («Sort».grow (redrawn wn d') os) fun e w' =>
                      e = .returned (.bool (formB s.a[j] r.ar)) ∧ Below («Sort».grow (redrawn wn d') os).heap.size («Sort».grow (redrawn wn d') os) w') :=
                    Lib.hid (fun d' os => refform_any s.a[j] _ r.ar (by have := HAc.out _ (List.getElem_mem hjl); omega) _ (hin.later (below_regrown wn d' os)))
                  obtain ⟨t, ht⟩ : ∃ t, formB s.a[j] r.ar = t := ⟨_, rfl⟩
                  have HT := Lib.hid ht
                  rw [ht] at HCw
                  obtain ⟨fk, hfk⟩ : ∃ fk, s.a[j].k = fk := ⟨_, rfl⟩
                  obtain ⟨fl, hfl⟩ : ∃ fl, s.a[j].cs.length = fl := ⟨_, rfl⟩
                  rw [hfk] at f0 HCw
                  rw [hfl] at f1 HCw
                  clear hp hin ht hfk hfl
                  have r1 := fun d os => cell_regrown f0 d os
                  have r2 := fun d os => cell_regrown f1 d os
                  have r3 := fun d os => cell_regrown x1n d os
                  have r4 := fun d os => cell_regrown v1n d os
                  go_wp2_with fail
                  refine wp_region_quiet_below (by kernel_rfl) (by kernel_rfl) ?_
                  repeat (any_goals (first | go_big_quiet_step ((go_at_call 46; exact Calls.regrown_of (HCw.out _ _))) | quiet_step ((go_at_call 46; exact Calls.regrown_of (HCw.out _ _)))))
                  refine wpQuiet_nil ?_
                  intro _ hw'
                  obtain ⟨⟨dq, osq⟩, hw''⟩ := hw'
                  subst hw''
                  have HBq : Hid (Below W2.heap.size W2 («Sort».grow (redrawn wn dq) osq)) := Lib.hid (HBn.out.trans ((below_regrown wn dq osq).mono hbz))
                  cases t with
                  | false =>
                    have HF := Lib.hid (rb_out hlt (by rw [HSe.out]; exact sh_no2 hjl HT.out))
                    have HBw := Lib.hid (HB.out.trans ((HS.out.below.trans ((E2.out.trans (HBq.out.mono hz2)).mono hsz)).mono HB.out.size))
                    go_wp2_with fail
                    go_ret
                    exact ⟨ret_bool HF.out.symm, HBw.out⟩
                  | true =>
                    have HG2 : Hid (∀ j', (hj : j' < s.a.length) → j' < j + 1 → formB s.a[j'] r.ar = true) := Lib.hid (fun j' hj h => by
                      rcases Nat.lt_or_eq_of_le (Nat.le_of_lt_succ h) with h1 | h1
                      · exact HJ.out j' hj h1
                      · subst h1; exact HT.out)
                    go_wp2_with fail
                    go_roundw
                    case rel => exact ⟨j + 1, by have := HN.out; omega, by go_num, HBq.out, HG2.out⟩
                    case measure => have := HN.out; simp [intOf]; omega
                · have j1 : ¬ (j : Int) < (n : Int) := by have := HN.out; omega
                  have hdl : ((r.out.take k).map shM).length = k := by rw [List.length_map, List.length_take]; omega
                  have HD := Lib.hid hdl
                  have BX : Hid (Below wi.heap.size wi (wn.alloc (.cells #[.int .u8 sc, .slice (some ⟨W1.heap.size, 0, none⟩) n n] 43))) := Lib.hid (HBi.out.alloc HBi.out.size _)
                  have P5 := Lib.hid (l_own_later HMF.out.row BX.out)
                  rw [hdl] at P5
                  have A5 : Hid ((wn.alloc (.cells #[.int .u8 sc, .slice (some ⟨W1.heap.size, 0, none⟩) n n] 43)).ownsRow wi.heap.size 3 1 (.slice (some ⟨W1.heap.size, 0, none⟩) n n) (shM s).a.length (valsL (shM s).a)) := Lib.hid (by
                    have h := (owns_mono (l_own_later HT2.out.own HBn.out) hz1).alloc (.cells #[.int .u8 sc, .slice (some ⟨W1.heap.size, 0, none⟩) n n] 43)
                    rw [HN.out] at h; exact h)
                  have HSn : Hid ((r.out.take (k + 1)).map shM = (r.out.take k).map shM ++ [shM s]) := Lib.hid (by rw [List.take_succ_eq_append_getElem hlt, List.map_append, HSe.out]; rfl)
                  have HGo : Hid (∀ j, (h : j < r.out.length) → j < k + 1 → shB r.out[j] r.ar = true) := Lib.hid (fun j' hj h => by
                    rcases Nat.lt_or_eq_of_le (Nat.le_of_lt_succ h) with h3 | h3
                    · exact HS.out.good j' hj h3
                    · subst h3; rw [HSe.out]; exact sh_yes HFi.out (fun i hi => HJ.out i hi (by omega)))
                  clear hdl
                  obtain ⟨ds, hds⟩ : ∃ ds, (r.out.take k).map shM = ds := ⟨_, rfl⟩
                  rw [hds] at HMF HD P5 HSn
                  clear hds
                  have hzn := HBi.out.size
                  go_wp2_with (at_builtin; refine wpList_append_own_at _ rfl _ _ 23 rfl W0.heap.size 43 j0 (.agg #[.int .u8 0, .slice none 0 0]) 2 32 Tryz.underlying23 hj hy0 hy1 hy2 rfl (by decide) u4 k (modC ds vs) rfl P5.out ⟨wn.heap.size, 0, none⟩ 1 1 [.int .u8 sc, .slice (some ⟨W1.heap.size, 0, none⟩) n n] rfl rfl (two_new _ _ _ _) (by simp [Value.oneCell']) (by rw [HM.out]; omega) (by omega) (by simp; omega) ?_; intro v2 w5 ho2 hg2 hn2 hb2)
                  have M5 := Lib.hid (modFr_snoc (m := shM s) HMF.out hsz BX.out A5.out (by rw [HD.out]; have e := HSc.out; subst e; exact ho2) hg2 hb2)
                  have BW : Hid (Below W0.heap.size W0 w5) := Lib.hid ((HS.out.below.trans (BX.out.mono hsz)).grown hg2 (by have := BX.out.size; omega) (fun j e => (owns_lt HMF.out.row j e).1))
                  have HT : Hid (FrAt W0 r.out r.ar (k + 1) v2 w5) := Lib.hid ⟨by omega, BW.out, ⟨_, by rw [HSn.out]; exact M5.out⟩, HGo.out⟩
                  clear ho2 hg2 hn2 hb2
                  go_wp2_with fail
                  go_roundw
                  case rel => exact ⟨k + 1, by go_num, HT.out⟩
                  case measure => simp [intOf]; omega
          · obtain ⟨W2, hW2⟩ : ∃ W, W = ((W1.alloc (.cells #[.int .u8 s.c.toNat, .slice (some ⟨W1.heap.size + 1, 0, none⟩) s.a.length s.a.length] 43)).alloc (.cells (zeros s.a.length) 3)).drew := ⟨_, rfl⟩
            have hT : TwoBl W1 W2 (W1.heap.size) (W1.heap.size + 1) s := by rw [hW2]; exact twoBl_b W1 s a10
            have HT2 := Lib.hid hT
            have b2 : Below wi.heap.size wi W2 := E1.out.trans (hT.below.mono hz1)
            have E2 := Lib.hid b2
            have hz2 := b2.size
            have x1 := (hT.below.cell (p := ⟨w.heap.size, 1, none⟩) (show w.heap.size < W1.heap.size by omega)).trans ((E1.out.cell (p := ⟨w.heap.size, 1, none⟩) li).trans z1)
            have v1 := (hT.below.cell (p := ⟨wi.heap.size, 1, none⟩) lp).trans p1
            have u0 := cell_two0 hT.mod
            have u1 := cell_two1 hT.mod
            have lm := lt_of_block hT.mod
            have KI : Hid (Calls Tryz.prog 34 #[.agg #[.int .u8 s.c.toNat, .slice (some ⟨W1.heap.size + 1, 0, none⟩) s.a.length s.a.length]] W2 fun e w' => e = .returned (.bool (fineB (shM s))) ∧ Below W2.heap.size W2 w') :=
              Lib.hid (fine_any (shM s) _ (by simp [shM]; omega) W2 (ints_of_owned hT.own))
            obtain ⟨n, hn⟩ : ∃ n, s.a.length = n := ⟨_, rfl⟩
            have HN := Lib.hid hn
            obtain ⟨sc, hsc⟩ : ∃ sc : Nat, s.c.toNat = sc := ⟨_, rfl⟩
            have HSc := Lib.hid hsc
            rw [← hW2]
            clear hT b2 hW2
            rw [hn] at u1 v1 KI a10 e2 p1
            rw [hsc] at u0 KI e1 p0
            clear hn hsc
            cases hf : fineB (shM s) with
            | false =>
              rw [hf] at KI
              have HF := Lib.hid (rb_out hlt (by rw [HSe.out]; exact sh_no1 hf))
              clear hf
              go_wp2_with fail
              refine KI.out.mono ?_
              rintro e w3 ⟨rfl, hb⟩
              have B3 := Lib.hid (HB.out.trans ((HS.out.below.trans ((E2.out.trans (hb.mono hz2)).mono hsz)).mono HB.out.size))
              clear hb
              go_wp2_with fail
              go_ret
              exact ⟨ret_bool HF.out.symm, B3.out⟩
            | true =>
              rw [hf] at KI
              have HFi := Lib.hid hf
              clear hf
              go_wp2_with fail
              refine KI.out.mono ?_
              rintro e w3 ⟨rfl, hb⟩
              have E3 := Lib.hid hb
              clear hb
              go_wp2_with fail
              go_loopw [8] (fun i wr => ∃ j : Nat, j ≤ n ∧ i = .int .i64 j ∧ Below W2.heap.size W2 wr ∧ ∀ j', (hj : j' < s.a.length) → j' < j → formB s.a[j'] r.ar = true) (fun i _ => n - (intOf i).toNat)
              case atStart => exact ⟨0, Nat.zero_le _, rfl, E3.out, fun j _ h => by omega⟩
              case round =>
                rename World => wn
                obtain ⟨j, hjn, rfl, hb, hok⟩ := hrel
                have HJ := Lib.hid hok
                have HBn := Lib.hid hb
                have hbz := hb.size
                have x1n := (hb.cell (p := ⟨w.heap.size, 1, none⟩) (show w.heap.size < W2.heap.size by have := HT2.out.below.size; omega)).trans x1
                have v1n := (hb.cell (p := ⟨wi.heap.size, 1, none⟩) (show wi.heap.size < W2.heap.size by have := HT2.out.below.size; omega)).trans v1
                have u0n := (hb.cell (p := ⟨W1.heap.size, 0, none⟩) lm).trans u0
                have u1n := (hb.cell (p := ⟨W1.heap.size, 1, none⟩) lm).trans u1
                have HBi : Hid (Below wi.heap.size wi wn) := Lib.hid (E2.out.trans (hb.mono hz2))
                clear hok hb
                by_cases hjl : j < s.a.length
                · obtain ⟨bg, og, cgp, qf, df, hp, f0, f1, hin, lg⟩ := (HI.out.later HBi.out).at hjl
                  obtain rfl : q = some ⟨bg, og, none⟩ := by cases hp; rfl
                  have j1 : (j : Int) < (n : Int) := by have := HN.out; omega
                  have HCw : Hid (∀ (d' : Nat) (os : Array Obj), Calls Tryz.prog 46 #[.agg #[.int .i64 s.a[j].k, .slice qf s.a[j].cs.length df], .int .i64 r.ar] («Sort».grow (redrawn wn d') os) fun e w' =>
                      e = .returned (.bool (formB s.a[j] r.ar)) ∧ Below («Sort».grow (redrawn wn d') os).heap.size («Sort».grow (redrawn wn d') os) w') :=
                    Lib.hid (fun d' os => refform_any s.a[j] _ r.ar (by have := HAc.out _ (List.getElem_mem hjl); omega) _ (hin.later (below_regrown wn d' os)))
                  obtain ⟨t, ht⟩ : ∃ t, formB s.a[j] r.ar = t := ⟨_, rfl⟩
                  have HT := Lib.hid ht
                  rw [ht] at HCw
                  obtain ⟨fk, hfk⟩ : ∃ fk, s.a[j].k = fk := ⟨_, rfl⟩
                  obtain ⟨fl, hfl⟩ : ∃ fl, s.a[j].cs.length = fl := ⟨_, rfl⟩
                  rw [hfk] at f0 HCw
                  rw [hfl] at f1 HCw
                  clear hp hin ht hfk hfl
                  have r1 := fun d os => cell_regrown f0 d os
                  have r2 := fun d os => cell_regrown f1 d os
                  have r3 := fun d os => cell_regrown x1n d os
                  have r4 := fun d os => cell_regrown v1n d os
                  go_wp2_with fail
                  refine wp_region_quiet_below (by kernel_rfl) (by kernel_rfl) ?_
                  repeat (any_goals (first | go_big_quiet_step ((go_at_call 46; exact Calls.regrown_of (HCw.out _ _))) | quiet_step ((go_at_call 46; exact Calls.regrown_of (HCw.out _ _)))))
                  refine wpQuiet_nil ?_
                  intro _ hw'
                  obtain ⟨⟨dq, osq⟩, hw''⟩ := hw'
                  subst hw''
                  have HBq : Hid (Below W2.heap.size W2 («Sort».grow (redrawn wn dq) osq)) := Lib.hid (HBn.out.trans ((below_regrown wn dq osq).mono hbz))
                  cases t with
                  | false =>
                    have HF := Lib.hid (rb_out hlt (by rw [HSe.out]; exact sh_no2 hjl HT.out))
                    have HBw := Lib.hid (HB.out.trans ((HS.out.below.trans ((E2.out.trans (HBq.out.mono hz2)).mono hsz)).mono HB.out.size))
                    go_wp2_with fail
                    go_ret
                    exact ⟨ret_bool HF.out.symm, HBw.out⟩
                  | true =>
                    have HG2 : Hid (∀ j', (hj : j' < s.a.length) → j' < j + 1 → formB s.a[j'] r.ar = true) := Lib.hid (fun j' hj h => by
                      rcases Nat.lt_or_eq_of_le (Nat.le_of_lt_succ h) with h1 | h1
                      · exact HJ.out j' hj h1
                      · subst h1; exact HT.out)
                    go_wp2_with fail
                    go_roundw
                    case rel => exact ⟨j + 1, by have := HN.out; omega, by go_num, HBq.out, HG2.out⟩
                    case measure => have := HN.out; simp [intOf]; omega
                · have j1 : ¬ (j : Int) < (n : Int) := by have := HN.out; omega
                  have hdl : ((r.out.take k).map shM).length = k := by rw [List.length_map, List.length_take]; omega
                  have HD := Lib.hid hdl
                  have BX : Hid (Below wi.heap.size wi (wn.alloc (.cells #[.int .u8 sc, .slice (some ⟨W1.heap.size + 1, 0, none⟩) n n] 43))) := Lib.hid (HBi.out.alloc HBi.out.size _)
                  have P5 := Lib.hid (l_own_later HMF.out.row BX.out)
                  rw [hdl] at P5
                  have A5 : Hid ((wn.alloc (.cells #[.int .u8 sc, .slice (some ⟨W1.heap.size + 1, 0, none⟩) n n] 43)).ownsRow wi.heap.size 3 1 (.slice (some ⟨W1.heap.size + 1, 0, none⟩) n n) (shM s).a.length (valsL (shM s).a)) := Lib.hid (by
                    have h := (owns_mono (l_own_later HT2.out.own HBn.out) hz1).alloc (.cells #[.int .u8 sc, .slice (some ⟨W1.heap.size + 1, 0, none⟩) n n] 43)
                    rw [HN.out] at h; exact h)
                  have HSn : Hid ((r.out.take (k + 1)).map shM = (r.out.take k).map shM ++ [shM s]) := Lib.hid (by rw [List.take_succ_eq_append_getElem hlt, List.map_append, HSe.out]; rfl)
                  have HGo : Hid (∀ j, (h : j < r.out.length) → j < k + 1 → shB r.out[j] r.ar = true) := Lib.hid (fun j' hj h => by
                    rcases Nat.lt_or_eq_of_le (Nat.le_of_lt_succ h) with h3 | h3
                    · exact HS.out.good j' hj h3
                    · subst h3; rw [HSe.out]; exact sh_yes HFi.out (fun i hi => HJ.out i hi (by omega)))
                  clear hdl
                  obtain ⟨ds, hds⟩ : ∃ ds, (r.out.take k).map shM = ds := ⟨_, rfl⟩
                  rw [hds] at HMF HD P5 HSn
                  clear hds
                  have hzn := HBi.out.size
                  go_wp2_with (at_builtin; refine wpList_append_own_at _ rfl _ _ 23 rfl W0.heap.size 43 j0 (.agg #[.int .u8 0, .slice none 0 0]) 2 32 Tryz.underlying23 hj hy0 hy1 hy2 rfl (by decide) u4 k (modC ds vs) rfl P5.out ⟨wn.heap.size, 0, none⟩ 1 1 [.int .u8 sc, .slice (some ⟨W1.heap.size + 1, 0, none⟩) n n] rfl rfl (two_new _ _ _ _) (by simp [Value.oneCell']) (by rw [HM.out]; omega) (by omega) (by simp; omega) ?_; intro v2 w5 ho2 hg2 hn2 hb2)
                  have M5 := Lib.hid (modFr_snoc (m := shM s) HMF.out hsz BX.out A5.out (by rw [HD.out]; have e := HSc.out; subst e; exact ho2) hg2 hb2)
                  have BW : Hid (Below W0.heap.size W0 w5) := Lib.hid ((HS.out.below.trans (BX.out.mono hsz)).grown hg2 (by have := BX.out.size; omega) (fun j e => (owns_lt HMF.out.row j e).1))
                  have HT : Hid (FrAt W0 r.out r.ar (k + 1) v2 w5) := Lib.hid ⟨by omega, BW.out, ⟨_, by rw [HSn.out]; exact M5.out⟩, HGo.out⟩
                  clear ho2 hg2 hn2 hb2
                  go_wp2_with fail
                  go_roundw
                  case rel => exact ⟨k + 1, by go_num, HT.out⟩
                  case measure => simp [intOf]; omega
        · obtain rfl : k = r.out.length := by omega
          obtain ⟨vs, hM⟩ := HS.out.own
          rw [List.take_length] at hM
          have KC := Lib.hid (check_any _ (r.out.map shM) (by rw [List.length_map]; omega) (fun m hm => by
            obtain ⟨x, hx, rfl⟩ := List.mem_map.1 hm
            have := (S4.out x hx).1
            simpa [shM] using this) wi hM.mods)
          have HF := Lib.hid (fun b h => HFin.out b HGd.out (fun i hi => HS.out.good i hi hi) h)
          obtain ⟨x, hx⟩ : ∃ x, chk (r.out.map shM) = x := ⟨_, rfl⟩
          rw [hx] at KC HF
          obtain ⟨pu, cu, hu⟩ := hM.mods.slice
          rw [List.length_map] at hu
          subst hu
          clear hM hx
          go_wp2_with fail
          refine KC.out.mono ?_
          rintro e w3 ⟨rfl, hb⟩
          have B3 := Lib.hid (HB.out.trans ((HS.out.below.trans (hb.mono hsz)).mono HB.out.size))
          clear hb
          go_wp2_with fail
          go_ret
          exact ⟨ret_bool (by rw [HF.out (decide (x = 0)) rfl]; rw [Bool.eq_iff_iff, beq_iff_eq, decide_eq_true_iff]), B3.out⟩
set_option maxRecDepth 100000 in
set_option maxHeartbeats 3200000 in
theorem fineR_any : FineR := by
  intro r gv ov w hs h1 h2
  obtain ⟨pg, cg, rfl⟩ := h1.slice
  obtain ⟨po, co, rfl⟩ := h2.slice
  unfold rwV
  by_cases hmain : letB r.c = true ∧ braB r.c = false ∧ ¬ r.ar < 0 ∧ ¬ 4 < r.ar
  · obtain ⟨c1, c2, c3, c4⟩ := hmain
    exact fineR_out r pg cg po co hs w h1 h2 c1 c2 c3 c4
  obtain ⟨W0, hW0⟩ : ∃ W, W = w.alloc (.cells #[.int .u8 r.c.toNat, .int .i64 r.ar, .int .u8 r.l.toNat, .int .u8 r.r.toNat, .slice pg r.gs.length cg, .int .i64 r.wt, .slice po r.out.length co] 38) := ⟨_, rfl⟩
  have N1 : W0.heap[w.heap.size]? = some (.cells #[.int .u8 r.c.toNat, .int .i64 r.ar, .int .u8 r.l.toNat, .int .u8 r.r.toNat, .slice pg r.gs.length cg, .int .i64 r.wt, .slice po r.out.length co] 38 (0, 0)) := by rw [hW0]; exact heap_alloc_new _ _
  have B0 : Below w.heap.size w W0 := by rw [hW0]; exact (Below.refl _ _).alloc (Nat.le_refl _) _
  have HB := Lib.hid B0
  have q0 : W0.cell? ⟨w.heap.size, 0, none⟩ = some (.int .u8 r.c.toNat) := by simp [World.cell?, N1]
  have q1 : W0.cell? ⟨w.heap.size, 1, none⟩ = some (.int .i64 r.ar) := by simp [World.cell?, N1]
  have KL := Lib.hid (fun w => letter_any r.c w)
  have e91 := u8_91 r.c
  have e93 := u8_93 r.c
  clear N1 B0 h1 h2
  cases c1 : letB r.c with
  | false =>
    have HF := Lib.hid (rb_let c1)
    rw [c1] at KL
    clear c1 hmain e91 e93
    generalize r.c.toNat = cn at KL hW0 q0 ⊢
    go_enter Tryz.func33, Tryz.ntmps33
    go_wp2_with fail
    rw [← hW0]
    clear hW0
    go_wp2_with fail
    refine (KL.out _).mono ?_
    rintro e wx ⟨rfl, rfl⟩
    go_wp2_with fail
    go_ret
    exact ⟨ret_bool HF.out.symm, HB.out⟩
  | true =>
    rw [c1] at KL
    cases t1 : ((r.c.toNat : Int) == 91) with
    | true =>
      have HF := Lib.hid (rb_bra (r := r) (by unfold braB; rw [← e91, t1]; rfl))
      clear c1 hmain e91 e93
      generalize r.c.toNat = cn at KL hW0 q0 t1 ⊢
      go_enter Tryz.func33, Tryz.ntmps33
      go_wp2_with fail
      rw [← hW0]
      clear hW0
      go_wp2_with fail
      refine (KL.out _).mono ?_
      rintro e wx ⟨rfl, rfl⟩
      go_wp2_with fail
      go_ret
      exact ⟨ret_bool HF.out.symm, HB.out⟩
    | false =>
      cases t2 : ((r.c.toNat : Int) == 93) with
      | true =>
        have HF := Lib.hid (rb_bra (r := r) (by unfold braB; rw [← e93, t2]; simp))
        clear c1 hmain e91 e93
        generalize r.c.toNat = cn at KL hW0 q0 t1 t2 ⊢
        go_enter Tryz.func33, Tryz.ntmps33
        go_wp2_with fail
        rw [← hW0]
        clear hW0
        go_wp2_with fail
        refine (KL.out _).mono ?_
        rintro e wx ⟨rfl, rfl⟩
        go_wp2_with fail
        go_ret
        exact ⟨ret_bool HF.out.symm, HB.out⟩
      | false =>
        have hb : braB r.c = false := by unfold braB; rw [← e91, ← e93, t1, t2]; rfl
        by_cases a1 : r.ar < 0
        · have HF := Lib.hid (rb_lo a1)
          clear c1 hmain e91 e93 hb
          generalize r.c.toNat = cn at KL hW0 q0 t1 t2 ⊢
          generalize r.ar = ar at hW0 q1 a1 ⊢
          go_enter Tryz.func33, Tryz.ntmps33
          go_wp2_with fail
          rw [← hW0]
          clear hW0
          go_wp2_with fail
          refine (KL.out _).mono ?_
          rintro e wx ⟨rfl, rfl⟩
          go_wp2_with fail
          go_ret
          exact ⟨ret_bool HF.out.symm, HB.out⟩
        · by_cases a2 : 4 < r.ar
          · have HF := Lib.hid (rb_hi a2)
            clear c1 hmain e91 e93 hb
            generalize r.c.toNat = cn at KL hW0 q0 t1 t2 ⊢
            generalize r.ar = ar at hW0 q1 a1 a2 ⊢
            go_enter Tryz.func33, Tryz.ntmps33
            go_wp2_with fail
            rw [← hW0]
            clear hW0
            go_wp2_with fail
            refine (KL.out _).mono ?_
            rintro e wx ⟨rfl, rfl⟩
            go_wp2_with fail
            go_ret
            exact ⟨ret_bool HF.out.symm, HB.out⟩
          · exact absurd ⟨c1, hb, a1, a2⟩ hmain
end Go.Proofs.YtkjjehnfibfngaaGreatDoor
namespace Go.Proofs.YtkjjehnfibfngaaGreatDoor
open Go.RowKit
open WM RM
set_option linter.unusedVariables false
set_option linter.unusedSimpArgs false

theorem giv_sm : ∀ r ∈ givR, RwSm r := by
  intro r hr
  have : r = givR[0] ∨ r = givR[1] := by simpa [givR] using hr
  rcases this with rfl | rfl
  · refine ⟨by decide, by decide, ?_, ?_⟩
    · intro f hf
      have : ∀ f ∈ givR[0].gs, f.cs.length ≤ 10 := by decide
      exact this f hf
    · intro s hs
      have h1 : ∀ s ∈ givR[0].out, s.a.length ≤ 10 := by decide
      have h2 : ∀ s ∈ givR[0].out, ∀ f ∈ s.a, f.cs.length ≤ 10 := by decide
      exact ⟨h1 s hs, h2 s hs⟩
  · refine ⟨by decide, by decide, ?_, ?_⟩
    · intro f hf
      have : ∀ f ∈ givR[1].gs, f.cs.length ≤ 10 := by decide
      exact this f hf
    · intro s hs
      have h1 : ∀ s ∈ givR[1].out, s.a.length ≤ 10 := by decide
      have h2 : ∀ s ∈ givR[1].out, ∀ f ∈ s.a, f.cs.length ≤ 10 := by decide
      exact ⟨h1 s hs, h2 s hs⟩
set_option maxRecDepth 100000 in
set_option maxHeartbeats 1600000 in
theorem becomes_any (s t : ByteArray) (n : Int) (u d : List Md) (hs : s.size ≤ 1000) (hu : u.length ≤ 1000) (hua : ∀ m ∈ u, m.a.length ≤ 1000) (hd : d.length ≤ 1000) (hda : ∀ m ∈ d, m.a.length ≤ 1000) (h1 : pC (lA s) = 0 ∧ pL (lA s) = u) (h2 : ruC givR u n = 0 ∧ ruL givR u n = d) (h3 : tC d = 0 ∧ tS d = lA t) (w : World) (he : Env w) :
    Calls Tryz.prog 21 #[.string s, .int .i64 n, .string t] w fun e w' => e = .returned (.bool true) ∧ Below w.heap.size w w' := by
  have HE := Lib.hid he
  have KP := Lib.hid (fun w he => pparse_any s (by omega) w he)
  unfold PsEnd at KP
  rw [h1.1, h1.2] at KP
  have KG := Lib.hid givn_any
  have KR := Lib.hid (fun v wv w hv hw hn => prun_any v givR (by decide) giv_sm wv u (by omega) (fun m hm => by have := hua m hm; omega) n w hv hw hn)
  unfold PuEnd at KR
  rw [h2.1, h2.2] at KR
  have KT := Lib.hid (fun v w hv he => ptext_any v d (by omega) (fun m hm => by have := hda m hm; omega) w hv he)
  rw [h3.1, h3.2, bA_lA] at KT
  clear he h1 h2 h3
  go_enter Tryz.func21, Tryz.ntmps21
  go_wp2_with fail
  refine (KP.out _ HE.out).mono ?_
  rintro e w1 ⟨v1, vs1, rfl, hb, hm⟩
  have B1 := Lib.hid hb
  have M1 := Lib.hid hm
  obtain ⟨p1, c1, rfl⟩ := hm.mods.slice
  clear hb hm
  go_wp2_with fail
  refine (KG.out _).mono ?_
  rintro e w2 ⟨r, g, o1, o2, q1, q2, q3, f1, f2, f3, f4, rfl, hb, hG⟩
  have C2 := Lib.hid hb
  have B2 := Lib.hid (B1.out.trans (hb.mono B1.out.size))
  have R2 := Lib.hid hG.rws
  clear hb hG
  go_wp2_with fail
  refine (KR.out _ _ _ R2.out (M1.out.later C2.out).mods (M1.out.later C2.out).nilOr).mono ?_
  rintro e w3 ⟨v3, vs3, rfl, hb, hm⟩
  have B3 := Lib.hid (B2.out.trans (hb.mono B2.out.size))
  have M3 := Lib.hid hm
  obtain ⟨p3, c3, rfl⟩ := hm.mods.slice
  clear hb hm
  go_wp2_with fail
  refine (KT.out _ _ M3.out.mods (HE.out.later B3.out)).mono ?_
  rintro e w4 ⟨rfl, hb⟩
  have B4 := Lib.hid (B3.out.trans (hb.mono B3.out.size))
  clear hb
  go_wp2_with fail
  go_ret
  exact ⟨rfl, B4.out⟩
def ex0 : List Md := [⟨65, [2]⟩]
def ex1 : List Md := [⟨70, [2]⟩, ⟨91, []⟩, ⟨43, []⟩, ⟨65, [1]⟩, ⟨93, []⟩]
def ex2 : List Md := [⟨70, [2]⟩, ⟨91, []⟩, ⟨43, []⟩, ⟨70, [1]⟩, ⟨91, []⟩, ⟨43, []⟩, ⟨65, [0]⟩, ⟨93, []⟩, ⟨93, []⟩]
def ex3 : List Md := [⟨70, [2]⟩, ⟨91, []⟩, ⟨43, []⟩, ⟨70, [1]⟩, ⟨91, []⟩, ⟨43, []⟩, ⟨70, [0]⟩, ⟨93, []⟩, ⟨93, []⟩]
def exT0 : Bs := [65, 40, 50, 41]
def exT1 : Bs := [70, 40, 50, 41, 91, 43, 65, 40, 49, 41, 93]
def exT2 : Bs := [70, 40, 50, 41, 91, 43, 70, 40, 49, 41, 91, 43, 65, 40, 48, 41, 93, 93]
def exT3 : Bs := [70, 40, 50, 41, 91, 43, 70, 40, 49, 41, 91, 43, 70, 40, 48, 41, 93, 93]
theorem ex_prs : prs exT0 = some ex0 ∧ prs exT1 = some ex1 ∧ prs exT2 = some ex2 ∧ prs exT3 = some ex3 := by decide +kernel
theorem ex_text {s : Bs} {u : List Md} (h : prs s = some u) (hl : s.length ≤ 1000) : tC u = 0 ∧ tS u = s := by
  obtain ⟨h1, h2⟩ := prs_iff.1 h
  have := tC_yes h1 (by rw [h2]; omega)
  rwa [h2] at this
theorem ex_run : (ruC givR ex0 1 = 0 ∧ ruL givR ex0 1 = ex1) ∧ (ruC givR ex0 2 = 0 ∧ ruL givR ex0 2 = ex2) ∧ (ruC givR ex0 3 = 0 ∧ ruL givR ex0 3 = ex3) ∧ (ruC givR ex0 9 = 0 ∧ ruL givR ex0 9 = ex3) := by decide +kernel
theorem ex_small : (∀ m ∈ ex0, m.a.length ≤ 1000) ∧ (∀ m ∈ ex1, m.a.length ≤ 1000) ∧ (∀ m ∈ ex2, m.a.length ≤ 1000) ∧ (∀ m ∈ ex3, m.a.length ≤ 1000) := by decide
set_option maxRecDepth 100000 in
set_option maxHeartbeats 1600000 in
theorem alive_any (w : World) (he : Env w) : Calls Tryz.prog 8 #[] w fun e w' => e = .returned (.bool true) ∧ Below w.heap.size w w' := by
  have HE := Lib.hid he
  obtain ⟨p0, p1, p2, p3⟩ := ex_prs
  obtain ⟨r1, r2, r3, r9⟩ := ex_run
  obtain ⟨s0, s1, s2, s3⟩ := ex_small
  have hp : pC (lA ⟨#[65, 40, 50, 41]⟩) = 0 ∧ pL (lA ⟨#[65, 40, 50, 41]⟩) = ex0 := pC_some (s := exT0) (by decide) p0
  have K1 := Lib.hid (fun w he => becomes_any ⟨#[65, 40, 50, 41]⟩ ⟨#[70, 40, 50, 41, 91, 43, 65, 40, 49, 41, 93]⟩ 1 ex0 ex1 (by decide) (by decide) s0 (by decide) s1 hp r1 (ex_text p1 (by decide)) w he)
  have K2 := Lib.hid (fun w he => becomes_any ⟨#[65, 40, 50, 41]⟩ ⟨#[70, 40, 50, 41, 91, 43, 70, 40, 49, 41, 91, 43, 65, 40, 48, 41, 93, 93]⟩ 2 ex0 ex2 (by decide) (by decide) s0 (by decide) s2 hp r2 (ex_text p2 (by decide)) w he)
  have K3 := Lib.hid (fun w he => becomes_any ⟨#[65, 40, 50, 41]⟩ ⟨#[70, 40, 50, 41, 91, 43, 70, 40, 49, 41, 91, 43, 70, 40, 48, 41, 93, 93]⟩ 3 ex0 ex3 (by decide) (by decide) s0 (by decide) s3 hp r3 (ex_text p3 (by decide)) w he)
  have K4 := Lib.hid (fun w he => becomes_any ⟨#[65, 40, 50, 41]⟩ ⟨#[70, 40, 50, 41, 91, 43, 70, 40, 49, 41, 91, 43, 70, 40, 48, 41, 93, 93]⟩ 9 ex0 ex3 (by decide) (by decide) s0 (by decide) s3 hp r9 (ex_text p3 (by decide)) w he)
  clear p0 p1 p2 p3 r1 r2 r3 r9 s0 s1 s2 s3 hp he
  go_enter Tryz.func8, Tryz.ntmps8
  go_wp2_with fail
  refine (K1.out _ HE.out).mono ?_
  rintro e w1 ⟨rfl, hb⟩
  have B1 := Lib.hid hb
  clear hb
  go_wp2_with fail
  refine (K2.out _ (HE.out.later B1.out)).mono ?_
  rintro e w2 ⟨rfl, hb⟩
  have B2 := Lib.hid (B1.out.trans (hb.mono B1.out.size))
  clear hb
  go_wp2_with fail
  refine (K3.out _ (HE.out.later B2.out)).mono ?_
  rintro e w3 ⟨rfl, hb⟩
  have B3 := Lib.hid (B2.out.trans (hb.mono B2.out.size))
  clear hb
  go_wp2_with fail
  refine (K4.out _ (HE.out.later B3.out)).mono ?_
  rintro e w4 ⟨rfl, hb⟩
  have B4 := Lib.hid (B3.out.trans (hb.mono B3.out.size))
  clear hb
  go_wp2_with fail
  go_ret
  exact ⟨rfl, B4.out⟩
/-! ### valid -/
def lawB (l : List Rw) (u : List Md) : Bool := !(greatR l) && decide (rchk l = 0) && !(greatB u) && decide (chk u = 0)
theorem lawB_iff {l : List Rw} {u : List Md} : lawB l u = true ↔ greatR l = false ∧ rchk l = 0 ∧ greatB u = false ∧ chk u = 0 := by
  unfold lawB
  simp only [Bool.and_eq_true, Bool.not_eq_true', decide_eq_true_eq]
  constructor
  · rintro ⟨⟨⟨a, b⟩, c⟩, d⟩; exact ⟨a, b, c, d⟩
  · rintro ⟨a, b, c, d⟩; exact ⟨⟨⟨a, b⟩, c⟩, d⟩
set_option maxRecDepth 100000 in
set_option maxHeartbeats 1600000 in
theorem lvalid_any (v wv : Value) (l : List Rw) (u : List Md) (hl : l.length ≤ 9223372036854775807) (hu : u.length ≤ 9223372036854775807) (hua : ∀ m ∈ u, m.a.length ≤ 9223372036854775807) (w : World) (h1 : Rws w v l) (h2 : Mods w wv u) :
    Calls Tryz.prog 7 #[v, wv] w fun e w' => e = .returned (.bool (lawB l u)) ∧ Below w.heap.size w w' := by
  have KG := Lib.hid (refgreat_any v l hl w h1)
  have KW := Lib.hid (fun w h => great_any wv u hu w h hua)
  obtain ⟨p, cap, rfl⟩ := h1.slice
  obtain ⟨p2, cap2, rfl⟩ := h2.slice
  have H1 := Lib.hid h1
  have H2 := Lib.hid h2
  clear h1 h2
  cases hg : greatR l with
  | true =>
    have HF : Hid (lawB l u = false) := Lib.hid (by unfold lawB; rw [hg]; rfl)
    rw [hg] at KG
    clear hg
    go_enter Tryz.func7, Tryz.ntmps7
    go_wp2_with fail
    refine KG.out.mono ?_
    rintro e wx ⟨rfl, rfl⟩
    go_wp2_with fail
    go_ret
    exact ⟨ret_bool HF.out.symm, Below.refl _ _⟩
  | false =>
    rw [hg] at KG
    obtain ⟨g1, g2⟩ := greatR_sm hg
    have KC := Lib.hid (fun w h => refcheck_any fineR_any (.slice p l.length cap) l hl g2 w h)
    by_cases h0 : rchk l = 0
    · rw [h0] at KC
      cases hg2 : greatB u with
      | true =>
        have HF : Hid (lawB l u = false) := Lib.hid (by unfold lawB; rw [hg2]; simp)
        rw [hg2] at KW
        clear hg hg2 g1 g2 h0
        go_enter Tryz.func7, Tryz.ntmps7
        go_wp2_with fail
        refine KG.out.mono ?_
        rintro e wx ⟨rfl, rfl⟩
        go_wp2_with fail
        refine (KC.out _ H1.out).mono ?_
        rintro e w1 ⟨rfl, hb⟩
        have B1 := Lib.hid hb
        clear hb
        go_wp2_with fail
        refine (KW.out _ (H2.out.later B1.out)).mono ?_
        rintro e wx ⟨rfl, rfl⟩
        go_wp2_with fail
        go_ret
        exact ⟨ret_bool HF.out.symm, B1.out⟩
      | false =>
        obtain ⟨lb, lbb⟩ := great_no hg2
        have KK := Lib.hid (fun w h => check_any (.slice p2 u.length cap2) u lb lbb w h)
        have HF : Hid (lawB l u = decide (chk u = 0)) := Lib.hid (by unfold lawB; rw [hg, hg2, h0]; simp)
        rw [hg2] at KW
        obtain ⟨c, hc⟩ : ∃ c, chk u = c := ⟨_, rfl⟩
        rw [hc] at KK HF
        clear hg hg2 g1 g2 h0 lb lbb hc
        go_enter Tryz.func7, Tryz.ntmps7
        go_wp2_with fail
        refine KG.out.mono ?_
        rintro e wx ⟨rfl, rfl⟩
        go_wp2_with fail
        refine (KC.out _ H1.out).mono ?_
        rintro e w1 ⟨rfl, hb⟩
        have B1 := Lib.hid hb
        clear hb
        go_wp2_with fail
        refine (KW.out _ (H2.out.later B1.out)).mono ?_
        rintro e wx ⟨rfl, rfl⟩
        go_wp2_with fail
        refine (KK.out _ (H2.out.later B1.out)).mono ?_
        rintro e w2 ⟨rfl, hb⟩
        have B2 := Lib.hid (B1.out.trans (hb.mono B1.out.size))
        clear hb
        go_wp2_with fail
        go_ret
        exact ⟨ret_bool (by rw [HF.out, Bool.eq_iff_iff, beq_iff_eq, decide_eq_true_iff]), B2.out⟩
    · have HF : Hid (lawB l u = false) := Lib.hid (by unfold lawB; rw [decide_eq_false h0]; simp)
      obtain ⟨c, hc⟩ : ∃ c, rchk l = c := ⟨_, rfl⟩
      rw [hc] at KC h0
      have h1 : (c == 0) = false := by simpa using h0
      clear hg g1 g2 h0 hc
      go_enter Tryz.func7, Tryz.ntmps7
      go_wp2_with fail
      refine KG.out.mono ?_
      rintro e wx ⟨rfl, rfl⟩
      go_wp2_with fail
      refine (KC.out _ H1.out).mono ?_
      rintro e w1 ⟨rfl, hb⟩
      have B1 := Lib.hid hb
      clear hb
      go_wp2_with fail
      go_ret
      exact ⟨ret_bool HF.out.symm, B1.out⟩
end Go.Proofs.YtkjjehnfibfngaaGreatDoor
namespace Go.Proofs.YtkjjehnfibfngaaGreatDoor
namespace WM
set_option linter.unusedVariables false
set_option linter.unusedSimpArgs false

def trk : Int → List Md → List Md
  | _, [] => []
  | n, m :: l => if (decide (n + dlt m = 0) && !(m.c == 93)) = true then m :: trk (n + dlt m) l else trk (n + dlt m) l
theorem trk_app : ∀ (a b : List Md) (n : Int), trk n (a ++ b) = trk n a ++ trk (n + dep a) b
  | [], b, n => by rw [dep_nil, Int.add_zero]; rfl
  | m :: a, b, n => by
    have ih := trk_app a b (n + dlt m)
    rw [List.cons_append]
    simp only [trk, ih]
    rw [dep_cons, ← Int.add_assoc]
    split <;> rfl
theorem trunk_trk (l : List Md) : ∀ k, k ≤ l.length → trunk l k = trk 0 (l.take k) := by
  intro k
  induction k with
  | zero => intro _; rw [trunk_zero, List.take_zero]; rfl
  | succ k ih =>
    intro hk
    have hs := dep_snoc (l := l) (k := k) (by omega)
    rw [trunk_succ (by omega), ih (by omega), List.take_succ_eq_append_getElem (by omega), trk_app, Int.zero_add]
    rw [List.take_succ_eq_append_getElem (by omega)] at hs
    rw [hs]
    simp only [trk]
    split <;> simp
theorem sL_trk {l : List Md} (h : chk l = 0) : sL l = trk 0 l := by
  unfold sL; rw [if_pos h, trunk_trk l l.length (Nat.le_refl _), List.take_length]
def flat (l : List Md) : Prop := ∀ m ∈ l, dlt m = 0
theorem flat_dep {l : List Md} (h : flat l) : dep l = 0 := by
  induction l with
  | nil => rfl
  | cons m l ih => rw [dep_cons, h m (by simp), ih fun x hx => h x (by simp [hx])]; rfl
theorem flat_take {l : List Md} (h : flat l) (k : Nat) : flat (l.take k) := fun m hm => h m (List.mem_of_mem_take hm)
theorem dlt_93 {m : Md} (h : dlt m = 0) : (m.c == 93) = false := by
  rw [beq_eq_false_iff_ne]; intro e
  unfold dlt at h; rw [if_neg (by rw [e]; decide), if_pos e] at h; omega
theorem flat_trk : ∀ {l : List Md}, flat l → trk 0 l = l
  | [], _ => rfl
  | m :: l, h => by
    have h1 := h m (by simp)
    have ih := flat_trk (l := l) fun x hx => h x (by simp [hx])
    simp only [trk, h1, Int.add_zero, dlt_93 h1, ih]
    simp
theorem trk_mem : ∀ (l : List Md) (n : Int), (∀ k, k ≤ l.length → 0 ≤ n + dep (l.take k)) → ∀ m ∈ trk n l, m ∈ l ∧ dlt m = 0
  | [], _, _, m, h => by simp [trk] at h
  | x :: l, n, hp, m, h => by
    have h0 := hp 0 (by simp)
    have h1 := hp 1 (by simp)
    rw [List.take_zero, dep_nil] at h0
    simp only [List.take_succ_cons, List.take_zero, dep_cons, dep_nil, Int.add_zero] at h1
    have ih := trk_mem l (n + dlt x) (fun k hk => by
      have := hp (k + 1) (by simp; omega)
      rw [List.take_succ_cons, dep_cons, ← Int.add_assoc] at this; exact this)
    simp only [trk] at h
    split at h
    · rename_i hc
      rcases List.mem_cons.1 h with e | e
      · subst e
        refine ⟨by simp, ?_⟩
        simp only [Bool.and_eq_true, decide_eq_true_eq, Bool.not_eq_true', beq_eq_false_iff_ne] at hc
        rcases dlt_cases m with h2 | h2 | h2
        · omega
        · exfalso
          unfold dlt at h2
          split at h2
          · omega
          · split at h2
            · rename_i h3; exact hc.2 h3
            · omega
        · exact h2
      · exact ⟨by simp [(ih m e).1], (ih m e).2⟩
    · exact ⟨by simp [(ih m h).1], (ih m h).2⟩
theorem trk_len : ∀ (l : List Md) (n : Int), (trk n l).length ≤ l.length
  | [], _ => by simp [trk]
  | x :: l, n => by
    have := trk_len l (n + dlt x)
    simp only [trk]; split
    · simp; omega
    · simp; omega
theorem dep_ge {l : List Md} (h : chk l = 0) : ∀ k, k ≤ l.length → 0 ≤ dep (l.take k) := by
  intro k hk
  rcases Nat.eq_zero_or_pos k with h0 | h0
  · subst h0; simp [dep_nil]
  · have := okB_iff.1 (chk_zero.1 h).2.2.1 (k - 1) (by omega)
    rwa [show k - 1 + 1 = k by omega] at this
theorem sL_flat {l : List Md} (h : chk l = 0) : flat (sL l) := by
  rw [sL_trk h]
  exact fun m hm => (trk_mem l 0 (fun k hk => by rw [Int.zero_add]; exact dep_ge h k hk) m hm).2
theorem sL_sub {l : List Md} (h : chk l = 0) : ∀ m ∈ sL l, m ∈ l := by
  rw [sL_trk h]
  exact fun m hm => (trk_mem l 0 (fun k hk => by rw [Int.zero_add]; exact dep_ge h k hk) m hm).1
theorem sL_le {l : List Md} : (sL l).length ≤ l.length := by
  unfold sL; split
  · exact trunk_length _ _
  · simp
theorem flat_chk {l : List Md} (h : flat l) (hl : l.length ≤ 2000) (hf : ∀ m ∈ l, fineB m = true) : chk l = 0 := by
  refine chk_zero.2 ⟨hl, by simpa using hf, okB_iff.2 fun i hi => ?_, flat_dep h⟩
  rw [flat_dep (flat_take h _)]; exact Int.le_refl _
theorem chk_fine {l : List Md} (h : chk l = 0) : ∀ m ∈ l, fineB m = true := by
  have := (chk_zero.1 h).2.1
  simpa using this
theorem sL_chk {l : List Md} (h : chk l = 0) : chk (sL l) = 0 :=
  flat_chk (sL_flat h) (Nat.le_trans sL_le (chk_zero.1 h).1) fun m hm => chk_fine h m (sL_sub h m hm)
theorem sL_sL {l : List Md} (h : chk l = 0) : sL (sL l) = sL l := by
  rw [sL_trk (sL_chk h), flat_trk (sL_flat h)]
theorem app_chk {a b : List Md} (h1 : chk a = 0) (h2 : chk b = 0) (h3 : a.length + b.length ≤ 2000) : chk (a ++ b) = 0 := by
  refine chk_zero.2 ⟨by simpa using h3, ?_, okB_iff.2 fun i hi => ?_, ?_⟩
  · rw [List.all_append, (chk_zero.1 h1).2.1, (chk_zero.1 h2).2.1]; rfl
  · rw [List.length_append] at hi
    rw [List.take_append, dep_app]
    rcases Nat.lt_or_ge (i + 1) a.length with h | h
    · rw [show i + 1 - a.length = 0 by omega, List.take_zero, dep_nil]
      have := dep_ge h1 (i + 1) (by omega); omega
    · rw [List.take_of_length_le h, (chk_zero.1 h1).2.2.2]
      have := dep_ge h2 (i + 1 - a.length) (by omega); omega
  · rw [dep_app, (chk_zero.1 h1).2.2.2, (chk_zero.1 h2).2.2.2]; rfl
theorem app_sL {a b : List Md} (h1 : chk a = 0) (h2 : chk b = 0) (h3 : a.length + b.length ≤ 2000) : sL (a ++ b) = sL a ++ sL b := by
  rw [sL_trk (app_chk h1 h2 h3), sL_trk h1, sL_trk h2, trk_app, (chk_zero.1 h1).2.2.2]; rfl
/-- The greatest of the open brackets, gone through. -/
def dmx : Int → Int → List Md → Int
  | acc, _, [] => acc
  | acc, n, m :: l => dmx (max acc (n + dlt m)) (n + dlt m) l
theorem dmx_app : ∀ (a b : List Md) (acc n : Int), dmx acc n (a ++ b) = dmx (dmx acc n a) (n + dep a) b
  | [], b, acc, n => by rw [dep_nil, Int.add_zero]; rfl
  | m :: a, b, acc, n => by
    rw [List.cons_append]
    simp only [dmx]
    rw [dmx_app a b, dep_cons, Int.add_assoc]
theorem dmax_dmx (l : List Md) : ∀ k, k ≤ l.length → dmax l k = dmx 0 0 (l.take k) := by
  intro k
  induction k with
  | zero => intro _; rw [dmax_zero, List.take_zero]; rfl
  | succ k ih =>
    intro hk
    have hs := dep_snoc (l := l) (k := k) (by omega)
    rw [dmax_succ, ih (by omega), hs, List.take_succ_eq_append_getElem (by omega), dmx_app, Int.zero_add]
    simp only [dmx]
theorem dmx_max : ∀ (l : List Md) (acc n : Int), 0 ≤ acc → dmx acc n l = max acc (dmx 0 n l)
  | [], acc, n, h => by simp only [dmx]; omega
  | m :: l, acc, n, h => by
    simp only [dmx]
    rw [dmx_max l (max acc (n + dlt m)) _ (by omega), dmx_max l (max 0 (n + dlt m)) _ (by omega)]
    omega
theorem dmx_nonneg : ∀ (l : List Md) (acc n : Int), 0 ≤ acc → 0 ≤ dmx acc n l
  | [], acc, n, h => h
  | m :: l, acc, n, h => by simp only [dmx]; exact dmx_nonneg l _ _ (by omega)
theorem app_dp {a b : List Md} (h1 : chk a = 0) (h2 : chk b = 0) (h3 : a.length + b.length ≤ 2000) : dpI (a ++ b) = max (dpI a) (dpI b) := by
  unfold dpI
  rw [if_pos (app_chk h1 h2 h3), if_pos h1, if_pos h2, dmax_dmx _ _ (Nat.le_refl _), dmax_dmx a _ (Nat.le_refl _), dmax_dmx b _ (Nat.le_refl _)]
  rw [List.take_length, List.take_length, List.take_length, dmx_app, (chk_zero.1 h1).2.2.2, Int.add_zero, dmx_max b _ _ (dmx_nonneg a 0 0 (Int.le_refl _))]
theorem flat_dp {l : List Md} (h : flat l) : dpI l = 0 := by
  have key : ∀ k, dmax l k = 0 := by
    intro k
    induction k with
    | zero => rfl
    | succ k ih => rw [dmax_succ, ih, flat_dep (flat_take h _)]; rfl
  unfold dpI; split
  · exact key _
  · rfl
end WM
end Go.Proofs.YtkjjehnfibfngaaGreatDoor
