/-
  Texts of the proof, merged: DRewRefN, DRewRefG, DRewRefS.
-/
import Derived.Test.YtepoaobjcpgilaaDoorDChanceCellsProofM7
import Derived.Test.YtepoaobjcpgilaaDoorDChanceCellsProofM6
import Derived.Lib.QuietBelow
import Derived.Test.YtepoaobjcpgilaaDoorDChanceCellsProofM3
import Derived.Deep.RegionHeld3
namespace Go.Proofs.YtepoaobjcpgilaaDoor
open Go.RowKit
open WM RM
set_option linter.unusedVariables false
set_option linter.unusedSimpArgs false

theorem rb_let {r : Rw} (h : letB r.c = false) : ruleB r = false := by unfold ruleB; rw [h]; simp
theorem rb_bra {r : Rw} (h : braB r.c = true) : ruleB r = false := by unfold ruleB; rw [h]; simp
theorem rb_lo {r : Rw} (h : r.ar < 0) : ruleB r = false := by unfold ruleB; rw [decide_eq_false (by omega : ¬ 0 ≤ r.ar)]; simp
theorem rb_hi {r : Rw} (h : 4 < r.ar) : ruleB r = false := by unfold ruleB; rw [decide_eq_false (by omega : ¬ r.ar ≤ 4)]; simp
theorem rb_gs {r : Rw} {k : Nat} (hk : k < r.gs.length) (h : formB r.gs[k] r.ar = false) : ruleB r = false := by
  have : r.gs.all (formB · r.ar) = false := by rw [List.all_eq_false]; exact ⟨_, List.getElem_mem hk, by rw [h]; simp⟩
  unfold ruleB; rw [this]; simp
theorem rb_out {r : Rw} {k : Nat} (hk : k < r.out.length) (h : shB r.out[k] r.ar = false) : ruleB r = false := by
  have : r.out.all (shB · r.ar) = false := by rw [List.all_eq_false]; exact ⟨_, List.getElem_mem hk, by rw [h]; simp⟩
  unfold ruleB; rw [this]; simp
theorem rb_chk {r : Rw} {b : Bool} (h1 : letB r.c = true) (h2 : braB r.c = false) (h3 : ¬ r.ar < 0) (h4 : ¬ 4 < r.ar) (h5 : ∀ k, (hk : k < r.gs.length) → formB r.gs[k] r.ar = true) (h6 : ∀ k, (hk : k < r.out.length) → shB r.out[k] r.ar = true) (h7 : decide (chk (r.out.map shM) = 0) = b) : ruleB r = b := by
  have a1 : r.gs.all (formB · r.ar) = true := by
    rw [List.all_eq_true]; intro x hx
    obtain ⟨j, hj, rfl⟩ := List.mem_iff_getElem.1 hx
    exact h5 j hj
  have a2 : r.out.all (shB · r.ar) = true := by
    rw [List.all_eq_true]; intro x hx
    obtain ⟨j, hj, rfl⟩ := List.mem_iff_getElem.1 hx
    exact h6 j hj
  unfold ruleB
  rw [h1, h2, a1, a2, h7, decide_eq_true (by omega : 0 ≤ r.ar), decide_eq_true (by omega : r.ar ≤ 4)]
  simp
theorem sh_no1 {s : Sh} {n : Int} (h : fineB (shM s) = false) : shB s n = false := by unfold shB; rw [h]; rfl
theorem sh_no2 {s : Sh} {n : Int} {k : Nat} (hk : k < s.a.length) (h : formB s.a[k] n = false) : shB s n = false := by
  have : s.a.all (formB · n) = false := by rw [List.all_eq_false]; exact ⟨_, List.getElem_mem hk, by rw [h]; simp⟩
  unfold shB; rw [this]; simp
theorem sh_yes {s : Sh} {n : Int} (h : fineB (shM s) = true) (h2 : ∀ k, (hk : k < s.a.length) → formB s.a[k] n = true) : shB s n = true := by
  have : s.a.all (formB · n) = true := by
    rw [List.all_eq_true]; intro x hx
    obtain ⟨j, hj, rfl⟩ := List.mem_iff_getElem.1 hx
    exact h2 j hj
  unfold shB; rw [h, this]; rfl
/-- Where the loop over Out stands. -/
structure FrAt (w0 : World) (out : List Sh) (ar : Int) (k : Nat) (v : Value) (wr : World) : Prop where
  hi : k ≤ out.length
  below : Below w0.heap.size w0 wr
  own : ∃ vs, ModFr wr w0.heap.size v ((out.take k).map shM) vs
  good : ∀ j, (h : j < out.length) → j < k → shB out[j] ar = true
/-- A module in a new block, and its args in another. -/
structure TwoBl (W1 W2 : World) (mb ib : Nat) (s : Sh) : Prop where
  below : Below W1.heap.size W1 W2
  mod : W2.heap[mb]? = some (.cells #[.int .u8 s.c.toNat, .slice (some ⟨ib, 0, none⟩) s.a.length s.a.length] 25 (0, 0))
  own : W2.ownsRow W1.heap.size 3 1 (.slice (some ⟨ib, 0, none⟩) s.a.length s.a.length) (shM s).a.length (valsL (shM s).a)
theorem zero_own (w : World) (n base : Nat) (hn : n ≤ 10) (hb : base ≤ w.heap.size) : (w.alloc (.cells (zeros n) 3)).ownsRow base 3 1 (.slice (some ⟨w.heap.size, 0, none⟩) n n) n (valsL (List.replicate n 0)) := by
  have h := World.ownsRow_lit (base := base) (e := 3) (size := 1) w (zeros n) n hb (by have : maxLen = 9223372036854775807 := rfl; omega) (by rw [zeros_size, Nat.mul_one])
  have e : (zeros n).toList = valsL (List.replicate n 0) := by
    apply List.ext_getElem
    · simp [zeros_size, valsL]
    · intro i h1 h2
      have h3 : i < n := by simpa [zeros_size] using h1
      have := zeros_at h3
      rw [Array.getElem?_eq_some_iff] at this
      obtain ⟨_, h4⟩ := this
      simp [valsL, h4]
  rw [e] at h; exact h
theorem twoBl_a (W1 : World) (s : Sh) (h : s.a.length ≤ 10) : TwoBl W1 ((W1.alloc (.cells (zeros s.a.length) 3)).alloc (.cells #[.int .u8 s.c.toNat, .slice (some ⟨W1.heap.size, 0, none⟩) s.a.length s.a.length] 25)).drew (W1.heap.size + 1) W1.heap.size s := by
  refine ⟨(((Below.refl _ _).alloc (Nat.le_refl _) _).alloc (by simp) _).drew, ?_, ?_⟩
  · have := heap_alloc_new (W1.alloc (.cells (zeros s.a.length) 3)) (.cells #[.int .u8 s.c.toNat, .slice (some ⟨W1.heap.size, 0, none⟩) s.a.length s.a.length] 25)
    rw [World.size_alloc] at this
    exact this
  · have h2 := (zero_own W1 s.a.length W1.heap.size h (Nat.le_refl _)).alloc (.cells #[.int .u8 s.c.toNat, .slice (some ⟨W1.heap.size, 0, none⟩) s.a.length s.a.length] 25)
    have e : (shM s).a.length = s.a.length := by simp [shM]
    rw [e]; exact h2
theorem twoBl_b (W1 : World) (s : Sh) (h : s.a.length ≤ 10) : TwoBl W1 ((W1.alloc (.cells #[.int .u8 s.c.toNat, .slice (some ⟨W1.heap.size + 1, 0, none⟩) s.a.length s.a.length] 25)).alloc (.cells (zeros s.a.length) 3)).drew W1.heap.size (W1.heap.size + 1) s := by
  refine ⟨(((Below.refl _ _).alloc (Nat.le_refl _) _).alloc (by simp) _).drew, ?_, ?_⟩
  · exact heap_alloc_old (heap_alloc_new W1 _) _
  · have h2 := zero_own (W1.alloc (.cells #[.int .u8 s.c.toNat, .slice (some ⟨W1.heap.size + 1, 0, none⟩) s.a.length s.a.length] 25)) s.a.length W1.heap.size h (by simp)
    have e : (shM s).a.length = s.a.length := by simp [shM]
    rw [e]
    rw [World.size_alloc] at h2
    exact h2
theorem u8_91 (c : UInt8) : ((c.toNat : Int) == 91) = (c == 91) := by rw [show (91 : Int) = ((91 : UInt8).toNat : Int) from rfl, u8_eq]
theorem u8_93 (c : UInt8) : ((c.toNat : Int) == 93) = (c == 93) := by rw [show (93 : Int) = ((93 : UInt8).toNat : Int) from rfl, u8_eq]
set_option maxRecDepth 100000 in
set_option maxHeartbeats 6400000 in
theorem fineR_out (r : Rw) (pg : Option Addr) (cg : Nat) (po : Option Addr) (co : Nat) (hs : RwSm r) (w : World) (h1 : Fms w (.slice pg r.gs.length cg) r.gs) (h2 : Shs w (.slice po r.out.length co) r.out) (c1 : letB r.c = true) (c2 : braB r.c = false) (c3 : ¬ r.ar < 0) (c4 : ¬ 4 < r.ar) :
    Calls Tryd.prog 64 #[.agg #[.int .u8 r.c.toNat, .int .i64 r.ar, .int .u8 r.l.toNat, .int .u8 r.r.toNat, .slice pg r.gs.length cg, .int .i64 r.wt, .slice po r.out.length co]] w fun e w' => e = .returned (.bool (ruleB r)) ∧ Below w.heap.size w w' := by
  obtain ⟨s1, s2, s3, s4⟩ := hs
  obtain ⟨W0, hW0⟩ : ∃ W, W = w.alloc (.cells #[.int .u8 r.c.toNat, .int .i64 r.ar, .int .u8 r.l.toNat, .int .u8 r.r.toNat, .slice pg r.gs.length cg, .int .i64 r.wt, .slice po r.out.length co] 31) := ⟨_, rfl⟩
  have N1 : W0.heap[w.heap.size]? = some (.cells #[.int .u8 r.c.toNat, .int .i64 r.ar, .int .u8 r.l.toNat, .int .u8 r.r.toNat, .slice pg r.gs.length cg, .int .i64 r.wt, .slice po r.out.length co] 31 (0, 0)) := by rw [hW0]; exact heap_alloc_new _ _
  have B0 : Below w.heap.size w W0 := by rw [hW0]; exact (Below.refl _ _).alloc (Nat.le_refl _) _
  have HB := Lib.hid B0
  have HG := Lib.hid (h1.later B0)
  have HO := Lib.hid (h2.later B0)
  have q0 : W0.cell? ⟨w.heap.size, 0, none⟩ = some (.int .u8 r.c.toNat) := by simp [World.cell?, N1]
  have q1 : W0.cell? ⟨w.heap.size, 1, none⟩ = some (.int .i64 r.ar) := by simp [World.cell?, N1]
  have q4 : W0.cell? ⟨w.heap.size, 4, none⟩ = some (.slice pg r.gs.length cg) := by simp [World.cell?, N1]
  have q6 : W0.cell? ⟨w.heap.size, 6, none⟩ = some (.slice po r.out.length co) := by simp [World.cell?, N1]
  have l0 := lt_of_block N1
  have KL := Lib.hid (fun w => letter_any r.c w)
  rw [c1] at KL
  have hbr : (r.c == 91) = false ∧ (r.c == 93) = false := by
    unfold braB at c2; simpa [Bool.or_eq_false_iff] using c2
  have t1 : ((r.c.toNat : Int) == 91) = false := by rw [u8_91]; exact hbr.1
  have t2 : ((r.c.toNat : Int) == 93) = false := by rw [u8_93]; exact hbr.2
  have HFin : Hid (∀ b, (∀ k, (hk : k < r.gs.length) → formB r.gs[k] r.ar = true) → (∀ k, (hk : k < r.out.length) → shB r.out[k] r.ar = true) → decide (chk (r.out.map shM) = 0) = b → ruleB r = b) := Lib.hid (fun b h5 h6 h7 => rb_chk c1 c2 c3 c4 h5 h6 h7)
  have S3 := Lib.hid s3
  have S4 := Lib.hid s4
  have HM : Hid (maxLen = 9223372036854775807) := Lib.hid rfl
  obtain ⟨j0, hj, hy0, hy1, hy2⟩ := info_parts info_mod
  clear N1 B0 h1 h2 c1 c2 hbr s3 s4
  obtain ⟨cn, hcn⟩ : ∃ cn : Nat, r.c.toNat = cn := ⟨_, rfl⟩
  rw [hcn] at KL hW0 q0 t1 t2 ⊢
  clear hcn
  go_enter Tryd.func64, Tryd.ntmps64
  go_wp2_with fail
  rw [← hW0]
  clear hW0
  go_wp2_with fail
  refine (KL.out _).mono ?_
  rintro e wx ⟨rfl, rfl⟩
  go_wp2_with fail
  go_loopw [3] (fun i wr => ∃ k : Nat, k ≤ r.gs.length ∧ i = .int .i64 k ∧ Below W0.heap.size W0 wr ∧ ∀ j, (hj : j < r.gs.length) → j < k → formB r.gs[j] r.ar = true) (fun i _ => r.gs.length - (intOf i).toNat)
  case atStart => exact ⟨0, Nat.zero_le _, rfl, Below.refl _ _, fun j _ h => by omega⟩
  case round =>
    rename World => wo
    obtain ⟨k, hk, rfl, hb, hok⟩ := hrel
    have HK := Lib.hid hok
    have HBr := Lib.hid hb
    have y1 := (hb.cell (p := ⟨w.heap.size, 1, none⟩) l0).trans q1
    have y4 := (hb.cell (p := ⟨w.heap.size, 4, none⟩) l0).trans q4
    clear hok hb
    by_cases hlt : k < r.gs.length
    · obtain ⟨b, off, cap', q, d, hp, e1, e2, hin, lb⟩ := (HG.out.later HBr.out).at hlt
      obtain rfl : pg = some ⟨b, off, none⟩ := by cases hp; rfl
      have k1 : (k : Int) < (r.gs.length : Int) := by omega
      have HCw : Hid (∀ (d' : Nat) (os : Array Obj), Calls Tryd.prog 88 #[.agg #[.int .i64 r.gs[k].k, .slice q r.gs[k].cs.length d], .int .i64 r.ar] («Sort».grow (redrawn wo d') os) fun e w' =>
          e = .returned (.bool (formB r.gs[k] r.ar)) ∧ Below («Sort».grow (redrawn wo d') os).heap.size («Sort».grow (redrawn wo d') os) w') :=
        Lib.hid (fun d' os => refform_any r.gs[k] _ r.ar (by have := S3.out _ (List.getElem_mem hlt); omega) _ (hin.later (below_regrown wo d' os)))
      obtain ⟨t, ht⟩ : ∃ t, formB r.gs[k] r.ar = t := ⟨_, rfl⟩
      have HT := Lib.hid ht
      rw [ht] at HCw
      obtain ⟨fk, hfk⟩ : ∃ fk, r.gs[k].k = fk := ⟨_, rfl⟩
      obtain ⟨fl, hfl⟩ : ∃ fl, r.gs[k].cs.length = fl := ⟨_, rfl⟩
      rw [hfk] at e1 HCw
      rw [hfl] at e2 HCw
      clear hp hin ht hfk hfl
      have r1 := fun d os => cell_regrown e1 d os
      have r2 := fun d os => cell_regrown e2 d os
      have r3 := fun d os => cell_regrown y1 d os
      have r4 := fun d os => cell_regrown y4 d os
      go_wp2_with fail
      refine wp_region_quiet_below (by kernel_rfl) (by kernel_rfl) ?_
      repeat (any_goals (first | go_big_quiet_step ((go_at_call 88; exact Calls.regrown_of (HCw.out _ _))) | quiet_step ((go_at_call 88; exact Calls.regrown_of (HCw.out _ _)))))
      refine wpQuiet_nil ?_
      intro _ hw'
      obtain ⟨⟨dq, osq⟩, hw''⟩ := hw'
      subst hw''
      have HB2 : Hid (Below W0.heap.size W0 («Sort».grow (redrawn wo dq) osq)) := Lib.hid (HBr.out.trans ((below_regrown wo dq osq).mono HBr.out.size))
      cases t with
      | false =>
        have HF := Lib.hid (rb_gs hlt HT.out)
        go_wp2_with fail
        go_ret
        exact ⟨ret_bool HF.out.symm, HB.out.trans (HB2.out.mono HB.out.size)⟩
      | true =>
        have HG2 : Hid (∀ j, (hj : j < r.gs.length) → j < k + 1 → formB r.gs[j] r.ar = true) := Lib.hid (fun j hj h => by
          rcases Nat.lt_or_eq_of_le (Nat.le_of_lt_succ h) with h1 | h1
          · exact HK.out j hj h1
          · subst h1; exact HT.out)
        go_wp2_with fail
        go_roundw
        case rel => exact ⟨k + 1, by omega, by go_num, HB2.out, HG2.out⟩
        case measure => simp [intOf]; omega
    · obtain rfl : k = r.gs.length := by omega
      have HGd : Hid (∀ k, (hk : k < r.gs.length) → formB r.gs[k] r.ar = true) := Lib.hid (fun i hi => HK.out i hi hi)
      clear HK
      have y6 := (HBr.out.cell (p := ⟨w.heap.size, 6, none⟩) l0).trans q6
      have F0 : Hid (FrAt W0 r.out r.ar 0 (.slice none 0 0) wo) := Lib.hid ⟨Nat.zero_le _, HBr.out, ⟨[], by simpa using modFr_nil wo W0.heap.size⟩, fun j _ h => by omega⟩
      go_wp2_with fail
      go_loopw [4, 5] (fun v i wr => ∃ k : Nat, i = .int .i64 k ∧ FrAt W0 r.out r.ar k v wr) (fun _ i _ => r.out.length - (intOf i).toNat)
      case atStart => exact ⟨0, rfl, F0.out⟩
      case round =>
        rename World => wi
        obtain ⟨k, rfl, hS⟩ := hrel
        have HS := Lib.hid hS
        have hsz := hS.below.size
        have hko := hS.hi
        have z1 := (hS.below.cell (p := ⟨w.heap.size, 1, none⟩) l0).trans q1
        have z6 := (hS.below.cell (p := ⟨w.heap.size, 6, none⟩) l0).trans q6
        have li : w.heap.size < wi.heap.size := Nat.lt_of_lt_of_le l0 hsz
        clear hS
        by_cases hlt : k < r.out.length
        · obtain ⟨b, off, cap', q, d, hp, e1, e2, hin, lb⟩ := (HO.out.later HS.out.below).at hlt
          obtain rfl : po = some ⟨b, off, none⟩ := by cases hp; rfl
          have k1 : (k : Int) < (r.out.length : Int) := by omega
          obtain ⟨a10, ac10⟩ := S4.out _ (List.getElem_mem hlt)
          have HI := Lib.hid hin
          have HAc := Lib.hid ac10
          obtain ⟨vs, hM⟩ := HS.out.own
          have HMF := Lib.hid hM
          obtain ⟨s, hs⟩ : ∃ s, r.out[k] = s := ⟨_, rfl⟩
          have HSe := Lib.hid hs
          rw [hs] at e1 e2 HI HAc a10
          obtain ⟨W1, hW1⟩ : ∃ W, W = wi.alloc (.cells #[.int .u8 s.c.toNat, .slice q s.a.length d] 33) := ⟨_, rfl⟩
          have N1 : W1.heap[wi.heap.size]? = some (.cells #[.int .u8 s.c.toNat, .slice q s.a.length d] 33 (0, 0)) := by rw [hW1]; exact heap_alloc_new _ _
          have b1 : Below wi.heap.size wi W1 := by rw [hW1]; exact (Below.refl _ _).alloc (Nat.le_refl _) _
          have E1 := Lib.hid b1
          have hz1 := b1.size
          have p0 := cell_two0 N1
          have p1 := cell_two1 N1
          have lp := lt_of_block N1
          have hmk := made_run s.a.length (by omega)
          clear hp hin hM hs N1 b1 ac10
          go_wp2_with fail
          rw [← hW1]
          clear hW1
          go_wp2_with fail
          go_region
          · obtain ⟨W2, hW2⟩ : ∃ W, W = ((W1.alloc (.cells (zeros s.a.length) 3)).alloc (.cells #[.int .u8 s.c.toNat, .slice (some ⟨W1.heap.size, 0, none⟩) s.a.length s.a.length] 25)).drew := ⟨_, rfl⟩
            have hT : TwoBl W1 W2 (W1.heap.size + 1) (W1.heap.size) s := by rw [hW2]; exact twoBl_a W1 s a10
            have HT2 := Lib.hid hT
            have b2 : Below wi.heap.size wi W2 := E1.out.trans (hT.below.mono hz1)
            have E2 := Lib.hid b2
            have hz2 := b2.size
            have x1 := (hT.below.cell (p := ⟨w.heap.size, 1, none⟩) (show w.heap.size < W1.heap.size by omega)).trans ((E1.out.cell (p := ⟨w.heap.size, 1, none⟩) li).trans z1)
            have v1 := (hT.below.cell (p := ⟨wi.heap.size, 1, none⟩) lp).trans p1
            have u0 := cell_two0 hT.mod
            have u1 := cell_two1 hT.mod
            have lm := lt_of_block hT.mod
            have KI : Hid (Calls Tryd.prog 41 #[.agg #[.int .u8 s.c.toNat, .slice (some ⟨W1.heap.size, 0, none⟩) s.a.length s.a.length]] W2 fun e w' => e = .returned (.bool (fineB (shM s))) ∧ Below W2.heap.size W2 w') :=
              Lib.hid (fine_any (shM s) _ (by simp [shM]; omega) W2 (ints_of_owned hT.own))
            obtain ⟨n, hn⟩ : ∃ n, s.a.length = n := ⟨_, rfl⟩
            have HN := Lib.hid hn
            obtain ⟨sc, hsc⟩ : ∃ sc : Nat, s.c.toNat = sc := ⟨_, rfl⟩
            have HSc := Lib.hid hsc
            rw [← hW2]
            clear hT b2 hW2
            rw [hn] at u1 v1 KI a10 e2 p1
            rw [hsc] at u0 KI e1 p0
            clear hn hsc
            cases hf : fineB (shM s) with
            | false =>
              rw [hf] at KI
              have HF := Lib.hid (rb_out hlt (by rw [HSe.out]; exact sh_no1 hf))
              clear hf
              go_wp2_with fail
              refine KI.out.mono ?_
              rintro e w3 ⟨rfl, hb⟩
              have B3 := Lib.hid (HB.out.trans ((HS.out.below.trans ((E2.out.trans (hb.mono hz2)).mono hsz)).mono HB.out.size))
              clear hb
              go_wp2_with fail
              go_ret
              exact ⟨ret_bool HF.out.symm, B3.out⟩
            | true =>
              rw [hf] at KI
              have HFi := Lib.hid hf
              clear hf
              go_wp2_with fail
              refine KI.out.mono ?_
              rintro e w3 ⟨rfl, hb⟩
              have E3 := Lib.hid hb
              clear hb
              go_wp2_with fail
              go_loopw [8] (fun i wr => ∃ j : Nat, j ≤ n ∧ i = .int .i64 j ∧ Below W2.heap.size W2 wr ∧ ∀ j', (hj : j' < s.a.length) → j' < j → formB s.a[j'] r.ar = true) (fun i _ => n - (intOf i).toNat)
              case atStart => exact ⟨0, Nat.zero_le _, rfl, E3.out, fun j _ h => by omega⟩
              case round =>
                rename World => wn
                obtain ⟨j, hjn, rfl, hb, hok⟩ := hrel
                have HJ := Lib.hid hok
                have HBn := Lib.hid hb
                have hbz := hb.size
                have x1n := (hb.cell (p := ⟨w.heap.size, 1, none⟩) (show w.heap.size < W2.heap.size by have := HT2.out.below.size; omega)).trans x1
                have v1n := (hb.cell (p := ⟨wi.heap.size, 1, none⟩) (show wi.heap.size < W2.heap.size by have := HT2.out.below.size; omega)).trans v1
                have u0n := (hb.cell (p := ⟨W1.heap.size + 1, 0, none⟩) lm).trans u0
                have u1n := (hb.cell (p := ⟨W1.heap.size + 1, 1, none⟩) lm).trans u1
                have HBi : Hid (Below wi.heap.size wi wn) := Lib.hid (E2.out.trans (hb.mono hz2))
                clear hok hb
                by_cases hjl : j < s.a.length
                · obtain ⟨bg, og, cgp, qf, df, hp, f0, f1, hin, lg⟩ := (HI.out.later HBi.out).at hjl
                  obtain rfl : q = some ⟨bg, og, none⟩ := by cases hp; rfl
                  have j1 : (j : Int) < (n : Int) := by have := HN.out; omega
                  have HCw : Hid (∀ (d' : Nat) (os : Array Obj), Calls Tryd.prog 88 #[.agg #[.int .i64 s.a[j].k, .slice qf s.a[j].cs.length df], .int .i64 r.ar] («Sort».grow (redrawn wn d') os) fun e w' =>
                      e = .returned (.bool (formB s.a[j] r.ar)) ∧ Below («Sort».grow (redrawn wn d') os).heap.size («Sort».grow (redrawn wn d') os) w') :=
                    Lib.hid (fun d' os => refform_any s.a[j] _ r.ar (by have := HAc.out _ (List.getElem_mem hjl); omega) _ (hin.later (below_regrown wn d' os)))
                  obtain ⟨t, ht⟩ : ∃ t, formB s.a[j] r.ar = t := ⟨_, rfl⟩
                  have HT := Lib.hid ht
                  rw [ht] at HCw
                  obtain ⟨fk, hfk⟩ : ∃ fk, s.a[j].k = fk := ⟨_, rfl⟩
                  obtain ⟨fl, hfl⟩ : ∃ fl, s.a[j].cs.length = fl := ⟨_, rfl⟩
                  rw [hfk] at f0 HCw
                  rw [hfl] at f1 HCw
                  clear hp hin ht hfk hfl
                  have r1 := fun d os => cell_regrown f0 d os
                  have r2 := fun d os => cell_regrown f1 d os
                  have r3 := fun d os => cell_regrown x1n d os
                  have r4 := fun d os => cell_regrown v1n d os
                  go_wp2_with fail
                  refine wp_region_quiet_below (by kernel_rfl) (by kernel_rfl) ?_
                  repeat (any_goals (first | go_big_quiet_step ((go_at_call 88; exact Calls.regrown_of (HCw.out _ _))) | quiet_step ((go_at_call 88; exact Calls.regrown_of (HCw.out _ _)))))
                  refine wpQuiet_nil ?_
                  intro _ hw'
                  obtain ⟨⟨dq, osq⟩, hw''⟩ := hw'
                  subst hw''
                  have HBq : Hid (Below W2.heap.size W2 («Sort».grow (redrawn wn dq) osq)) := Lib.hid (HBn.out.trans ((below_regrown wn dq osq).mono hbz))
                  cases t with
                  | false =>
                    have HF := Lib.hid (rb_out hlt (by rw [HSe.out]; exact sh_no2 hjl HT.out))
                    have HBw := Lib.hid (HB.out.trans ((HS.out.below.trans ((E2.out.trans (HBq.out.mono hz2)).mono hsz)).mono HB.out.size))
                    go_wp2_with fail
                    go_ret
                    exact ⟨ret_bool HF.out.symm, HBw.out⟩
                  | true =>
                    have HG2 : Hid (∀ j', (hj : j' < s.a.length) → j' < j + 1 → formB s.a[j'] r.ar = true) := Lib.hid (fun j' hj h => by
                      rcases Nat.lt_or_eq_of_le (Nat.le_of_lt_succ h) with h1 | h1
                      · exact HJ.out j' hj h1
                      · subst h1; exact HT.out)
                    go_wp2_with fail
                    go_roundw
                    case rel => exact ⟨j + 1, by have := HN.out; omega, by go_num, HBq.out, HG2.out⟩
                    case measure => have := HN.out; simp [intOf]; omega
                · have j1 : ¬ (j : Int) < (n : Int) := by have := HN.out; omega
                  have hdl : ((r.out.take k).map shM).length = k := by rw [List.length_map, List.length_take]; omega
                  have HD := Lib.hid hdl
                  have BX : Hid (Below wi.heap.size wi (wn.alloc (.cells #[.int .u8 sc, .slice (some ⟨W1.heap.size, 0, none⟩) n n] 25))) := Lib.hid (HBi.out.alloc HBi.out.size _)
                  have P5 := Lib.hid (l_own_later HMF.out.row BX.out)
                  rw [hdl] at P5
                  have A5 : Hid ((wn.alloc (.cells #[.int .u8 sc, .slice (some ⟨W1.heap.size, 0, none⟩) n n] 25)).ownsRow wi.heap.size 3 1 (.slice (some ⟨W1.heap.size, 0, none⟩) n n) (shM s).a.length (valsL (shM s).a)) := Lib.hid (by
                    have h := (owns_mono (l_own_later HT2.out.own HBn.out) hz1).alloc (.cells #[.int .u8 sc, .slice (some ⟨W1.heap.size, 0, none⟩) n n] 25)
                    rw [HN.out] at h; exact h)
                  have HSn : Hid ((r.out.take (k + 1)).map shM = (r.out.take k).map shM ++ [shM s]) := Lib.hid (by rw [List.take_succ_eq_append_getElem hlt, List.map_append, HSe.out]; rfl)
                  have HGo : Hid (∀ j, (h : j < r.out.length) → j < k + 1 → shB r.out[j] r.ar = true) := Lib.hid (fun j' hj h => by
                    rcases Nat.lt_or_eq_of_le (Nat.le_of_lt_succ h) with h3 | h3
                    · exact HS.out.good j' hj h3
                    · subst h3; rw [HSe.out]; exact sh_yes HFi.out (fun i hi => HJ.out i hi (by omega)))
                  clear hdl
                  obtain ⟨ds, hds⟩ : ∃ ds, (r.out.take k).map shM = ds := ⟨_, rfl⟩
                  rw [hds] at HMF HD P5 HSn
                  clear hds
                  have hzn := HBi.out.size
                  go_wp2_with (at_builtin; refine wpList_append_own_at _ rfl _ _ 41 rfl W0.heap.size 25 j0 (.agg #[.int .u8 0, .slice none 0 0]) 2 32 Tryd.underlying41 hj hy0 hy1 hy2 rfl (by decide) u4 k (modC ds vs) rfl P5.out ⟨wn.heap.size, 0, none⟩ 1 1 [.int .u8 sc, .slice (some ⟨W1.heap.size, 0, none⟩) n n] rfl rfl (two_new _ _ _ _) (by simp [Value.oneCell']) (by rw [HM.out]; omega) (by omega) (by simp; omega) ?_; intro v2 w5 ho2 hg2 hn2 hb2)
                  have M5 := Lib.hid (modFr_snoc (m := shM s) HMF.out hsz BX.out A5.out (by rw [HD.out]; have e := HSc.out; subst e; exact ho2) hg2 hb2)
                  have BW : Hid (Below W0.heap.size W0 w5) := Lib.hid ((HS.out.below.trans (BX.out.mono hsz)).grown hg2 (by have := BX.out.size; omega) (fun j e => (owns_lt HMF.out.row j e).1))
                  have HT : Hid (FrAt W0 r.out r.ar (k + 1) v2 w5) := Lib.hid ⟨by omega, BW.out, ⟨_, by rw [HSn.out]; exact M5.out⟩, HGo.out⟩
                  clear ho2 hg2 hn2 hb2
                  go_wp2_with fail
                  go_roundw
                  case rel => exact ⟨k + 1, by go_num, HT.out⟩
                  case measure => simp [intOf]; omega
          · obtain ⟨W2, hW2⟩ : ∃ W, W = ((W1.alloc (.cells #[.int .u8 s.c.toNat, .slice (some ⟨W1.heap.size + 1, 0, none⟩) s.a.length s.a.length] 25)).alloc (.cells (zeros s.a.length) 3)).drew := ⟨_, rfl⟩
            have hT : TwoBl W1 W2 (W1.heap.size) (W1.heap.size + 1) s := by rw [hW2]; exact twoBl_b W1 s a10
            have HT2 := Lib.hid hT
            have b2 : Below wi.heap.size wi W2 := E1.out.trans (hT.below.mono hz1)
            have E2 := Lib.hid b2
            have hz2 := b2.size
            have x1 := (hT.below.cell (p := ⟨w.heap.size, 1, none⟩) (show w.heap.size < W1.heap.size by omega)).trans ((E1.out.cell (p := ⟨w.heap.size, 1, none⟩) li).trans z1)
            have v1 := (hT.below.cell (p := ⟨wi.heap.size, 1, none⟩) lp).trans p1
            have u0 := cell_two0 hT.mod
            have u1 := cell_two1 hT.mod
            have lm := lt_of_block hT.mod
            have KI : Hid (Calls Tryd.prog 41 #[.agg #[.int .u8 s.c.toNat, .slice (some ⟨W1.heap.size + 1, 0, none⟩) s.a.length s.a.length]] W2 fun e w' => e = .returned (.bool (fineB (shM s))) ∧ Below W2.heap.size W2 w') :=
              Lib.hid (fine_any (shM s) _ (by simp [shM]; omega) W2 (ints_of_owned hT.own))
            obtain ⟨n, hn⟩ : ∃ n, s.a.length = n := ⟨_, rfl⟩
            have HN := Lib.hid hn
            obtain ⟨sc, hsc⟩ : ∃ sc : Nat, s.c.toNat = sc := ⟨_, rfl⟩
            have HSc := Lib.hid hsc
            rw [← hW2]
            clear hT b2 hW2
            rw [hn] at u1 v1 KI a10 e2 p1
            rw [hsc] at u0 KI e1 p0
            clear hn hsc
            cases hf : fineB (shM s) with
            | false =>
              rw [hf] at KI
              have HF := Lib.hid (rb_out hlt (by rw [HSe.out]; exact sh_no1 hf))
              clear hf
              go_wp2_with fail
              refine KI.out.mono ?_
              rintro e w3 ⟨rfl, hb⟩
              have B3 := Lib.hid (HB.out.trans ((HS.out.below.trans ((E2.out.trans (hb.mono hz2)).mono hsz)).mono HB.out.size))
              clear hb
              go_wp2_with fail
              go_ret
              exact ⟨ret_bool HF.out.symm, B3.out⟩
            | true =>
              rw [hf] at KI
              have HFi := Lib.hid hf
              clear hf
              go_wp2_with fail
              refine KI.out.mono ?_
              rintro e w3 ⟨rfl, hb⟩
              have E3 := Lib.hid hb
              clear hb
              go_wp2_with fail
              go_loopw [8] (fun i wr => ∃ j : Nat, j ≤ n ∧ i = .int .i64 j ∧ Below W2.heap.size W2 wr ∧ ∀ j', (hj : j' < s.a.length) → j' < j → formB s.a[j'] r.ar = true) (fun i _ => n - (intOf i).toNat)
              case atStart => exact ⟨0, Nat.zero_le _, rfl, E3.out, fun j _ h => by omega⟩
              case round =>
                rename World => wn
                obtain ⟨j, hjn, rfl, hb, hok⟩ := hrel
                have HJ := Lib.hid hok
                have HBn := Lib.hid hb
                have hbz := hb.size
                have x1n := (hb.cell (p := ⟨w.heap.size, 1, none⟩) (show w.heap.size < W2.heap.size by have := HT2.out.below.size; omega)).trans x1
                have v1n := (hb.cell (p := ⟨wi.heap.size, 1, none⟩) (show wi.heap.size < W2.heap.size by have := HT2.out.below.size; omega)).trans v1
                have u0n := (hb.cell (p := ⟨W1.heap.size, 0, none⟩) lm).trans u0
                have u1n := (hb.cell (p := ⟨W1.heap.size, 1, none⟩) lm).trans u1
                have HBi : Hid (Below wi.heap.size wi wn) := Lib.hid (E2.out.trans (hb.mono hz2))
                clear hok hb
                by_cases hjl : j < s.a.length
                · obtain ⟨bg, og, cgp, qf, df, hp, f0, f1, hin, lg⟩ := (HI.out.later HBi.out).at hjl
                  obtain rfl : q = some ⟨bg, og, none⟩ := by cases hp; rfl
                  have j1 : (j : Int) < (n : Int) := by have := HN.out; omega
                  have HCw : Hid (∀ (d' : Nat) (os : Array Obj), Calls Tryd.prog 88 #[.agg #[.int .i64 s.a[j].k, .slice qf s.a[j].cs.length df], .int .i64 r.ar] («Sort».grow (redrawn wn d') os) fun e w' =>
                      e = .returned (.bool (formB s.a[j] r.ar)) ∧ Below («Sort».grow (redrawn wn d') os).heap.size («Sort».grow (redrawn wn d') os) w') :=
                    Lib.hid (fun d' os => refform_any s.a[j] _ r.ar (by have := HAc.out _ (List.getElem_mem hjl); omega) _ (hin.later (below_regrown wn d' os)))
                  obtain ⟨t, ht⟩ : ∃ t, formB s.a[j] r.ar = t := ⟨_, rfl⟩
                  have HT := Lib.hid ht
                  rw [ht] at HCw
                  obtain ⟨fk, hfk⟩ : ∃ fk, s.a[j].k = fk := ⟨_, rfl⟩
                  obtain ⟨fl, hfl⟩ : ∃ fl, s.a[j].cs.length = fl := ⟨_, rfl⟩
                  rw [hfk] at f0 HCw
                  rw [hfl] at f1 HCw
                  clear hp hin ht hfk hfl
                  have r1 := fun d os => cell_regrown f0 d os
                  have r2 := fun d os => cell_regrown f1 d os
                  have r3 := fun d os => cell_regrown x1n d os
                  have r4 := fun d os => cell_regrown v1n d os
                  go_wp2_with fail
                  refine wp_region_quiet_below (by kernel_rfl) (by kernel_rfl) ?_
                  repeat (any_goals (first | go_big_quiet_step ((go_at_call 88; exact Calls.regrown_of (HCw.out _ _))) | quiet_step ((go_at_call 88; exact Calls.regrown_of (HCw.out _ _)))))
                  refine wpQuiet_nil ?_
                  intro _ hw'
                  obtain ⟨⟨dq, osq⟩, hw''⟩ := hw'
                  subst hw''
                  have HBq : Hid (Below W2.heap.size W2 («Sort».grow (redrawn wn dq) osq)) := Lib.hid (HBn.out.trans ((below_regrown wn dq osq).mono hbz))
                  cases t with
                  | false =>
                    have HF := Lib.hid (rb_out hlt (by rw [HSe.out]; exact sh_no2 hjl HT.out))
                    have HBw := Lib.hid (HB.out.trans ((HS.out.below.trans ((E2.out.trans (HBq.out.mono hz2)).mono hsz)).mono HB.out.size))
                    go_wp2_with fail
                    go_ret
                    exact ⟨ret_bool HF.out.symm, HBw.out⟩
                  | true =>
                    have HG2 : Hid (∀ j', (hj : j' < s.a.length) → j' < j + 1 → formB s.a[j'] r.ar = true) := Lib.hid (fun j' hj h => by
                      rcases Nat.lt_or_eq_of_le (Nat.le_of_lt_succ h) with h1 | h1
                      · exact HJ.out j' hj h1
                      · subst h1; exact HT.out)
                    go_wp2_with fail
                    go_roundw
                    case rel => exact ⟨j + 1, by have := HN.out; omega, by go_num, HBq.out, HG2.out⟩
                    case measure => have := HN.out; simp [intOf]; omega
                · have j1 : ¬ (j : Int) < (n : Int) := by have := HN.out; omega
                  have hdl : ((r.out.take k).map shM).length = k := by rw [List.length_map, List.length_take]; omega
                  have HD := Lib.hid hdl
                  have BX : Hid (Below wi.heap.size wi (wn.alloc (.cells #[.int .u8 sc, .slice (some ⟨W1.heap.size + 1, 0, none⟩) n n] 25))) := Lib.hid (HBi.out.alloc HBi.out.size _)
                  have P5 := Lib.hid (l_own_later HMF.out.row BX.out)
                  rw [hdl] at P5
                  have A5 : Hid ((wn.alloc (.cells #[.int .u8 sc, .slice (some ⟨W1.heap.size + 1, 0, none⟩) n n] 25)).ownsRow wi.heap.size 3 1 (.slice (some ⟨W1.heap.size + 1, 0, none⟩) n n) (shM s).a.length (valsL (shM s).a)) := Lib.hid (by
                    have h := (owns_mono (l_own_later HT2.out.own HBn.out) hz1).alloc (.cells #[.int .u8 sc, .slice (some ⟨W1.heap.size + 1, 0, none⟩) n n] 25)
                    rw [HN.out] at h; exact h)
                  have HSn : Hid ((r.out.take (k + 1)).map shM = (r.out.take k).map shM ++ [shM s]) := Lib.hid (by rw [List.take_succ_eq_append_getElem hlt, List.map_append, HSe.out]; rfl)
                  have HGo : Hid (∀ j, (h : j < r.out.length) → j < k + 1 → shB r.out[j] r.ar = true) := Lib.hid (fun j' hj h => by
                    rcases Nat.lt_or_eq_of_le (Nat.le_of_lt_succ h) with h3 | h3
                    · exact HS.out.good j' hj h3
                    · subst h3; rw [HSe.out]; exact sh_yes HFi.out (fun i hi => HJ.out i hi (by omega)))
                  clear hdl
                  obtain ⟨ds, hds⟩ : ∃ ds, (r.out.take k).map shM = ds := ⟨_, rfl⟩
                  rw [hds] at HMF HD P5 HSn
                  clear hds
                  have hzn := HBi.out.size
                  go_wp2_with (at_builtin; refine wpList_append_own_at _ rfl _ _ 41 rfl W0.heap.size 25 j0 (.agg #[.int .u8 0, .slice none 0 0]) 2 32 Tryd.underlying41 hj hy0 hy1 hy2 rfl (by decide) u4 k (modC ds vs) rfl P5.out ⟨wn.heap.size, 0, none⟩ 1 1 [.int .u8 sc, .slice (some ⟨W1.heap.size + 1, 0, none⟩) n n] rfl rfl (two_new _ _ _ _) (by simp [Value.oneCell']) (by rw [HM.out]; omega) (by omega) (by simp; omega) ?_; intro v2 w5 ho2 hg2 hn2 hb2)
                  have M5 := Lib.hid (modFr_snoc (m := shM s) HMF.out hsz BX.out A5.out (by rw [HD.out]; have e := HSc.out; subst e; exact ho2) hg2 hb2)
                  have BW : Hid (Below W0.heap.size W0 w5) := Lib.hid ((HS.out.below.trans (BX.out.mono hsz)).grown hg2 (by have := BX.out.size; omega) (fun j e => (owns_lt HMF.out.row j e).1))
                  have HT : Hid (FrAt W0 r.out r.ar (k + 1) v2 w5) := Lib.hid ⟨by omega, BW.out, ⟨_, by rw [HSn.out]; exact M5.out⟩, HGo.out⟩
                  clear ho2 hg2 hn2 hb2
                  go_wp2_with fail
                  go_roundw
                  case rel => exact ⟨k + 1, by go_num, HT.out⟩
                  case measure => simp [intOf]; omega
        · obtain rfl : k = r.out.length := by omega
          obtain ⟨vs, hM⟩ := HS.out.own
          rw [List.take_length] at hM
          have KC := Lib.hid (check_any _ (r.out.map shM) (by rw [List.length_map]; omega) (fun m hm => by
            obtain ⟨x, hx, rfl⟩ := List.mem_map.1 hm
            have := (S4.out x hx).1
            simpa [shM] using this) wi hM.mods)
          have HF := Lib.hid (fun b h => HFin.out b HGd.out (fun i hi => HS.out.good i hi hi) h)
          obtain ⟨x, hx⟩ : ∃ x, chk (r.out.map shM) = x := ⟨_, rfl⟩
          rw [hx] at KC HF
          obtain ⟨pu, cu, hu⟩ := hM.mods.slice
          rw [List.length_map] at hu
          subst hu
          clear hM hx
          go_wp2_with fail
          refine KC.out.mono ?_
          rintro e w3 ⟨rfl, hb⟩
          have B3 := Lib.hid (HB.out.trans ((HS.out.below.trans (hb.mono hsz)).mono HB.out.size))
          clear hb
          go_wp2_with fail
          go_ret
          exact ⟨ret_bool (by rw [HF.out (decide (x = 0)) rfl]; rw [Bool.eq_iff_iff, beq_iff_eq, decide_eq_true_iff]), B3.out⟩
set_option maxRecDepth 100000 in
set_option maxHeartbeats 3200000 in
theorem fineR_any : FineR := by
  intro r gv ov w hs h1 h2
  obtain ⟨pg, cg, rfl⟩ := h1.slice
  obtain ⟨po, co, rfl⟩ := h2.slice
  unfold rwV
  by_cases hmain : letB r.c = true ∧ braB r.c = false ∧ ¬ r.ar < 0 ∧ ¬ 4 < r.ar
  · obtain ⟨c1, c2, c3, c4⟩ := hmain
    exact fineR_out r pg cg po co hs w h1 h2 c1 c2 c3 c4
  obtain ⟨W0, hW0⟩ : ∃ W, W = w.alloc (.cells #[.int .u8 r.c.toNat, .int .i64 r.ar, .int .u8 r.l.toNat, .int .u8 r.r.toNat, .slice pg r.gs.length cg, .int .i64 r.wt, .slice po r.out.length co] 31) := ⟨_, rfl⟩
  have N1 : W0.heap[w.heap.size]? = some (.cells #[.int .u8 r.c.toNat, .int .i64 r.ar, .int .u8 r.l.toNat, .int .u8 r.r.toNat, .slice pg r.gs.length cg, .int .i64 r.wt, .slice po r.out.length co] 31 (0, 0)) := by rw [hW0]; exact heap_alloc_new _ _
  have B0 : Below w.heap.size w W0 := by rw [hW0]; exact (Below.refl _ _).alloc (Nat.le_refl _) _
  have HB := Lib.hid B0
  have q0 : W0.cell? ⟨w.heap.size, 0, none⟩ = some (.int .u8 r.c.toNat) := by simp [World.cell?, N1]
  have q1 : W0.cell? ⟨w.heap.size, 1, none⟩ = some (.int .i64 r.ar) := by simp [World.cell?, N1]
  have KL := Lib.hid (fun w => letter_any r.c w)
  have e91 := u8_91 r.c
  have e93 := u8_93 r.c
  clear N1 B0 h1 h2
  cases c1 : letB r.c with
  | false =>
    have HF := Lib.hid (rb_let c1)
    rw [c1] at KL
    clear c1 hmain e91 e93
    generalize r.c.toNat = cn at KL hW0 q0 ⊢
    go_enter Tryd.func64, Tryd.ntmps64
    go_wp2_with fail
    rw [← hW0]
    clear hW0
    go_wp2_with fail
    refine (KL.out _).mono ?_
    rintro e wx ⟨rfl, rfl⟩
    go_wp2_with fail
    go_ret
    exact ⟨ret_bool HF.out.symm, HB.out⟩
  | true =>
    rw [c1] at KL
    cases t1 : ((r.c.toNat : Int) == 91) with
    | true =>
      have HF := Lib.hid (rb_bra (r := r) (by unfold braB; rw [← e91, t1]; rfl))
      clear c1 hmain e91 e93
      generalize r.c.toNat = cn at KL hW0 q0 t1 ⊢
      go_enter Tryd.func64, Tryd.ntmps64
      go_wp2_with fail
      rw [← hW0]
      clear hW0
      go_wp2_with fail
      refine (KL.out _).mono ?_
      rintro e wx ⟨rfl, rfl⟩
      go_wp2_with fail
      go_ret
      exact ⟨ret_bool HF.out.symm, HB.out⟩
    | false =>
      cases t2 : ((r.c.toNat : Int) == 93) with
      | true =>
        have HF := Lib.hid (rb_bra (r := r) (by unfold braB; rw [← e93, t2]; simp))
        clear c1 hmain e91 e93
        generalize r.c.toNat = cn at KL hW0 q0 t1 t2 ⊢
        go_enter Tryd.func64, Tryd.ntmps64
        go_wp2_with fail
        rw [← hW0]
        clear hW0
        go_wp2_with fail
        refine (KL.out _).mono ?_
        rintro e wx ⟨rfl, rfl⟩
        go_wp2_with fail
        go_ret
        exact ⟨ret_bool HF.out.symm, HB.out⟩
      | false =>
        have hb : braB r.c = false := by unfold braB; rw [← e91, ← e93, t1, t2]; rfl
        by_cases a1 : r.ar < 0
        · have HF := Lib.hid (rb_lo a1)
          clear c1 hmain e91 e93 hb
          generalize r.c.toNat = cn at KL hW0 q0 t1 t2 ⊢
          generalize r.ar = ar at hW0 q1 a1 ⊢
          go_enter Tryd.func64, Tryd.ntmps64
          go_wp2_with fail
          rw [← hW0]
          clear hW0
          go_wp2_with fail
          refine (KL.out _).mono ?_
          rintro e wx ⟨rfl, rfl⟩
          go_wp2_with fail
          go_ret
          exact ⟨ret_bool HF.out.symm, HB.out⟩
        · by_cases a2 : 4 < r.ar
          · have HF := Lib.hid (rb_hi a2)
            clear c1 hmain e91 e93 hb
            generalize r.c.toNat = cn at KL hW0 q0 t1 t2 ⊢
            generalize r.ar = ar at hW0 q1 a1 a2 ⊢
            go_enter Tryd.func64, Tryd.ntmps64
            go_wp2_with fail
            rw [← hW0]
            clear hW0
            go_wp2_with fail
            refine (KL.out _).mono ?_
            rintro e wx ⟨rfl, rfl⟩
            go_wp2_with fail
            go_ret
            exact ⟨ret_bool HF.out.symm, HB.out⟩
          · exact absurd ⟨c1, hb, a1, a2⟩ hmain
end Go.Proofs.YtepoaobjcpgilaaDoor
namespace Go.Proofs.YtepoaobjcpgilaaDoor
open Go.RowKit
open WM RM
set_option linter.unusedVariables false
set_option linter.unusedSimpArgs false

/-- Is a shape, a rule too great? -/
def shG (s : Sh) : Bool := decide (10 < s.a.length) || s.a.any fun g => decide (10 < g.cs.length)
def rwG (r : Rw) : Bool := decide (10 < r.gs.length) || decide (30 < r.out.length) || r.gs.any (fun g => decide (10 < g.cs.length)) || r.out.any shG
theorem greatR_eq (l : List Rw) : greatR l = (decide (50 < l.length) || l.any rwG) := rfl
theorem greatR_len {l : List Rw} (h : 50 < l.length) : greatR l = true := by rw [greatR_eq]; simp [h]
theorem greatR_at {l : List Rw} {i : Nat} (hi : i < l.length) (h : rwG l[i] = true) : greatR l = true := by
  rw [greatR_eq, show l.any rwG = true from List.any_eq_true.2 ⟨_, List.getElem_mem hi, h⟩]; simp
theorem greatR_not {l : List Rw} (h1 : ¬ 50 < l.length) (h : ∀ i, (hi : i < l.length) → rwG l[i] = false) : greatR l = false := by
  have : l.any rwG = false := by
    rw [List.any_eq_false]
    intro x hx
    obtain ⟨j, hj, rfl⟩ := List.mem_iff_getElem.1 hx
    rw [h j hj]; decide
  rw [greatR_eq, this]; simpa using h1
theorem rwG_1 {r : Rw} (h : 10 < r.gs.length) : rwG r = true := by simp [rwG, h]
theorem rwG_2 {r : Rw} (h : 30 < r.out.length) : rwG r = true := by simp [rwG, h]
theorem rwG_3 {r : Rw} {k : Nat} (hk : k < r.gs.length) (h : 10 < r.gs[k].cs.length) : rwG r = true := by
  have : r.gs.any (fun g => decide (10 < g.cs.length)) = true := List.any_eq_true.2 ⟨_, List.getElem_mem hk, by simpa using h⟩
  unfold rwG; rw [this]; simp
theorem rwG_4 {r : Rw} {k : Nat} (hk : k < r.out.length) (h : shG r.out[k] = true) : rwG r = true := by
  have : r.out.any shG = true := List.any_eq_true.2 ⟨_, List.getElem_mem hk, h⟩
  unfold rwG; rw [this]; simp
theorem shG_1 {s : Sh} (h : 10 < s.a.length) : shG s = true := by simp [shG, h]
theorem shG_2 {s : Sh} {k : Nat} (hk : k < s.a.length) (h : 10 < s.a[k].cs.length) : shG s = true := by
  have : s.a.any (fun g => decide (10 < g.cs.length)) = true := List.any_eq_true.2 ⟨_, List.getElem_mem hk, by simpa using h⟩
  unfold shG; rw [this]; simp
theorem shG_no {s : Sh} (h1 : ¬ 10 < s.a.length) (h : ∀ k, (hk : k < s.a.length) → ¬ 10 < s.a[k].cs.length) : shG s = false := by
  have : s.a.any (fun g => decide (10 < g.cs.length)) = false := by
    rw [List.any_eq_false]
    intro x hx
    obtain ⟨j, hj, rfl⟩ := List.mem_iff_getElem.1 hx
    simpa using h j hj
  unfold shG; rw [this]; simpa using h1
theorem rwG_no {r : Rw} (h1 : ¬ 10 < r.gs.length) (h2 : ¬ 30 < r.out.length) (h3 : ∀ k, (hk : k < r.gs.length) → ¬ 10 < r.gs[k].cs.length) (h4 : ∀ k, (hk : k < r.out.length) → shG r.out[k] = false) : rwG r = false := by
  have a : r.gs.any (fun g => decide (10 < g.cs.length)) = false := by
    rw [List.any_eq_false]
    intro x hx
    obtain ⟨j, hj, rfl⟩ := List.mem_iff_getElem.1 hx
    simpa using h3 j hj
  have b : r.out.any shG = false := by
    rw [List.any_eq_false]
    intro x hx
    obtain ⟨j, hj, rfl⟩ := List.mem_iff_getElem.1 hx
    rw [h4 j hj]; decide
  unfold rwG; rw [a, b]; simp; omega
theorem upto_step {α : Prop} {n k : Nat} {P : Nat → Prop} (h : ∀ j, j < n → j < k → P j) (hk : P k) : ∀ j, j < n → j < k + 1 → P j := by
  intro j hj h2
  rcases Nat.lt_or_eq_of_le (Nat.le_of_lt_succ h2) with h3 | h3
  · exact h j hj h3
  · subst h3; exact hk
set_option maxRecDepth 100000 in
set_option maxHeartbeats 6400000 in
theorem refgreat_any (v : Value) (l : List Rw) (hmax : l.length ≤ 9223372036854775807) (w : World) (hv : Rws w v l) :
    Calls Tryd.prog 25 #[v] w fun e w' => e = .returned (.bool (greatR l)) ∧ w = w' := by
  obtain ⟨p, cap, rfl⟩ := hv.slice
  have HV := Lib.hid hv
  clear hv
  by_cases h50 : 50 < l.length
  · have HF := Lib.hid (greatR_len h50)
    have c1 : (50 : Int) < (l.length : Int) := by omega
    go_enter Tryd.func25, Tryd.ntmps25
    go_wp2_with fail
    go_ret
    exact ⟨ret_bool HF.out.symm, rfl⟩
  · have c1 : ¬ (50 : Int) < (l.length : Int) := by omega
    go_enter Tryd.func25, Tryd.ntmps25
    go_wp2_with fail
    go_loop [3] (fun i => ∃ k : Nat, k ≤ l.length ∧ i = .int .i64 k ∧ ∀ j, (hj : j < l.length) → j < k → rwG l[j] = false) (fun i => l.length - (intOf i).toNat)
    case atStart => exact ⟨0, Nat.zero_le _, rfl, fun j _ h => by omega⟩
    case round =>
      obtain ⟨i, hi, rfl, hok⟩ := hrel
      have HK := Lib.hid hok
      clear hok
      by_cases hlt : i < l.length
      · obtain ⟨b, off, cap', g, gc, o, oc, hp, lb, hat⟩ := HV.out.at hlt
        obtain rfl : p = some ⟨b, off, none⟩ := by cases hp; rfl
        have e4 := hat.c4
        have e6 := hat.c6
        have HGs := Lib.hid hat.gs
        have HOs := Lib.hid hat.out
        have k1 : (i : Int) < (l.length : Int) := by omega
        have HAt := Lib.hid (fun h => greatR_at hlt h)
        have HNx : Hid (rwG l[i] = false → ∀ j, (hj : j < l.length) → j < i + 1 → rwG l[j] = false) := Lib.hid (fun hn j hj h => by
          rcases Nat.lt_or_eq_of_le (Nat.le_of_lt_succ h) with h3 | h3
          · exact HK.out j hj h3
          · subst h3; exact hn)
        clear hp hat
        generalize l[i] = r at e4 e6 HGs HOs HAt HNx
        by_cases hg : 10 < r.gs.length
        · have HF := Lib.hid (HAt.out (rwG_1 hg))
          have c2 : (10 : Int) < (r.gs.length : Int) := by omega
          go_wp2_with fail
          go_ret
          exact ⟨ret_bool HF.out.symm, rfl⟩
        by_cases ho : 30 < r.out.length
        · have HF := Lib.hid (HAt.out (rwG_2 ho))
          have c2 : ¬ (10 : Int) < (r.gs.length : Int) := by omega
          have c3 : (30 : Int) < (r.out.length : Int) := by omega
          go_wp2_with fail
          go_ret
          exact ⟨ret_bool HF.out.symm, rfl⟩
        have c2 : ¬ (10 : Int) < (r.gs.length : Int) := by omega
        have c3 : ¬ (30 : Int) < (r.out.length : Int) := by omega
        go_wp2_with fail
        go_loop [4] (fun i' => ∃ k : Nat, k ≤ r.gs.length ∧ i' = .int .i64 k ∧ ∀ j, (hj : j < r.gs.length) → j < k → ¬ 10 < r.gs[j].cs.length) (fun i' => r.gs.length - (intOf i').toNat)
        case atStart => exact ⟨0, Nat.zero_le _, rfl, fun j _ h => by omega⟩
        case round =>
          obtain ⟨k, hk, rfl, hok⟩ := hrel
          have HGK := Lib.hid hok
          clear hok
          by_cases hkl : k < r.gs.length
          · obtain ⟨b2, off2, cap2, pf, cf, hp2, f0, f1, -, lb2⟩ := HGs.out.at hkl
            obtain rfl : g = some ⟨b2, off2, none⟩ := by cases hp2; rfl
            have k2 : (k : Int) < (r.gs.length : Int) := by omega
            clear hp2
            by_cases h10 : 10 < r.gs[k].cs.length
            · have HF := Lib.hid (HAt.out (rwG_3 hkl h10))
              have c4 : (10 : Int) < (r.gs[k].cs.length : Int) := by omega
              generalize r.gs[k].cs.length = n at f1 c4
              go_wp2_with fail
              go_ret
              exact ⟨ret_bool HF.out.symm, rfl⟩
            · have c4 : ¬ (10 : Int) < (r.gs[k].cs.length : Int) := by omega
              have HN : Hid (∀ j, (hj : j < r.gs.length) → j < k + 1 → ¬ 10 < r.gs[j].cs.length) := Lib.hid (fun j hj h => by
                rcases Nat.lt_or_eq_of_le (Nat.le_of_lt_succ h) with h3 | h3
                · exact HGK.out j hj h3
                · subst h3; exact h10)
              clear h10
              generalize r.gs[k].cs.length = n at f1 c4
              go_wp2_with fail
              go_round
              case rel => exact ⟨k + 1, by omega, by go_num, HN.out⟩
              case measure => simp [intOf]; omega
          · obtain rfl : k = r.gs.length := by omega
            have k2 : ¬ (r.gs.length : Int) < (r.gs.length : Int) := by omega
            go_wp2_with fail
            go_loop [5] (fun i' => ∃ k : Nat, k ≤ r.out.length ∧ i' = .int .i64 k ∧ ∀ j, (hj : j < r.out.length) → j < k → shG r.out[j] = false) (fun i' => r.out.length - (intOf i').toNat)
            case atStart => exact ⟨0, Nat.zero_le _, rfl, fun j _ h => by omega⟩
            case round =>
              obtain ⟨k, hk2, rfl, hok⟩ := hrel
              have HOK := Lib.hid hok
              clear hok
              by_cases hkl : k < r.out.length
              · obtain ⟨b2, off2, cap2, pf, cf, hp2, f0, f1, hin, lb2⟩ := HOs.out.at hkl
                obtain rfl : o = some ⟨b2, off2, none⟩ := by cases hp2; rfl
                have k3 : (k : Int) < (r.out.length : Int) := by omega
                have HFs := Lib.hid hin
                have HA2 := Lib.hid (fun h => HAt.out (rwG_4 hkl h))
                have HN2 : Hid (shG r.out[k] = false → ∀ j, (hj : j < r.out.length) → j < k + 1 → shG r.out[j] = false) := Lib.hid (fun hn j hj h => by
                  rcases Nat.lt_or_eq_of_le (Nat.le_of_lt_succ h) with h3 | h3
                  · exact HOK.out j hj h3
                  · subst h3; exact hn)
                clear hp2 hin
                generalize r.out[k] = s at f0 f1 HFs HA2 HN2
                by_cases h10 : 10 < s.a.length
                · have HF := Lib.hid (HA2.out (shG_1 h10))
                  have c4 : (10 : Int) < (s.a.length : Int) := by omega
                  go_wp2_with fail
                  go_ret
                  exact ⟨ret_bool HF.out.symm, rfl⟩
                · have c4 : ¬ (10 : Int) < (s.a.length : Int) := by omega
                  go_wp2_with fail
                  go_loop [6] (fun i' => ∃ n : Nat, n ≤ s.a.length ∧ i' = .int .i64 n ∧ ∀ j, (hj : j < s.a.length) → j < n → ¬ 10 < s.a[j].cs.length) (fun i' => s.a.length - (intOf i').toNat)
                  case atStart => exact ⟨0, Nat.zero_le _, rfl, fun j _ h => by omega⟩
                  case round =>
                    obtain ⟨n, hn, rfl, hok⟩ := hrel
                    have HSK := Lib.hid hok
                    clear hok
                    by_cases hnl : n < s.a.length
                    · obtain ⟨b3, off3, cap3, pg, cg, hp3, g0, g1, -, lb3⟩ := HFs.out.at hnl
                      obtain rfl : pf = some ⟨b3, off3, none⟩ := by cases hp3; rfl
                      have k4 : (n : Int) < (s.a.length : Int) := by omega
                      clear hp3
                      by_cases hx : 10 < s.a[n].cs.length
                      · have HF := Lib.hid (HA2.out (shG_2 hnl hx))
                        have c5 : (10 : Int) < (s.a[n].cs.length : Int) := by omega
                        generalize s.a[n].cs.length = z at g1 c5
                        go_wp2_with fail
                        go_ret
                        exact ⟨ret_bool HF.out.symm, rfl⟩
                      · have c5 : ¬ (10 : Int) < (s.a[n].cs.length : Int) := by omega
                        have HN : Hid (∀ j, (hj : j < s.a.length) → j < n + 1 → ¬ 10 < s.a[j].cs.length) := Lib.hid (fun j hj h => by
                          rcases Nat.lt_or_eq_of_le (Nat.le_of_lt_succ h) with h3 | h3
                          · exact HSK.out j hj h3
                          · subst h3; exact hx)
                        clear hx
                        generalize s.a[n].cs.length = z at g1 c5
                        go_wp2_with fail
                        go_round
                        case rel => exact ⟨n + 1, by omega, by go_num, HN.out⟩
                        case measure => simp [intOf]; omega
                    · obtain rfl : n = s.a.length := by omega
                      have k4 : ¬ (s.a.length : Int) < (s.a.length : Int) := by omega
                      have HN := Lib.hid (HN2.out (shG_no h10 (fun j hj => HSK.out j hj hj)))
                      go_wp2_with fail
                      go_round
                      case rel => exact ⟨k + 1, by omega, by go_num, HN.out⟩
                      case measure => simp [intOf]; omega
              · obtain rfl : k = r.out.length := by omega
                have k3 : ¬ (r.out.length : Int) < (r.out.length : Int) := by omega
                have HN := Lib.hid (HNx.out (rwG_no hg ho (fun j hj => HGK.out j hj hj) (fun j hj => HOK.out j hj hj)))
                go_wp2_with fail
                go_round
                case rel => exact ⟨i + 1, by omega, by go_num, HN.out⟩
                case measure => simp [intOf]; omega
      · obtain rfl : i = l.length := by omega
        have HF := Lib.hid (greatR_not h50 (fun i hi => HK.out i hi hi))
        go_wp2_with fail
        go_ret
        exact ⟨ret_bool HF.out.symm, rfl⟩
/-- Rules that are not great are small. -/
theorem greatR_sm {l : List Rw} (h : greatR l = false) : l.length ≤ 50 ∧ ∀ r ∈ l, RwSm r := by
  rw [greatR_eq, Bool.or_eq_false_iff] at h
  refine ⟨by simpa using h.1, fun r hr => ?_⟩
  have h2 := List.any_eq_false.1 h.2 r hr
  have h3 : rwG r = false := by simpa using h2
  unfold rwG at h3
  simp only [Bool.or_eq_false_iff, decide_eq_false_iff_not] at h3
  obtain ⟨⟨⟨a, b⟩, c⟩, d⟩ := h3
  refine ⟨by omega, by omega, fun f hf => ?_, fun s hs => ?_⟩
  · have := List.any_eq_false.1 c f hf
    simpa using this
  · have := List.any_eq_false.1 d s hs
    have h4 : shG s = false := by simpa using this
    unfold shG at h4
    simp only [Bool.or_eq_false_iff, decide_eq_false_iff_not] at h4
    refine ⟨by omega, fun f hf => ?_⟩
    have := List.any_eq_false.1 h4.2 f hf
    simpa using this
end Go.Proofs.YtepoaobjcpgilaaDoor
namespace Go.Proofs.YtepoaobjcpgilaaDoor
open Go.RowKit
open WM RM
set_option linter.unusedVariables false
set_option linter.unusedSimpArgs false

theorem st_chain {X Y Z : World} (h : Below X.heap.size X Y) (h2 : Below Y.heap.size Y Z) : Below X.heap.size X Z := h.trans (h2.mono h.size)
theorem st_keep2 {W w' : World} {b c : Nat} (h1 : b < W.heap.size) (h2 : c < W.heap.size) (hb : Below W.heap.size W w') : (∀ o, w'.cell? ⟨b, o, none⟩ = W.cell? ⟨b, o, none⟩) ∧ (∀ o, w'.cell? ⟨c, o, none⟩ = W.cell? ⟨c, o, none⟩) :=
  ⟨fun o => hb.cell (p := ⟨b, o, none⟩) h1, fun o => hb.cell (p := ⟨c, o, none⟩) h2⟩
theorem own_sl {w : World} {base n size : Nat} {e : TypeId} {v : Value} {xs : List Value} (h : w.ownsRow base e size v n xs) : ∃ p c, v = .slice p n c := by
  rcases h.2 with ⟨h1, h2⟩ | ⟨g, cap, cur, h1, _⟩
  · exact ⟨none, 0, by rw [h1, h2]⟩
  · exact ⟨_, _, h1⟩
theorem mods_at1 {w : World} {b off len cap c2 : Nat} {l : List Md} (h : Mods w (.slice (some ⟨b, off, none⟩) len cap) l) {k : Nat} (hk : k < l.length) : Mods w (.slice (some ⟨b, off + k * 2, none⟩) 1 c2) [l[k]] := by
  cases h with
  | none _ _ => simp at hk
  | some _ _ _ _ hpos hb hx =>
    refine .some b (off + k * 2) c2 [l[k]] (by simp) hb fun i hi => ?_
    have : i = 0 := by simp at hi; omega
    subst this
    obtain ⟨h1, v, h2, h3, h4⟩ := hx k hk
    exact ⟨by simpa using h1, v, by simpa using h2, h3, h4⟩
theorem modFr_of_own {w : World} {base : Nat} {v : Value} {l : List Md} {vs : List Value} (h : ModOwn w base v l vs) : ModFr w base v l vs :=
  ⟨h.len, h.row, fun k hk hk2 => ⟨(h.args k hk hk2).own, .inr (h.args k hk hk2).apart⟩⟩
theorem stepL_snoc {l : List Rw} {w : List Md} {k : Nat} (hk : k < w.length) {d : List Md} (h : stepL l (w.take k) = some d) : stepL l (w.take (k + 1)) = (succM l w[k]).map (d ++ ·) := by
  rw [List.take_succ_eq_append_getElem hk, stepL_app, h, stepL_one]
  cases succM l w[k] <;> rfl
theorem stepL_stop {l : List Rw} {w : List Md} {k : Nat} (hk : k < w.length) {d : List Md} (h : stepL l (w.take k) = some d) (hn : succM l w[k] = none) : stepL l w = none := by
  have h1 : stepL l (w.take (k + 1)) = none := by rw [stepL_snoc hk h, hn]; rfl
  have e : w = w.take (k + 1) ++ w.drop (k + 1) := (List.take_append_drop _ _).symm
  rw [e, stepL_app, h1]
theorem succ_self {l : List Rw} {m : Md} (h : first l m < 0) : succM l m = some [m] := by unfold succM; rw [dif_neg (by omega)]
theorem succ_made {l : List Rw} {m : Md} {k : Nat} (h : first l m = (k : Int)) (hk : k < l.length) : succM l m = made l[k] m := by
  unfold succM
  rw [dif_pos (by omega)]
  have : (first l m).toNat = k := by omega
  rw [this, List.getElem?_eq_getElem hk]
theorem first_fit {l : List Rw} {m : Md} : ∀ {k : Nat}, first l m = (k : Int) → ∃ hk : k < l.length, fitB l[k] m = true := by
  have key : ∀ (l : List Rw) (i : Int) (k : Nat), firstF l m i = i + k → 0 ≤ i → ∃ hk : k < l.length, fitB l[k] m = true := by
    intro l
    induction l with
    | nil => intro i k h h0; simp [firstF] at h; omega
    | cons r l ih =>
      intro i k h h0
      unfold firstF at h
      by_cases hf : fitB r m = true
      · rw [if_pos hf] at h
        obtain rfl : k = 0 := by omega
        exact ⟨by simp, hf⟩
      · rw [if_neg hf] at h
        cases k with
        | zero =>
          exfalso
          rcases firstF_rng l m (i + 1) with h2 | ⟨h2, _⟩
          · omega
          · omega
        | succ k =>
          obtain ⟨hk, h3⟩ := ih (i + 1) k (by omega) (by omega)
          exact ⟨by simp; omega, by simpa using h3⟩
  intro k h
  exact key l 0 k (by unfold first at h; omega) (by omega)
theorem fit_ar {r : Rw} {m : Md} (h : fitB r m = true) : r.ar = (m.a.length : Int) := by
  unfold fitB at h
  simp only [Bool.and_eq_true, decide_eq_true_eq] at h
  exact h.1.2
theorem rule_forms {r : Rw} (h : ruleB r = true) : ∀ s ∈ r.out, ∀ f ∈ s.a, formB f r.ar = true := by
  unfold ruleB at h
  simp only [Bool.and_eq_true] at h
  intro s hs f hf
  have h1 := List.all_eq_true.1 h.1.2 s hs
  unfold shB at h1
  simp only [Bool.and_eq_true] at h1
  exact List.all_eq_true.1 h1.2 f hf
theorem chk_fine1 {l : List Md} (h : chk l = 0) {k : Nat} (hk : k < l.length) : fineB l[k] = true := List.all_eq_true.1 (chk_zero.1 h).2.1 _ (List.getElem_mem hk)
theorem st_rules {l : List Rw} {w : List Md} (h : rchk l ≠ 0) : stC l w = rchk l ∧ stL l w = [] := by
  have e : stC l w = rchk l := by unfold stC; rw [if_pos h]
  exact ⟨e, by unfold stL; rw [e, if_neg h]⟩
theorem st_word {l : List Rw} {w : List Md} (h : rchk l = 0) (h2 : chk w ≠ 0) : stC l w = chk w ∧ stL l w = [] := by
  have e : stC l w = chk w := by unfold stC; rw [if_neg (by simp [h]), if_pos h2]
  exact ⟨e, by unfold stL; rw [e, if_neg h2]⟩
theorem st_none {l : List Rw} {w : List Md} (h : rchk l = 0) (h2 : chk w = 0) (h3 : stepL l w = none) : stC l w = 16 ∧ stL l w = [] := by
  have e : stC l w = 16 := by unfold stC; rw [if_neg (by simp [h]), if_neg (by simp [h2]), h3]
  exact ⟨e, by unfold stL; rw [e]; rfl⟩
theorem st_many {l : List Rw} {w d : List Md} (h : rchk l = 0) (h2 : chk w = 0) (h3 : stepL l w = some d) (h4 : 2000 < d.length) : stC l w = 4 ∧ stL l w = [] := by
  have e : stC l w = 4 := by unfold stC; rw [if_neg (by simp [h]), if_neg (by simp [h2]), h3]; simp [h4]
  exact ⟨e, by unfold stL; rw [e]; rfl⟩
theorem st_ok {l : List Rw} {w d : List Md} (h : rchk l = 0) (h2 : chk w = 0) (h3 : stepL l w = some d) (h4 : ¬ 2000 < d.length) : stC l w = 0 ∧ stL l w = d := by
  have e : stC l w = 0 := by unfold stC; rw [if_neg (by simp [h]), if_neg (by simp [h2]), h3]; simp; omega
  exact ⟨e, by unfold stL; rw [e, h3]; rfl⟩
/-- How Step ends. -/
def RsEnd (l : List Rw) (wd : List Md) (w : World) (e : Ending) (w' : World) : Prop := ∃ v vs, e = .returned (.tuple #[v, .int .i64 (stC l wd)]) ∧ Below w.heap.size w w' ∧ ModFr w' w.heap.size v (stL l wd) vs
/-- Where the loop stands. -/
structure SAt (w : World) (l : List Rw) (wd : List Md) (k : Nat) (v : Value) (wr : World) : Prop where
  hi : k ≤ wd.length
  below : Below w.heap.size w wr
  own : ∃ d vs, stepL l (wd.take k) = some d ∧ d.length ≤ 20 * k ∧ ModFr wr w.heap.size v d vs
theorem sAt_start (w : World) (l : List Rw) (wd : List Md) : SAt w l wd 0 (.slice none 0 0) w := ⟨Nat.zero_le _, Below.refl _ _, [], [], rfl, by simp, modFr_nil _ _⟩
end Go.Proofs.YtepoaobjcpgilaaDoor
