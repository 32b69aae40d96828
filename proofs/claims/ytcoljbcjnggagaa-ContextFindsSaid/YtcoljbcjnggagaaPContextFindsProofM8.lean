/-
  Texts of the proof, merged: PConRefB, PWordPrE, PConPrB, PConPrC.
-/
import Derived.Test.YtcoljbcjnggagaaPContextFindsProofM6
import Derived.Test.YtcoljbcjnggagaaPContextFindsProofM7
import Derived.Laws.EntriesVeiled
import Derived.Test.YtcoljbcjnggagaaPContextFindsProofM4
import Derived.Laws.CopyOwn
import Derived.Lib.LazyBuf
import Derived.BigRegion
import Derived.RangeFuncBox
namespace Go.Proofs.Ytcoljbcjnggagaa
open Go.RowKit
open WM RM CM
set_option linter.unusedVariables false
set_option linter.unusedSimpArgs false

theorem ne_tst {c d : UInt8} (h : c ≠ d) : ((c.toNat : Int) == (d.toNat : Int)) = false := by rw [u8_eq]; exact beq_eq_false_iff_ne.2 h
theorem nn_tst {c d : UInt8} (h : c ≠ d) : ((c.toNat : Int) != (d.toNat : Int)) = true := by rw [bne, ne_tst h]; rfl
set_option maxRecDepth 100000 in
set_option maxHeartbeats 3200000 in
theorem refbefore_any (v : Value) (u : List Md) (hu : u.length ≤ 50000) (i : Nat) (hi : i ≤ u.length) (s : ByteArray) (hs : s.size ≤ 9223372036854775807) (w : World) (hv : Mods w v u) :
    Calls Try.prog 25 #[v, .int .i64 (i : Int), .string s] w fun e w' => e = .returned (.int .i64 (bef (lA s) u i)) ∧ w = w' := by
  obtain ⟨p, cap, rfl⟩ := hv.slice
  have HV := Lib.hid hv
  have KH := Lib.hid (fun c w => refhas_any s hs c w)
  clear hv
  generalize lA s = g at KH ⊢
  go_enter Try.func25, Try.ntmps25
  go_wp2_with fail
  go_loop [7, 8] (fun c k => ∃ (k' : Nat) (c' : Int), k = .int .i64 ((k' : Int) - 1) ∧ c = .int .i64 c' ∧ 0 ≤ c' ∧ c' + k' ≤ i ∧ bef g u i = bfF g u k' c') (fun _ k => (intOf k + 1).toNat)
  case atStart => exact ⟨i, 0, rfl, rfl, Int.le_refl _, by omega, rfl⟩
  case round =>
    obtain ⟨k', c', rfl, rfl, hc0, hck, heq⟩ := hrel
    have HE := Lib.hid heq
    clear heq
    cases k' with
    | zero =>
      have HF : Hid (bef g u i = -1) := Lib.hid HE.out
      rw [show (((0 : Nat) : Int) - 1) = -1 from rfl]
      clear HE
      go_wp2_with fail
      go_ret
      exact ⟨ret_int HF.out.symm, rfl⟩
    | succ k =>
      have hlt : k < u.length := by omega
      rw [show (((k + 1 : Nat) : Int) - 1) = (k : Int) by omega]
      obtain ⟨b, off, cap', q, d, hp, e1, _, _, lb⟩ := HV.out.at hlt
      obtain rfl : p = some ⟨b, off, none⟩ := by cases hp; rfl
      have hmd := md_get hlt
      have k1 : (k : Int) < (u.length : Int) := by omega
      rw [← hmd] at e1
      clear hp hmd
      by_cases c2 : (md u k).c = 93
      · have t1 : (((md u k).c.toNat : Int) == 93) = true := by rw [c2]; rfl
        have HN : Hid (bef g u i = bfF g u k (c' + 1)) := Lib.hid (by rw [HE.out, bf_close c2])
        obtain ⟨cn, hcn⟩ : ∃ cn, (md u k).c.toNat = cn := ⟨_, rfl⟩
        rw [hcn] at e1 t1
        clear hcn c2
        go_wp2_with fail
        go_round
        case rel => exact ⟨k, c' + 1, by go_num, by go_num, by omega, by omega, HN.out⟩
        case measure => first | (simp [intOf]; done) | (simp [intOf]; omega)
      · have t1 : (((md u k).c.toNat : Int) == 93) = false := ne_tst c2
        by_cases c1 : (md u k).c = 91
        · have t2 : (((md u k).c.toNat : Int) == 91) = true := by rw [c1]; rfl
          have t3 : (((md u k).c.toNat : Int) != 91) = false := by rw [c1]; rfl
          by_cases h0 : 0 < c'
          · have HN : Hid (bef g u i = bfF g u k (c' - 1)) := Lib.hid (by rw [HE.out, bf_open c1 h0])
            obtain ⟨cn, hcn⟩ : ∃ cn, (md u k).c.toNat = cn := ⟨_, rfl⟩
            rw [hcn] at e1 t1 t2 t3
            clear hcn c1 c2
            go_wp2_with fail
            go_round
            case rel => exact ⟨k, c' - 1, by go_num, by go_num, by omega, by omega, HN.out⟩
            case measure => first | (simp [intOf]; done) | (simp [intOf]; omega)
          · obtain rfl : c' = 0 := by omega
            have HN : Hid (bef g u i = bfF g u k 0) := Lib.hid (by rw [HE.out, bf_open0 c1])
            obtain ⟨cn, hcn⟩ : ∃ cn, (md u k).c.toNat = cn := ⟨_, rfl⟩
            rw [hcn] at e1 t1 t2 t3
            clear hcn c1 c2
            go_wp2_with fail
            go_round
            case rel => exact ⟨k, 0, by go_num, rfl, by omega, by omega, HN.out⟩
            case measure => first | (simp [intOf]; done) | (simp [intOf]; omega)
        · have t2 : (((md u k).c.toNat : Int) == 91) = false := ne_tst c1
          have t3 : (((md u k).c.toNat : Int) != 91) = true := nn_tst c1
          by_cases h0 : c' = 0
          · subst h0
            have KH1 := Lib.hid (fun w => KH.out (md u k).c w)
            cases hh : hasB g (md u k).c with
            | false =>
              rw [hh] at KH1
              have HN : Hid (bef g u i = (k : Int)) := Lib.hid (by rw [HE.out, bf_stop c2 c1 hh])
              obtain ⟨cn, hcn⟩ : ∃ cn, (md u k).c.toNat = cn := ⟨_, rfl⟩
              rw [hcn] at e1 t1 t2 t3 KH1
              clear hcn c1 c2 hh
              go_wp2_with fail
              refine (KH1.out _).mono ?_
              rintro e w2 ⟨rfl, rfl⟩
              go_wp2_with fail
              go_ret
              exact ⟨ret_int HN.out.symm, rfl⟩
            | true =>
              rw [hh] at KH1
              have HN : Hid (bef g u i = bfF g u k 0) := Lib.hid (by rw [HE.out, bf_pass c2 c1 (.inr hh)])
              obtain ⟨cn, hcn⟩ : ∃ cn, (md u k).c.toNat = cn := ⟨_, rfl⟩
              rw [hcn] at e1 t1 t2 t3 KH1
              clear hcn c1 c2 hh
              go_wp2_with fail
              refine (KH1.out _).mono ?_
              rintro e w2 ⟨rfl, rfl⟩
              go_wp2_with fail
              go_round
              case rel => exact ⟨k, 0, by go_num, rfl, by omega, by omega, HN.out⟩
              case measure => first | (simp [intOf]; done) | (simp [intOf]; omega)
          · have HN : Hid (bef g u i = bfF g u k c') := Lib.hid (by rw [HE.out, bf_pass c2 c1 (.inl h0)])
            have t4 : (c' == 0) = false := beq_eq_false_iff_ne.2 h0
            obtain ⟨cn, hcn⟩ : ∃ cn, (md u k).c.toNat = cn := ⟨_, rfl⟩
            rw [hcn] at e1 t1 t2 t3
            clear hcn c1 c2
            go_wp2_with fail
            go_round
            case rel => exact ⟨k, c', by go_num, rfl, by omega, by omega, HN.out⟩
            case measure => first | (simp [intOf]; done) | (simp [intOf]; omega)
set_option maxRecDepth 100000 in
set_option maxHeartbeats 3200000 in
theorem refbehind_any (v : Value) (u : List Md) (hu : u.length ≤ 50000) (i : Nat) (hi : i < u.length) (s : ByteArray) (hs : s.size ≤ 9223372036854775807) (w : World) (hv : Mods w v u) :
    Calls Try.prog 27 #[v, .int .i64 (i : Int), .string s] w fun e w' => e = .returned (.int .i64 (beh (lA s) u i)) ∧ w = w' := by
  obtain ⟨p, cap, rfl⟩ := hv.slice
  have HV := Lib.hid hv
  have KH := Lib.hid (fun c w => refhas_any s hs c w)
  clear hv
  generalize lA s = g at KH ⊢
  go_enter Try.func27, Try.ntmps27
  go_wp2_with fail
  go_loop [7, 8] (fun c k => ∃ (k' : Nat) (c' : Int), k = .int .i64 (k' : Int) ∧ c = .int .i64 c' ∧ 0 ≤ c' ∧ c' ≤ k' ∧ k' ≤ u.length ∧ beh g u i = bhd g u k' c') (fun _ k => u.length - (intOf k).toNat)
  case atStart => exact ⟨i + 1, 0, by go_num, rfl, Int.le_refl _, by omega, by omega, rfl⟩
  case round =>
    obtain ⟨k, c', rfl, rfl, hc0, hck, hkl, heq⟩ := hrel
    have HE := Lib.hid heq
    clear heq
    by_cases hlt : k < u.length
    · obtain ⟨b, off, cap', q, d, hp, e1, _, _, lb⟩ := HV.out.at hlt
      obtain rfl : p = some ⟨b, off, none⟩ := by cases hp; rfl
      have hmd := md_get hlt
      have k1 : (k : Int) < (u.length : Int) := by omega
      rw [← hmd] at e1
      clear hp hmd
      by_cases c1 : (md u k).c = 91
      · have t1 : (((md u k).c.toNat : Int) == 91) = true := by rw [c1]; rfl
        have HN : Hid (beh g u i = bhd g u (k + 1) (c' + 1)) := Lib.hid (by rw [HE.out, bh_open hlt c1])
        obtain ⟨cn, hcn⟩ : ∃ cn, (md u k).c.toNat = cn := ⟨_, rfl⟩
        rw [hcn] at e1 t1
        clear hcn c1
        go_wp2_with fail
        go_round
        case rel => exact ⟨k + 1, c' + 1, by go_num, by go_num, by omega, by omega, by omega, HN.out⟩
        case measure => first | (simp [intOf]; done) | (simp [intOf]; omega)
      · have t1 : (((md u k).c.toNat : Int) == 91) = false := ne_tst c1
        by_cases c2 : (md u k).c = 93
        · have t2 : (((md u k).c.toNat : Int) == 93) = true := by rw [c2]; rfl
          by_cases h0 : c' = 0
          · subst h0
            have HN : Hid (beh g u i = -1) := Lib.hid (by rw [HE.out, bh_end hlt c2])
            obtain ⟨cn, hcn⟩ : ∃ cn, (md u k).c.toNat = cn := ⟨_, rfl⟩
            rw [hcn] at e1 t1 t2
            clear hcn c1 c2
            go_wp2_with fail
            go_ret
            exact ⟨ret_int HN.out.symm, rfl⟩
          · have HN : Hid (beh g u i = bhd g u (k + 1) (c' - 1)) := Lib.hid (by rw [HE.out, bh_close hlt c2 h0])
            have t4 : (c' == 0) = false := beq_eq_false_iff_ne.2 h0
            obtain ⟨cn, hcn⟩ : ∃ cn, (md u k).c.toNat = cn := ⟨_, rfl⟩
            rw [hcn] at e1 t1 t2
            clear hcn c1 c2
            go_wp2_with fail
            go_round
            case rel => exact ⟨k + 1, c' - 1, by go_num, by go_num, by omega, by omega, by omega, HN.out⟩
            case measure => first | (simp [intOf]; done) | (simp [intOf]; omega)
        · have t2 : (((md u k).c.toNat : Int) == 93) = false := ne_tst c2
          by_cases h0 : c' = 0
          · subst h0
            have KH1 := Lib.hid (fun w => KH.out (md u k).c w)
            cases hh : hasB g (md u k).c with
            | false =>
              rw [hh] at KH1
              have HN : Hid (beh g u i = (k : Int)) := Lib.hid (by rw [HE.out, bh_stop hlt c2 c1 hh])
              obtain ⟨cn, hcn⟩ : ∃ cn, (md u k).c.toNat = cn := ⟨_, rfl⟩
              rw [hcn] at e1 t1 t2 KH1
              clear hcn c1 c2 hh
              go_wp2_with fail
              refine (KH1.out _).mono ?_
              rintro e w2 ⟨rfl, rfl⟩
              go_wp2_with fail
              go_ret
              exact ⟨ret_int HN.out.symm, rfl⟩
            | true =>
              rw [hh] at KH1
              have HN : Hid (beh g u i = bhd g u (k + 1) 0) := Lib.hid (by rw [HE.out, bh_pass hlt c2 c1 (.inr hh)])
              obtain ⟨cn, hcn⟩ : ∃ cn, (md u k).c.toNat = cn := ⟨_, rfl⟩
              rw [hcn] at e1 t1 t2 KH1
              clear hcn c1 c2 hh
              go_wp2_with fail
              refine (KH1.out _).mono ?_
              rintro e w2 ⟨rfl, rfl⟩
              go_wp2_with fail
              go_round
              case rel => exact ⟨k + 1, 0, by go_num, rfl, by omega, by omega, by omega, HN.out⟩
              case measure => first | (simp [intOf]; done) | (simp [intOf]; omega)
          · have HN : Hid (beh g u i = bhd g u (k + 1) c') := Lib.hid (by rw [HE.out, bh_pass hlt c2 c1 (.inl h0)])
            have t4 : (c' == 0) = false := beq_eq_false_iff_ne.2 h0
            obtain ⟨cn, hcn⟩ : ∃ cn, (md u k).c.toNat = cn := ⟨_, rfl⟩
            rw [hcn] at e1 t1 t2
            clear hcn c1 c2
            go_wp2_with fail
            go_round
            case rel => exact ⟨k + 1, c', by go_num, rfl, by omega, by omega, by omega, HN.out⟩
            case measure => first | (simp [intOf]; done) | (simp [intOf]; omega)
    · obtain rfl : k = u.length := by omega
      have HN : Hid (beh g u i = -1) := Lib.hid (by rw [HE.out, bh_out (Nat.le_refl _)])
      have k1 : ¬ (u.length : Int) < (u.length : Int) := by omega
      go_wp2_with fail
      go_ret
      exact ⟨ret_int HN.out.symm, rfl⟩
end Go.Proofs.Ytcoljbcjnggagaa
namespace Go.Proofs.Ytcoljbcjnggagaa
open Go.RowKit
open WM
set_option linter.unusedVariables false
set_option linter.unusedSimpArgs false

theorem run_copy_many {P : Program} (w : World) (dT sT ty elem : TypeId) (sz g n c1 c2 : Nat) (a : Addr) (cur : Array Value) (t : TypeId) (cs : List Value)
    (hu : P.underlying dT = some (.slice elem)) (hs : (P.info? elem).map (·.size) = some sz)
    (hg : w.heap[g]? = some (.cells cur t (0, 0))) (hn : cs.length = n * sz)
    (hsrc : ∀ j v, cs[j]? = some v → w.cell? (a.add j) = some v) (hfit : cs.length ≤ cur.size) (h1 : ∀ v ∈ cs, v.oneCell' = true) :
    (Builtin.copy_ #[dT, sT] ty #[.slice (some ⟨g, 0, none⟩) n c1, .slice (some a) n c2]).run P w =
      .ok (goInt n) (w.setRow g (cs ++ cur.toList.drop cs.length).toArray) := by
  have hl := run_loadCells_list (P := P) w a cs hsrc
  have hst := run_storeCells_at P g 0 t cs 0 cur w hg (by simpa using hfit) h1
  rw [hn] at hl
  cases hq : P.info? elem with
  | none => simp [hq] at hs
  | some i =>
    have hi : i.size = sz := by simpa [hq] using hs
    simp [Builtin.copy_, run_underlying hu, Builtin.lenOf, Builtin.firstCells, sizeOf, typeInfo, hq, hi, hl, hst]
theorem copy_run {P : Program} (w0 : World) (T0 : Array Value) (tt : TypeId) (dT ty elem : TypeId) (sz n c2 : Nat) (a : Addr) (cs : List Value)
    (hu : P.underlying dT = some (.slice elem)) (hs : (P.info? elem).map (·.size) = some sz) (hn : cs.length = n * sz)
    (hsrc : ∀ j v, cs[j]? = some v → (w0.alloc (.cells T0 tt)).cell? (a.add j) = some v) (hfit : T0.size = n * sz) (h1 : ∀ v ∈ cs, v.oneCell' = true) :
    ∃ W, (Builtin.copy_ #[dT, dT] ty #[.slice (some ⟨w0.heap.size, 0, none⟩) n n, .slice (some a) n c2]).run P (w0.alloc (.cells T0 tt)) = .ok (.int .i64 (n : Int)) W ∧ W.heap[w0.heap.size]? = some (.cells cs.toArray tt (0, 0)) ∧ Below w0.heap.size w0 W := by
  have hg := heap_alloc_new w0 (.cells T0 tt)
  have hrun := run_copy_many (P := P) (w0.alloc (.cells T0 tt)) dT dT ty elem sz w0.heap.size n n c2 a T0 tt cs hu hs hg hn hsrc (by omega) h1
  have e : T0.toList.drop cs.length = [] := List.drop_eq_nil_of_le (by rw [Array.length_toList]; omega)
  rw [e, List.append_nil] at hrun
  exact ⟨_, hrun, setRow_heap _ _ _ _ tt _ hg, below_setRow ((Below.refl _ _).alloc (Nat.le_refl _) _) (Nat.le_refl _) _⟩
theorem valsL_length (l : List Int) : (valsL l).length = l.length := by simp [valsL]
/-- A row that has been filled is owned. -/
theorem filled_own {w w' : World} {g n size : Nat} {cs : List Value} {e : TypeId} {base : Nat} (h : w'.heap[g]? = some (.cells cs.toArray e (0, 0))) (hb : base ≤ g) (hn : cs.length = n * size) (hm : n ≤ maxLen) :
    w'.ownsRow base e size (.slice (some ⟨g, 0, none⟩) n n) n cs :=
  ⟨hn, .inr ⟨g, n, cs.toArray, rfl, hb, h, Nat.le_refl _, hm, by simpa using hn, by rw [List.toList_toArray, ← hn, List.take_length]⟩⟩
theorem nili_no (ad : Addr) (n c : Nat) (w : World) : (binOp .eql 49 (.slice (some ad) n c) (.slice none 0 0)).run Try.prog w = .ok (.bool false) w := run_eql_slice_nil w _ _ (some ad) n c Try.underlying49
theorem nili_yes (w : World) : (binOp .eql 49 (.slice none 0 0) (.slice none 0 0)).run Try.prog w = .ok (.bool true) w := run_eql_slice_nil w _ _ none 0 0 Try.underlying49
theorem nilm_no (ad : Addr) (n c : Nat) (w : World) : (binOp .eql 23 (.slice (some ad) n c) (.slice none 0 0)).run Try.prog w = .ok (.bool false) w := run_eql_slice_nil w _ _ (some ad) n c Try.underlying23
theorem nilm_yes (w : World) : (binOp .eql 23 (.slice none 0 0) (.slice none 0 0)).run Try.prog w = .ok (.bool true) w := run_eql_slice_nil w _ _ none 0 0 Try.underlying23
set_option maxRecDepth 100000 in
set_option maxHeartbeats 800000 in
theorem copiedi_any (v : Value) (a : List Int) (hmax : a.length ≤ 1000000) (w : World) (hv : Ints w v a) (hnil : NilOr v) :
    Calls Try.prog 63 #[v] w fun e w' => ∃ v', e = .returned v' ∧ Below w.heap.size w w' ∧ w'.ownsRow w.heap.size 3 1 v' a.length (valsL a) := by
  rcases hnil with rfl | ⟨ad, n, c, rfl⟩
  · obtain ⟨p, cap, hp⟩ := hv.slice
    simp only [Value.slice.injEq] at hp
    have ha : a = [] := List.length_eq_zero_iff.1 hp.2.1.symm
    subst ha
    clear hp hv
    have hny := nili_yes
    go_enter Try.func63, Try.ntmps63
    go_wp2_with fail
    go_ret
    exact ⟨_, rfl, Below.refl _ _, World.ownsRow_nil _ _ _ _⟩
  · obtain ⟨p, cap, hp⟩ := hv.slice
    simp only [Value.slice.injEq] at hp
    obtain ⟨hpa, hn, hcc⟩ := hp
    clear hpa hcc
    subst hn
    have HC := Lib.hid (ints_cells hv)
    have hmk : ∀ w : World, (Instr.makeSlice 49 (.int .i64 (a.length : Int)) (.int .i64 (a.length : Int))).run Try.prog w = .ok (.slice (some ⟨w.heap.size, 0, none⟩) a.length a.length) (w.alloc (.cells (zeros a.length) 3)) := fun w => by
      have := run_make (P := Try.prog) w 49 3 Try.t3 (.int .i64 0) Try.underlying49 (by kernel_rfl) (by kernel_rfl) .i64 .i64 a.length a.length (by omega) (Int.le_refl _) (by show ((8 : Nat) : Int) * (a.length : Int) ≤ _; omega) (by omega)
      rw [this]; simp only [zeros, Value.cells, Int.toNat_natCast, show (Try.t3).size = 1 from rfl, Nat.mul_one]
    have HL := Lib.hid (valsL_length a)
    have HE : Hid (∀ w' : World, w'.heap[w.heap.size]? = some (.cells (valsL a).toArray 3 (0, 0)) → w'.ownsRow w.heap.size 3 1 (.slice (some ⟨w.heap.size, 0, none⟩) a.length a.length) a.length (valsL a)) := Lib.hid (fun w' h => filled_own (w := w) h (Nat.le_refl _) (by rw [valsL_length]; omega) (by rw [show maxLen = 9223372036854775807 from rfl]; omega))
    have HZ := Lib.hid (zeros_size a.length)
    obtain ⟨cs, hcs⟩ : ∃ cs, valsL a = cs := ⟨_, rfl⟩
    have HO : Hid (∀ u ∈ cs, u.oneCell' = true) := Lib.hid (by rw [← hcs]; exact vals_one a)
    rw [hcs] at HC HL HE ⊢
    clear hv hcs
    have hnn := nili_no ad
    generalize a.length = n at *
    obtain ⟨W1, hrun, hw1, hb1⟩ := copy_run (P := Try.prog) w (zeros n) 3 49 3 3 1 n c ad cs Try.underlying49 (by kernel_rfl) (by rw [HL.out, Nat.mul_one]) (HC.out _ ((Below.refl _ _).alloc (Nat.le_refl _) _)) (by rw [HZ.out, Nat.mul_one]) HO.out
    have HW := Lib.hid hb1
    have HW1 := Lib.hid (HE.out _ hw1)
    clear hb1 hw1
    go_enter Try.func63, Try.ntmps63
    go_wp2_with fail
    go_ret
    exact ⟨_, rfl, HW.out, HW1.out⟩
/-- A list's modules lie somewhere: their cells. -/
theorem mods_vals {w : World} {ad : Addr} {n c : Nat} {l : List Md} (h : Mods w (.slice (some ad) n c) l) :
    ∃ vs, vs.length = l.length ∧ (∀ W, Below w.heap.size w W → ∀ j u, (modC l vs)[j]? = some u → W.cell? (ad.add j) = some u) ∧ (∀ k, (h : k < l.length) → (h2 : k < vs.length) → Ints w vs[k] l[k].a ∧ NilOr vs[k]) ∧ ∀ u ∈ modC l vs, u.oneCell' = true := by
  cases h with
  | none p cap => exact ⟨[], rfl, fun W _ j u hu => by simp [modC] at hu, fun k h => by simp at h, fun u hu => by simp [modC] at hu⟩
  | some b off cap _ hpos hlt hx =>
    have hch : ∀ i : Fin l.length, ∃ v, w.cell? ⟨b, off + i.1 * 2 + 1, none⟩ = some v ∧ Ints w v l[i.1].a ∧ NilOr v := fun i => (hx i.1 i.2).2
    obtain ⟨f, hf⟩ : ∃ f : Fin l.length → Value, ∀ i, w.cell? ⟨b, off + i.1 * 2 + 1, none⟩ = some (f i) ∧ Ints w (f i) l[i.1].a ∧ NilOr (f i) := ⟨fun i => Classical.choose (hch i), fun i => Classical.choose_spec (hch i)⟩
    have hlen : (List.ofFn f).length = l.length := List.length_ofFn
    refine ⟨List.ofFn f, hlen, ?_, ?_, ?_⟩
    · intro W hb j u hu
      have hj : j < l.length * 2 := by
        have := (List.getElem?_eq_some_iff.1 hu).1
        rwa [modC_length _ _ hlen.symm] at this
      have hk : j / 2 < l.length := by omega
      have g := modC_get l (List.ofFn f) (j / 2) hk (by rw [hlen]; exact hk)
      rw [show (⟨b, off, none⟩ : Addr).add j = ⟨b, off + j, none⟩ by simp [Addr.add], hb.cell (p := ⟨b, off + j, none⟩) hlt]
      rcases Nat.mod_two_eq_zero_or_one j with h0 | h0
      · have e : j = j / 2 * 2 := by omega
        have h1 := (hx (j / 2) hk).1
        rw [← e] at g h1
        rw [g.1] at hu
        rw [h1]; exact hu
      · have e : j = j / 2 * 2 + 1 := by omega
        have h1 := (hf ⟨j / 2, hk⟩).1
        simp only [Nat.add_assoc] at h1
        rw [← e] at g h1
        rw [g.2] at hu
        rw [h1, ← hu]; simp
    · intro k h1 h2
      have := (hf ⟨k, h1⟩).2
      simpa using this
    · intro u hu
      obtain ⟨j, hj, rfl⟩ := List.mem_iff_getElem.1 hu
      rw [modC_length _ _ hlen.symm] at hj
      have hk : j / 2 < l.length := by omega
      have g := modC_get l (List.ofFn f) (j / 2) hk (by rw [hlen]; exact hk)
      rcases Nat.mod_two_eq_zero_or_one j with h0 | h0
      · have e : j = j / 2 * 2 := by omega
        rw [← e] at g
        have := g.1
        rw [List.getElem?_eq_getElem (by rw [modC_length _ _ hlen.symm]; exact hj)] at this
        rw [Option.some.inj this]; rfl
      · have e : j = j / 2 * 2 + 1 := by omega
        rw [← e] at g
        have := g.2
        rw [List.getElem?_eq_getElem (by rw [modC_length _ _ hlen.symm]; exact hj)] at this
        rw [Option.some.inj this]
        obtain ⟨p, c, hp⟩ := (hf ⟨j / 2, hk⟩).2.1.slice
        simp [hp]; rfl
theorem made_mods (n : Nat) (hn : n ≤ 50000) (w : World) : (Instr.makeSlice 23 (.int .i64 (n : Int)) (.int .i64 (n : Int))).run Try.prog w = .ok (.slice (some ⟨w.heap.size, 0, none⟩) n n) (w.alloc (.cells (madeCells #[.int .u8 0, .slice none 0 0] (n * 2)) 55)) := by
  have := run_make (P := Try.prog) w 23 55 Try.t55 (.agg #[.int .u8 0, .slice none 0 0]) Try.underlying23 (by kernel_rfl) (by kernel_rfl) .i64 .i64 n n (by omega) (Int.le_refl _) (by show ((32 : Nat) : Int) * (n : Int) ≤ _; omega) (by omega)
  rw [this]; simp only [Value.cells, Int.toNat_natCast, show (Try.t55).size = 2 from rfl]
/-- How a list of modules is copied: its row, not its args. -/
def CpEnd (l : List Md) (w : World) (e : Ending) (w' : World) : Prop :=
  ∃ v' vs, e = .returned v' ∧ Below w.heap.size w w' ∧ vs.length = l.length ∧ w'.ownsRow w.heap.size 55 2 v' l.length (modC l vs) ∧ (∀ k, (h : k < l.length) → (h2 : k < vs.length) → Ints w vs[k] l[k].a ∧ NilOr vs[k])
set_option maxRecDepth 100000 in
set_option maxHeartbeats 800000 in
theorem copiedm_any (v : Value) (l : List Md) (hmax : l.length ≤ 50000) (w : World) (hv : Mods w v l) (hnil : NilOr v) :
    Calls Try.prog 62 #[v] w (CpEnd l w) := by
  rcases hnil with rfl | ⟨ad, n, c, rfl⟩
  · obtain ⟨p, cap, hp⟩ := hv.slice
    simp only [Value.slice.injEq] at hp
    have ha : l = [] := List.length_eq_zero_iff.1 hp.2.1.symm
    subst ha
    clear hp hv
    have hny := nilm_yes
    go_enter Try.func62, Try.ntmps62
    go_wp2_with fail
    go_ret
    exact ⟨_, [], rfl, Below.refl _ _, rfl, World.ownsRow_nil _ _ _ _, fun k h => by simp at h⟩
  · obtain ⟨p, cap, hp⟩ := hv.slice
    simp only [Value.slice.injEq] at hp
    obtain ⟨hpa, hn, hcc⟩ := hp
    clear hpa hcc
    subst hn
    obtain ⟨vs, hvl, hC, hI, hO⟩ := mods_vals hv
    have HC := Lib.hid hC
    have hmk := fun w => made_mods l.length hmax w
    have HL : Hid ((modC l vs).length = l.length * 2) := Lib.hid (modC_length _ _ hvl.symm)
    have HE : Hid (∀ w' : World, Below w.heap.size w w' → w'.heap[w.heap.size]? = some (.cells (modC l vs).toArray 55 (0, 0)) → CpEnd l w (.returned (.slice (some ⟨w.heap.size, 0, none⟩) l.length l.length)) w') := Lib.hid (fun w' hb h => ⟨_, vs, rfl, hb, hvl, filled_own (w := w) h (Nat.le_refl _) (modC_length _ _ hvl.symm) (by rw [show maxLen = 9223372036854775807 from rfl]; omega), hI⟩)
    have HZ : Hid ((madeCells #[.int .u8 0, .slice none 0 0] (l.length * 2)).size = l.length * 2) := Lib.hid (size_madeCells _ _)
    have HO := Lib.hid hO
    obtain ⟨cs, hcs⟩ : ∃ cs, modC l vs = cs := ⟨_, rfl⟩
    rw [hcs] at HC HL HE HO
    clear hv hcs hvl hC hI hO
    have hnn := nilm_no ad
    generalize l.length = n at *
    obtain ⟨W1, hrun, hw1, hb1⟩ := copy_run (P := Try.prog) w (madeCells #[.int .u8 0, .slice none 0 0] (n * 2)) 55 23 3 55 2 n c ad cs Try.underlying23 (by kernel_rfl) HL.out (HC.out _ ((Below.refl _ _).alloc (Nat.le_refl _) _)) HZ.out HO.out
    have HW := Lib.hid (HE.out _ hb1 hw1)
    clear hb1 hw1
    go_enter Try.func62, Try.ntmps62
    go_wp2_with fail
    go_ret
    exact HW.out
end Go.Proofs.Ytcoljbcjnggagaa
namespace Go.Proofs.Ytcoljbcjnggagaa
open Go.RowKit
open WM RM CM
set_option linter.unusedVariables false
set_option linter.unusedSimpArgs false

/-- Where pairs stands. -/
structure PaAt (w : World) (u : List Md) (k : Nat) (v : Value) (wr : World) : Prop where
  hi : k ≤ u.length
  below : Below w.heap.size w wr
  row : RowI wr w.heap.size (othL u k)
  own : wr.ownsRow (w.heap.size + 1) 3 1 v (stk u k).length (valsL ((stk u k).reverse.map Int.ofNat))
theorem paAt_start (w : World) (u : List Md) : PaAt w u 0 (.slice none 0 0) (w.alloc (.cells (zeros u.length) 3)) :=
  ⟨Nat.zero_le _, (Below.refl _ _).alloc (Nat.le_refl _) _, made_row _ _, World.ownsRow_nil _ _ _ _⟩
theorem make_ints (n : Nat) (hn : n ≤ 50000) (w : World) : (Instr.makeSlice 49 (.int .i64 (n : Int)) (.int .i64 (n : Int))).run Try.prog w = .ok (.slice (some ⟨w.heap.size, 0, none⟩) n n) (w.alloc (.cells (zeros n) 3)) := by
  have := run_make (P := Try.prog) w 49 3 Try.t3 (.int .i64 0) Try.underlying49 (by kernel_rfl) (by kernel_rfl) .i64 .i64 n n (by omega) (Int.le_refl _) (by show ((8 : Nat) : Int) * (n : Int) ≤ _; omega) (by omega)
  rw [this]; simp only [zeros, Value.cells, Int.toNat_natCast, show (Try.t3).size = 1 from rfl, Nat.mul_one]
theorem PaAt.drew {w wr : World} {u : List Md} {k : Nat} {v : Value} (h : PaAt w u k v wr) : PaAt w u k v wr.drew := ⟨h.hi, h.below.trans ((Below.refl _ _).drew.mono h.below.size), h.row.of_block rfl, l_own_later h.own (Below.refl _ _).drew⟩
theorem cell_still2 {w : World} {p q : Addr} {x v : Value} (h : w.cell? q = some v) : ∃ v', (w.setCell p x).cell? q = some v' := by
  by_cases e : p = q
  · subst e; exact ⟨x, World.cell?_setCell_same w p x h⟩
  · exact ⟨v, (World.cell?_setCell_other w p q x e).trans h⟩
theorem grown_setCell (W : World) (b i : Nat) (v : Value) : W.grownBy (W.setCell ⟨b, i, none⟩ v) (some b) :=
  ⟨rfl, rfl, rfl, (KeepsWalks.setCell W _ v).size, fun k _ hk => Below.heap_setCell _ _ _ k (fun e => hk (by rw [e]))⟩
theorem own_shrink {w : World} {base n m g cap : Nat} {e : TypeId} {xs : List Value} (h : w.ownsRow base e 1 (.slice (some ⟨g, 0, none⟩) n cap) n xs) (hm : m ≤ n) : w.ownsRow base e 1 (.slice (some ⟨g, 0, none⟩) m cap) m (xs.take m) := by
  obtain ⟨h1, h2⟩ := h
  refine ⟨by rw [List.length_take]; omega, .inr ?_⟩
  rcases h2 with ⟨hv, _⟩ | ⟨g', cap', cur, hv, hb, hg, hc1, hc2, hsz, htake⟩
  · simp at hv
  · simp only [Value.slice.injEq, Option.some.injEq, Addr.mk.injEq] at hv
    obtain ⟨⟨rfl, _⟩, _, rfl⟩ := hv
    refine ⟨g, cap, cur, rfl, hb, hg, by omega, hc2, hsz, ?_⟩
    rw [← htake, List.take_take]; congr 1; omega
theorem own_cap {w : World} {base n g cap k : Nat} {e : TypeId} {xs : List Value} {sz : Nat} (h : w.ownsRow base e sz (.slice (some ⟨g, 0, none⟩) n cap) k xs) : n ≤ cap ∧ cap ≤ maxLen := by
  rcases h.2 with ⟨hv, _⟩ | ⟨g', cap', cur, hv, hb, hg, hc1, hc2, hsz, htake⟩
  · simp at hv
  · simp only [Value.slice.injEq, Option.some.injEq, Addr.mk.injEq] at hv
    obtain ⟨_, rfl, rfl⟩ := hv
    exact ⟨hc1, hc2⟩
/-- The open brackets as they lie in memory. -/
def stI (u : List Md) (k : Nat) : List Int := (stk u k).reverse.map Int.ofNat
theorem stI_length (u : List Md) (k : Nat) : (stI u k).length = (stk u k).length := by simp [stI]
theorem stI_open {u : List Md} {k : Nat} (h : (md u k).c = 91) : stI u (k + 1) = stI u k ++ [(k : Int)] := by simp [stI, stk_open h]
theorem stI_else {u : List Md} {k : Nat} (h1 : (md u k).c ≠ 93) (h2 : (md u k).c ≠ 91) : stI u (k + 1) = stI u k ∧ (stk u (k + 1)).length = (stk u k).length := by simp [stI, stk_else h1 h2]
theorem stI_close {u : List Md} {k j : Nat} {rest : List Nat} (hs : stk u k = j :: rest) (hs' : stk u (k + 1) = rest) : stI u k = stI u (k + 1) ++ [(j : Int)] ∧ (stk u k).length = (stk u (k + 1)).length + 1 := by simp [stI, hs, hs']
theorem paAt_else {w wr : World} {u : List Md} {k : Nat} {v : Value} (h : PaAt w u k v wr) (hk : k < u.length) (h1 : (md u k).c ≠ 93) (h2 : (md u k).c ≠ 91) : PaAt w u (k + 1) v wr := by
  refine ⟨hk, h.below, by rw [othL_else h1]; exact h.row, ?_⟩
  rw [stk_else h1 h2]; exact h.own
theorem paAt_open {w wr w1 w2 : World} {u : List Md} {k : Nat} {v v2 : Value} (h : PaAt w u k v wr) (hk : k < u.length) (h2 : (md u k).c = 91) (hb : Below wr.heap.size wr w1) (hg : w1.grownBy w2 v.ownBlock) (ho : w2.ownsRow (w.heap.size + 1) 3 1 v2 ((stk u k).length + 1) (valsL (stI u k) ++ [.int .i64 (k : Int)])) : PaAt w u (k + 1) v2 w2 := by
  have h1 : (md u k).c ≠ 93 := by rw [h2]; decide
  have hl := owns_lt h.own
  have lr := h.row.lt
  have B1 := h.below.trans (hb.mono h.below.size)
  refine ⟨hk, B1.grown hg B1.size (fun j e => by have := hl j e; omega), ?_, ?_⟩
  · rw [othL_else h1]
    refine (h.row.later hb).of_block (hg.block _ (Nat.lt_of_lt_of_le lr hb.size) fun e => ?_)
    have := hl _ e.symm; omega
  · have e : (stk u (k + 1)).length = (stk u k).length + 1 := by rw [stk_open h2]; rfl
    rw [e]
    show w2.ownsRow _ _ _ _ _ (valsL (stI u (k + 1)))
    rw [stI_open h2]
    unfold valsL at *
    rw [List.map_append]; exact ho
theorem paAt_close {w wr : World} {u : List Md} {k j g cap : Nat} {rest : List Nat} (h : PaAt w u k (.slice (some ⟨g, 0, none⟩) (rest.length + 1) cap) wr) (hk : k < u.length) (h2 : (md u k).c = 93) (hs : stk u k = j :: rest) (hs' : stk u (k + 1) = rest) (hj : j < u.length) (x y : Value) (hx : x = .int .i64 (j : Int)) (hy : y = .int .i64 (k : Int)) :
    PaAt w u (k + 1) (.slice (some ⟨g, 0, none⟩) rest.length cap) ((wr.setCell ⟨w.heap.size, k, none⟩ x).setCell ⟨w.heap.size, j, none⟩ y) := by
  subst hx hy
  have hl := owns_lt h.own g rfl
  refine ⟨hk, (h.below.setCell (Nat.le_refl _) _).setCell (Nat.le_refl _) _, ?_, ?_⟩
  · rw [othL_close h2 hs]
    exact (h.row.set (i := k) (by rw [othL_length]; exact hk) (j : Int)).set (i := j) (by rw [List.length_set, othL_length]; exact hj) (k : Int)
  · rw [hs']
    have hown := (h.own.kept (grown_setCell wr w.heap.size k (.int .i64 (j : Int))) (.inr (by show some g ≠ _; intro e; have := Option.some.inj e; omega))).kept (grown_setCell _ w.heap.size j (.int .i64 (k : Int))) (.inr (by show some g ≠ _; intro e; have := Option.some.inj e; omega))
    obtain ⟨e1, e2⟩ := stI_close hs hs'
    rw [hs, List.length_cons] at hown
    have := own_shrink hown (Nat.le_succ rest.length)
    have e3 : (valsL ((j :: rest).reverse.map Int.ofNat)).take rest.length = valsL (rest.reverse.map Int.ofNat) := by simp [valsL, List.take_append]
    rw [e3] at this
    exact this
/-- How pairs ends. -/
def PaEnd (u : List Md) (w : World) (e : Ending) (w' : World) : Prop := ∃ g, e = .returned (.slice (some ⟨g, 0, none⟩) u.length u.length) ∧ Below w.heap.size w w' ∧ RowI w' g (othL u u.length) ∧ w.heap.size ≤ g
set_option maxRecDepth 100000 in
set_option maxHeartbeats 3200000 in
theorem pairs_any (v : Value) (u : List Md) (hu : u.length ≤ 2000) (hok : okB u u.length = true) (w : World) (hv : Mods w v u) :
    Calls Try.prog 47 #[v] w (PaEnd u w) := by
  obtain ⟨p, cap, rfl⟩ := hv.slice
  have HV := Lib.hid hv
  have hmk := make_ints u.length (by omega)
  have S0 := Lib.hid (paAt_start w u)
  have HOk := Lib.hid hok
  obtain ⟨i0, hi, hz0, hz1, hz2⟩ := info_parts info_int
  have HM : Hid (maxLen = 9223372036854775807) := Lib.hid rfl
  clear hv hok
  go_enter Try.func47, Try.ntmps47
  go_wp2_with fail
  go_loopw [4, 12] (fun v i wr => ∃ k : Nat, i = .int .i64 k ∧ PaAt w u k v wr) (fun _ i _ => u.length - (intOf i).toNat)
  case atStart => exact ⟨0, rfl, S0.out⟩
  case round =>
    obtain ⟨k, rfl, hO⟩ := hrel
    have HO := Lib.hid hO
    have n1 := hO.hi
    have hsz := hO.below.size
    have hlr := hO.row.lt
    clear hO
    by_cases hlt : k < u.length
    · obtain ⟨b, off, cap', q, c, hp, e1, _, _, lb⟩ := (HV.out.later HO.out.below).at hlt
      obtain rfl : p = some ⟨b, off, none⟩ := by cases hp; rfl
      have k1 : (k : Int) < (u.length : Int) := by omega
      rw [← md_get hlt] at e1
      clear hp
      by_cases c1 : (md u k).c = 91
      · have t1 : (((md u k).c.toNat : Int) == 91) = true := by rw [c1]; rfl
        have HT : Hid (∀ v2 w2, _ → _ → PaAt w u (k + 1) v2 w2) := Lib.hid (fun v2 w2 hg ho => paAt_open (w1 := wr.alloc (.cells #[.int .i64 (k : Int)] 3)) HO.out hlt c1 ((Below.refl _ _).alloc (Nat.le_refl _) _) (w2 := w2) (v2 := v2) hg ho)
        have HLn : Hid ((stk u k).length ≤ 2000) := Lib.hid (by
          have := stk_len HOk.out k (by omega)
          have := dep_hi u k (by omega)
          omega)
        have P5 : Hid ((wr.alloc (.cells #[.int .i64 (k : Int)] 3)).ownsRow (w.heap.size + 1) 3 1 u4 (stk u k).length (valsL (stI u k))) := Lib.hid (HO.out.own.alloc (.cells #[.int .i64 (k : Int)] 3))
        generalize (md u k).c.toNat = cn at e1 t1
        generalize (stk u k).length = sn at P5 HT HLn
        generalize valsL (stI u k) = sx at P5 HT
        have hln := HLn.out
        clear c1
        go_wp2_with (at_builtin; refine wpList_append_own _ rfl _ _ 49 rfl (w.heap.size + 1) 3 i0 (.int .i64 0) 1 8 Try.underlying49 hi hz0 hz1 hz2 rfl (by decide) u4 sn sx rfl P5.out ⟨wr.heap.size, 0, none⟩ 1 1 [.int .i64 (k : Int)] rfl rfl (cell_one_new _ _ _) (by simp [Value.oneCell']) (by rw [HM.out]; omega) (by omega) (by simp; omega) ?_; intro v2 w3 ho2 hg2 hn2)
        have T1 := Lib.hid (HT.out v2 w3 hg2 ho2)
        clear ho2 hg2 hn2
        go_wp2_with fail
        go_roundw
        case rel => exact ⟨k + 1, by go_num, T1.out⟩
        case measure => first | (simp [intOf]; done) | (simp [intOf]; omega)
      · have t1 : (((md u k).c.toNat : Int) == 91) = false := ne_tst c1
        by_cases c2 : (md u k).c = 93
        · have t2 : (((md u k).c.toNat : Int) == 93) = true := by rw [c2]; rfl
          obtain ⟨j, rest, hs, hs', hjk, _⟩ := stk_top HOk.out hlt c2
          have hown : wr.ownsRow (w.heap.size + 1) 3 1 u4 (rest.length + 1) (valsL (stI u k)) := by
            have := HO.out.own
            rw [hs, List.length_cons] at this; unfold stI; rw [hs]; exact this
          have hlen : (stI u k).length = rest.length + 1 := by rw [stI_length, hs]; rfl
          obtain ⟨g, sc, hv4, hgb, hrow⟩ := row_of_owned hown (by omega)
          rw [hlen] at hv4
          subst hv4
          have hcap := own_cap hown
          have q4 := hrow.cell (i := rest.length) (by omega)
          have e5 : (stI u k)[rest.length]'(by omega) = (j : Int) := by
            have := (stI_close hs hs').1
            have e6 : (stI u (k + 1)).length = rest.length := by rw [stI_length, hs']
            simp only [this]
            rw [List.getElem_append_right (by omega)]
            simp [e6]
          rw [e5] at q4
          have q1 := HO.out.row.cell (i := k) (by rw [othL_length]; exact hlt)
          have f1 := HO.out.row.free k
          have q2 := HO.out.row.cell (i := j) (by rw [othL_length]; omega)
          have f2 := HO.out.row.free j
          generalize (othL u k)[k]'(by rw [othL_length]; exact hlt) = z1 at q1
          generalize (othL u k)[j]'(by rw [othL_length]; omega) = z2 at q2
          have HT := Lib.hid (paAt_close HO.out hlt c2 hs hs' (by omega) (.int .i64 (j : Int)) (.int .i64 (k : Int)) rfl rfl)
          obtain ⟨v3, hy3⟩ := cell_still2 (w := wr) (p := ⟨w.heap.size, k, none⟩) (x := .int .i64 (j : Int)) (q := ⟨w.heap.size, j, none⟩) q2
          have j1 : (j : Int) < (u.length : Int) := by omega
          have n4 : rest.length ≤ 2000 := by
            have h1 := stk_len HOk.out k (by omega)
            have h2 := dep_hi u k (by omega)
            rw [hs, List.length_cons] at h1; omega
          have m4 : ((rest.length : Nat) : Int) ≤ (sc : Int) := by omega
          generalize (md u k).c.toNat = cn at e1 t1 t2
          clear hs hs' hown hlen hrow e5 c1 c2 HO hgb
          generalize rest.length = rn at q4 HT m4 n4 hcap ⊢
          go_wp2_with fail
          go_region
          go_wp2_with fail
          go_roundw
          case rel => exact ⟨k + 1, by go_num, HT.out.drew⟩
          case measure => first | (simp [intOf]; done) | (simp [intOf]; omega)
        · have t2 : (((md u k).c.toNat : Int) == 93) = false := ne_tst c2
          have HT := Lib.hid (paAt_else HO.out hlt c2 c1)
          generalize (md u k).c.toNat = cn at e1 t1 t2
          clear c1 c2
          go_wp2_with fail
          go_roundw
          case rel => exact ⟨k + 1, by go_num, HT.out⟩
          case measure => first | (simp [intOf]; done) | (simp [intOf]; omega)
    · obtain rfl : k = u.length := by omega
      have k1 : ¬ (u.length : Int) < (u.length : Int) := by omega
      have HE : Hid (PaEnd u w (.returned (.slice (some ⟨w.heap.size, 0, none⟩) u.length u.length)) wr) := Lib.hid ⟨_, rfl, HO.out.below, HO.out.row, Nat.le_refl _⟩
      go_wp2_with fail
      go_ret
      exact HE.out
end Go.Proofs.Ytcoljbcjnggagaa
namespace Go.Proofs.Ytcoljbcjnggagaa
open Go.RowKit
open WM RM CM
set_option linter.unusedVariables false
set_option linter.unusedSimpArgs false

def lfL (g : Bs) (u : List Md) (k : Nat) : List Int := (List.range u.length).map fun i => if i < k then bef g u i else 0
theorem lfL_length (g : Bs) (u : List Md) (k : Nat) : (lfL g u k).length = u.length := by simp [lfL]
theorem lfL_zero (g : Bs) (u : List Md) : lfL g u 0 = List.replicate u.length 0 := by
  apply List.ext_getElem (by simp [lfL])
  intro i h1 h2; simp [lfL]
theorem lfL_get {g : Bs} {u : List Md} {k i : Nat} (h : i < u.length) : (lfL g u k)[i]'(by rw [lfL_length]; exact h) = if i < k then bef g u i else 0 := by simp [lfL]
theorem lfL_set {g : Bs} {u : List Md} {k : Nat} (h : k < u.length) : (lfL g u k).set k (bef g u k) = lfL g u (k + 1) := by
  apply List.ext_getElem (by simp [lfL])
  intro i h1 h2
  rw [List.getElem_set]
  rw [lfL_length] at h2
  rw [lfL_get (k := k + 1) h2]
  by_cases e : k = i
  · subst e; rw [if_pos rfl, if_pos (by omega)]
  · rw [if_neg e, lfL_get h2]
    by_cases e2 : i < k
    · rw [if_pos e2, if_pos (by omega)]
    · rw [if_neg e2, if_neg (by omega)]
/-- Where lefts stands. -/
structure LfAt (w : World) (g : Bs) (u : List Md) (gp k : Nat) (wr : World) : Prop where
  hi : k ≤ u.length
  below : Below w.heap.size w wr
  row : RowI wr w.heap.size (lfL g u k)
  oth : RowI wr gp (othL u u.length)
  hgp : w.heap.size < gp
theorem LfAt.later {w wr w1 : World} {g : Bs} {u : List Md} {gp k : Nat} (h : LfAt w g u gp k wr) (hb : Below wr.heap.size wr w1) : LfAt w g u gp k w1 :=
  ⟨h.hi, h.below.trans (hb.mono h.below.size), h.row.later hb, h.oth.later hb, h.hgp⟩
theorem LfAt.step {w wr : World} {g : Bs} {u : List Md} {gp k : Nat} (h : LfAt w g u gp k wr) (hk : k < u.length) (x : Int) (hx : bef g u k = x) : LfAt w g u gp (k + 1) (wr.setCell ⟨w.heap.size, k, none⟩ (.int .i64 x)) := by
  subst hx
  have hg := h.hgp
  refine ⟨hk, h.below.setCell (Nat.le_refl _) _, ?_, h.oth.other (by show gp ≠ w.heap.size; omega) _, hg⟩
  have := h.row.set (i := k) (by rw [lfL_length]; exact hk) (bef g u k)
  rwa [lfL_set hk] at this
/-- How lefts and rights end: a row of the neighbours of all modules. -/
def NbEnd (l : List Int) (w : World) (e : Ending) (w' : World) : Prop := ∃ g, e = .returned (.slice (some ⟨g, 0, none⟩) l.length l.length) ∧ Below w.heap.size w w' ∧ RowI w' g l ∧ w.heap.size ≤ g
set_option maxRecDepth 100000 in
set_option maxHeartbeats 6400000 in
theorem lefts_any (v : Value) (u : List Md) (hu : u.length ≤ 2000) (hok : okB u u.length = true) (s : ByteArray) (w : World) (hv : Mods w v u) :
    Calls Try.prog 23 #[v, .string s] w (NbEnd (lfL (lA s) u u.length) w) := by
  have HEl := Lib.hid (lfL_length (lA s) u u.length)
  unfold NbEnd
  rw [HEl.out]
  obtain ⟨p, cap, rfl⟩ := hv.slice
  have HV := Lib.hid hv
  have KP := Lib.hid (fun w h => pairs_any (.slice p u.length cap) u hu hok w h)
  have KI := Lib.hid (fun c p n cap w => cignored_any s c p n cap w)
  have hmk := make_ints u.length (by omega)
  obtain ⟨W0, hW0⟩ : ∃ W, W = w.alloc (.cells (zeros u.length) 3) := ⟨_, rfl⟩
  have B0 : Hid (Below w.heap.size w W0) := Lib.hid (by rw [hW0]; exact (Below.refl _ _).alloc (Nat.le_refl _) _)
  have R0 : Hid (RowI W0 w.heap.size (List.replicate u.length 0)) := Lib.hid (by rw [hW0]; exact made_row _ _)
  have HOk := Lib.hid hok
  clear hv hok
  generalize lA s = g at KI ⊢
  go_enter Try.func23, Try.ntmps23
  go_wp2_with fail
  rw [← hW0]
  clear hW0
  refine (KP.out _ (HV.out.later B0.out)).mono ?_
  rintro e w1 ⟨gp, rfl, hb, hrow, hgp⟩
  have S0 : Hid (LfAt w g u gp 0 w1) := Lib.hid ⟨Nat.zero_le _, B0.out.trans (hb.mono B0.out.size), by rw [lfL_zero]; exact R0.out.later hb, hrow, by have := R0.out.lt; omega⟩
  clear hb hrow hgp
  go_wp2_with fail
  go_loopw [16] (fun i wr => ∃ k : Nat, i = .int .i64 k ∧ LfAt w g u gp k wr) (fun i _ => u.length - (intOf i).toNat)
  case atStart => exact ⟨0, rfl, S0.out⟩
  case round =>
    obtain ⟨k, rfl, hO⟩ := hrel
    have HO := Lib.hid hO
    have n1 := hO.hi
    have hsz := hO.below.size
    have hlr := hO.row.lt
    clear hO
    by_cases hlt : k < u.length
    · have k1 : (k : Int) < (u.length : Int) := by omega
      cases k with
      | zero =>
        have HT := Lib.hid (HO.out.step hlt (-1) rfl)
        have q5 := HO.out.row.cell (i := 0) (by rw [lfL_length]; exact hlt)
        have f5 := HO.out.row.free 0
        generalize (lfL g u 0)[0]'(by rw [lfL_length]; exact hlt) = z at q5
        go_wp2_with fail
        go_roundw
        case rel => exact ⟨1, by go_num, HT.out⟩
        case measure => first | (simp [intOf]; done) | (simp [intOf]; omega)
      | succ j =>
        have hj : j < u.length := by omega
        have j1 : (j : Int) < (u.length : Int) := by omega
        have hs1 : ((j + 1 : Nat) : Int) - 1 = (j : Int) := by omega
        have j0 : ¬ (j : Int) < 0 := by omega
        obtain ⟨b, off, cap', q, c, hp, e0, e1, _, lb⟩ := (HV.out.later HO.out.below).at hj
        obtain rfl : p = some ⟨b, off, none⟩ := by cases hp; rfl
        have hmd := md_get hj
        have q5 := HO.out.row.cell (i := j + 1) (by rw [lfL_length]; exact hlt)
        have f5 := HO.out.row.free (j + 1)
        have q6 := HO.out.row.cell (i := j) (by rw [lfL_length]; exact hj)
        rw [lfL_get hj, if_pos (by omega)] at q6
        generalize (lfL g u (j + 1))[j + 1]'(by rw [lfL_length]; exact hlt) = z at q5
        clear hp
        by_cases c2 : (md u j).c = 93
        · obtain ⟨jj, hjj, ho, hbe⟩ := bef_close (g := g) HOk.out hj c2
          have q7 := HO.out.oth.cell (i := j) (by rw [othL_length]; exact hj)
          have e7 : (othL u u.length)[j]'(by rw [othL_length]; exact hj) = (jj : Int) := by
            rw [← ho]; simp [List.getD, othL_length, hj]
          rw [e7] at q7
          have q8 := HO.out.row.cell (i := jj) (by rw [lfL_length]; omega)
          rw [lfL_get (by omega), if_pos (by omega)] at q8
          have HT := Lib.hid (HO.out.step hlt (bef g u jj) hbe)
          have jj1 : (jj : Int) < (u.length : Int) := by omega
          have t1 : ((u[j].c.toNat : Int) == 93) = true := by rw [← hmd, c2]; rfl
          generalize u[j].c.toNat = cn at e0 t1
          generalize bef g u jj = bv at q8 HT
          clear ho hbe e7 c2 hmd q6
          go_wp2_with fail
          go_roundw
          case rel => exact ⟨j + 1 + 1, by go_num, HT.out⟩
          case measure => first | (simp [intOf]; done) | (simp [intOf]; omega)
        · have t1 : ((u[j].c.toNat : Int) == 93) = false := by rw [← hmd]; exact ne_tst c2
          by_cases c1 : (md u j).c = 91
          · have HT := Lib.hid (HO.out.step hlt (bef g u j) (bf_open0 c1))
            have t2 : ((u[j].c.toNat : Int) == 91) = true := by rw [← hmd, c1]; rfl
            generalize u[j].c.toNat = cn at e0 t1 t2
            generalize bef g u j = bv at q6 HT
            clear c1 c2 hmd
            go_wp2_with fail
            go_roundw
            case rel => exact ⟨j + 1 + 1, by go_num, HT.out⟩
            case measure => first | (simp [intOf]; done) | (simp [intOf]; omega)
          · have t2 : ((u[j].c.toNat : Int) == 91) = false := by rw [← hmd]; exact ne_tst c1
            have KI1 := Lib.hid (fun w => KI.out u[j].c q u[j].a.length c w)
            cases hh : hasB g u[j].c with
            | true =>
              rw [hh] at KI1
              have HT := Lib.hid (fun w1 h => (HO.out.later (w1 := w1) h).step hlt (bef g u j) (bf_pass c2 c1 (.inr (by rw [hmd]; exact hh))))
              generalize u[j].c.toNat = cn at e0 t1 t2 KI1
              generalize u[j].a.length = xl at e1 KI1
              generalize bef g u j = bv at q6 HT
              clear c1 c2 hmd hh
              go_wp2_with fail
              refine (KI1.out _).mono ?_
              rintro e w2 ⟨rfl, hb⟩
              have HT2 := Lib.hid (HT.out _ hb)
              have y5 := (hb.cell (p := ⟨w.heap.size, j + 1, none⟩) hlr).trans q5
              have y6 := (hb.cell (p := ⟨w.heap.size, j, none⟩) hlr).trans q6
              have g5 := (HO.out.later hb).row.free (j + 1)
              clear hb HT
              go_wp2_with fail
              go_roundw
              case rel => exact ⟨j + 1 + 1, by go_num, HT2.out⟩
              case measure => first | (simp [intOf]; done) | (simp [intOf]; omega)
            | false =>
              rw [hh] at KI1
              have HT := Lib.hid (fun w1 h => (HO.out.later (w1 := w1) h).step hlt (j : Int) (bf_stop c2 c1 (by rw [hmd]; exact hh)))
              generalize u[j].c.toNat = cn at e0 t1 t2 KI1
              generalize u[j].a.length = xl at e1 KI1
              clear c1 c2 hmd hh q6
              go_wp2_with fail
              refine (KI1.out _).mono ?_
              rintro e w2 ⟨rfl, hb⟩
              have HT2 := Lib.hid (HT.out _ hb)
              have y5 := (hb.cell (p := ⟨w.heap.size, j + 1, none⟩) hlr).trans q5
              have g5 := (HO.out.later hb).row.free (j + 1)
              clear hb HT
              go_wp2_with fail
              go_roundw
              case rel => exact ⟨j + 1 + 1, by go_num, HT2.out⟩
              case measure => first | (simp [intOf]; done) | (simp [intOf]; omega)
    · obtain rfl : k = u.length := by omega
      have k1 : ¬ (u.length : Int) < (u.length : Int) := by omega
      have HE : Hid (∃ g', Ending.returned (.slice (some ⟨w.heap.size, 0, none⟩) u.length u.length) = .returned (.slice (some ⟨g', 0, none⟩) u.length u.length) ∧ Below w.heap.size w wr ∧ RowI wr g' (lfL g u u.length) ∧ w.heap.size ≤ g') := Lib.hid ⟨_, rfl, HO.out.below, HO.out.row, Nat.le_refl _⟩
      go_wp2_with fail
      go_ret
      exact HE.out
/-! ### To the right -/
def rgL (g : Bs) (u : List Md) (k : Nat) : List Int := (List.range u.length).map fun i => if u.length ≤ i + k then beh g u i else 0
theorem rgL_length (g : Bs) (u : List Md) (k : Nat) : (rgL g u k).length = u.length := by simp [rgL]
theorem rgL_zero (g : Bs) (u : List Md) : rgL g u 0 = List.replicate u.length 0 := by
  apply List.ext_getElem (by simp [rgL])
  intro i h1 h2
  simp [rgL]
  simp [rgL] at h1
  omega
theorem rgL_get {g : Bs} {u : List Md} {k i : Nat} (h : i < u.length) : (rgL g u k)[i]'(by rw [rgL_length]; exact h) = if u.length ≤ i + k then beh g u i else 0 := by simp [rgL]
theorem rgL_set {g : Bs} {u : List Md} {k i : Nat} (h : i + k + 1 = u.length) : (rgL g u k).set i (beh g u i) = rgL g u (k + 1) := by
  apply List.ext_getElem (by simp [rgL])
  intro m h1 h2
  rw [List.getElem_set]
  rw [rgL_length] at h2
  rw [rgL_get (k := k + 1) h2]
  by_cases e : i = m
  · subst e; rw [if_pos rfl, if_pos (by omega)]
  · rw [if_neg e, rgL_get h2]
    by_cases e2 : u.length ≤ m + k
    · rw [if_pos e2, if_pos (by omega)]
    · rw [if_neg e2, if_neg (by omega)]
/-- Where rights stands. -/
structure RgAt (w : World) (g : Bs) (u : List Md) (gp k : Nat) (wr : World) : Prop where
  hi : k ≤ u.length
  below : Below w.heap.size w wr
  row : RowI wr w.heap.size (rgL g u k)
  oth : RowI wr gp (othL u u.length)
  hgp : w.heap.size < gp
theorem RgAt.later {w wr w1 : World} {g : Bs} {u : List Md} {gp k : Nat} (h : RgAt w g u gp k wr) (hb : Below wr.heap.size wr w1) : RgAt w g u gp k w1 :=
  ⟨h.hi, h.below.trans (hb.mono h.below.size), h.row.later hb, h.oth.later hb, h.hgp⟩
theorem RgAt.step {w wr : World} {g : Bs} {u : List Md} {gp k i : Nat} (h : RgAt w g u gp k wr) (hk : i + k + 1 = u.length) (x : Int) (hx : beh g u i = x) : RgAt w g u gp (k + 1) (wr.setCell ⟨w.heap.size, i, none⟩ (.int .i64 x)) := by
  subst hx
  have hg := h.hgp
  refine ⟨by omega, h.below.setCell (Nat.le_refl _) _, ?_, h.oth.other (by show gp ≠ w.heap.size; omega) _, hg⟩
  have := h.row.set (i := i) (by rw [rgL_length]; omega) (beh g u i)
  rwa [rgL_set hk] at this
set_option maxRecDepth 100000 in
set_option maxHeartbeats 6400000 in
theorem rights_any (v : Value) (u : List Md) (hu : u.length ≤ 2000) (hok : okB u u.length = true) (hd0 : dep u = 0) (s : ByteArray) (w : World) (hv : Mods w v u) :
    Calls Try.prog 26 #[v, .string s] w (NbEnd (rgL (lA s) u u.length) w) := by
  have HEl := Lib.hid (rgL_length (lA s) u u.length)
  unfold NbEnd
  rw [HEl.out]
  obtain ⟨p, cap, rfl⟩ := hv.slice
  have HV := Lib.hid hv
  have KP := Lib.hid (fun w h => pairs_any (.slice p u.length cap) u hu hok w h)
  have KI := Lib.hid (fun c p n cap w => cignored_any s c p n cap w)
  have hmk := make_ints u.length (by omega)
  obtain ⟨W0, hW0⟩ : ∃ W, W = w.alloc (.cells (zeros u.length) 3) := ⟨_, rfl⟩
  have B0 : Hid (Below w.heap.size w W0) := Lib.hid (by rw [hW0]; exact (Below.refl _ _).alloc (Nat.le_refl _) _)
  have R0 : Hid (RowI W0 w.heap.size (List.replicate u.length 0)) := Lib.hid (by rw [hW0]; exact made_row _ _)
  have HOk := Lib.hid hok
  have HD0 := Lib.hid hd0
  clear hv hok hd0
  generalize lA s = g at KI ⊢
  go_enter Try.func26, Try.ntmps26
  go_wp2_with fail
  rw [← hW0]
  clear hW0
  refine (KP.out _ (HV.out.later B0.out)).mono ?_
  rintro e w1 ⟨gp, rfl, hb, hrow, hgp⟩
  have S0 : Hid (RgAt w g u gp 0 w1) := Lib.hid ⟨Nat.zero_le _, B0.out.trans (hb.mono B0.out.size), by rw [rgL_zero]; exact R0.out.later hb, hrow, by have := R0.out.lt; omega⟩
  clear hb hrow hgp
  go_wp2_with fail
  go_loopw [17] (fun i wr => ∃ k : Nat, i = .int .i64 k ∧ RgAt w g u gp k wr) (fun i _ => u.length - (intOf i).toNat)
  case atStart => exact ⟨0, rfl, S0.out⟩
  case round =>
    obtain ⟨k, rfl, hO⟩ := hrel
    have HO := Lib.hid hO
    have n1 := hO.hi
    have hsz := hO.below.size
    have hlr := hO.row.lt
    clear hO
    by_cases hlt : k < u.length
    · have k1 : (k : Int) < (u.length : Int) := by omega
      obtain ⟨i, hik⟩ : ∃ i : Nat, i + k + 1 = u.length := ⟨u.length - 1 - k, by omega⟩
      obtain ⟨j, hji⟩ : ∃ j : Nat, j = i + 1 := ⟨_, rfl⟩
      have hin : i < u.length := by omega
      have i1 : (i : Int) < (u.length : Int) := by omega
      have hs1 : (u.length : Int) - 1 - (k : Int) = (i : Int) := by omega
      have hs2 : (i : Int) + 1 = (j : Int) := by omega
      have q5 := HO.out.row.cell (i := i) (by rw [rgL_length]; exact hin)
      have f5 := HO.out.row.free i
      generalize (rgL g u k)[i]'(by rw [rgL_length]; exact hin) = z at q5
      have hbe : beh g u i = bhd g u j 0 := by rw [hji]; rfl
      by_cases hjn : j < u.length
      · have j1 : (j : Int) < (u.length : Int) := by omega
        have t0 : ((j : Int) == (u.length : Int)) = false := by rw [beq_eq_false_iff_ne]; omega
        obtain ⟨b, off, cap', q, c, hp, e0, e1, _, lb⟩ := (HV.out.later HO.out.below).at hjn
        obtain rfl : p = some ⟨b, off, none⟩ := by cases hp; rfl
        have hmd := md_get hjn
        have q6 := HO.out.row.cell (i := j) (by rw [rgL_length]; exact hjn)
        rw [rgL_get hjn, if_pos (by omega)] at q6
        clear hp
        by_cases c2 : (md u j).c = 93
        · have HT := Lib.hid (HO.out.step hik (-1) (by rw [hbe, bh_end hjn c2]))
          have t1 : ((u[j].c.toNat : Int) == 93) = true := by rw [← hmd, c2]; rfl
          generalize u[j].c.toNat = cn at e0 t1
          clear c2 hmd q6 hbe hik hji
          go_wp2_with fail
          go_roundw
          case rel => exact ⟨k + 1, by go_num, HT.out⟩
          case measure => first | (simp [intOf]; done) | (simp [intOf]; omega)
        · have t1 : ((u[j].c.toNat : Int) == 93) = false := by rw [← hmd]; exact ne_tst c2
          by_cases c1 : (md u j).c = 91
          · obtain ⟨pp, hpj, hpu, ho, hbp⟩ := beh_open (g := g) HOk.out HD0.out hjn c1
            have q7 := HO.out.oth.cell (i := j) (by rw [othL_length]; exact hjn)
            have e7 : (othL u u.length)[j]'(by rw [othL_length]; exact hjn) = (pp : Int) := by
              rw [← ho]; simp [List.getD, othL_length, hjn]
            rw [e7] at q7
            have q8 := HO.out.row.cell (i := pp) (by rw [rgL_length]; omega)
            rw [rgL_get (by omega), if_pos (by omega)] at q8
            have HT := Lib.hid (HO.out.step hik (beh g u pp) (by rw [hbe, hbp]))
            have pp1 : (pp : Int) < (u.length : Int) := by omega
            have t2 : ((u[j].c.toNat : Int) == 91) = true := by rw [← hmd, c1]; rfl
            generalize u[j].c.toNat = cn at e0 t1 t2
            generalize beh g u pp = bv at q8 HT
            clear c1 c2 hmd q6 hbe hik hji ho e7 hbp
            go_wp2_with fail
            go_roundw
            case rel => exact ⟨k + 1, by go_num, HT.out⟩
            case measure => first | (simp [intOf]; done) | (simp [intOf]; omega)
          · have t2 : ((u[j].c.toNat : Int) == 91) = false := by rw [← hmd]; exact ne_tst c1
            have KI1 := Lib.hid (fun w => KI.out u[j].c q u[j].a.length c w)
            cases hh : hasB g u[j].c with
            | true =>
              rw [hh] at KI1
              have HT := Lib.hid (fun w1 h => (HO.out.later (w1 := w1) h).step hik (beh g u j) (by rw [hbe, bh_pass hjn c2 c1 (.inr (by rw [hmd]; exact hh))]; rfl))
              generalize u[j].c.toNat = cn at e0 t1 t2 KI1
              generalize u[j].a.length = xl at e1 KI1
              generalize beh g u j = bv at q6 HT
              clear c1 c2 hmd hh hbe hik hji
              go_wp2_with fail
              refine (KI1.out _).mono ?_
              rintro e w2 ⟨rfl, hb⟩
              have HT2 := Lib.hid (HT.out _ hb)
              have y5 := (hb.cell (p := ⟨w.heap.size, i, none⟩) hlr).trans q5
              have y6 := (hb.cell (p := ⟨w.heap.size, j, none⟩) hlr).trans q6
              have g5 := (HO.out.later hb).row.free i
              clear hb HT
              go_wp2_with fail
              go_roundw
              case rel => exact ⟨k + 1, by go_num, HT2.out⟩
              case measure => first | (simp [intOf]; done) | (simp [intOf]; omega)
            | false =>
              rw [hh] at KI1
              have HT := Lib.hid (fun w1 h => (HO.out.later (w1 := w1) h).step hik (j : Int) (by rw [hbe]; exact bh_stop hjn c2 c1 (by rw [hmd]; exact hh)))
              generalize u[j].c.toNat = cn at e0 t1 t2 KI1
              generalize u[j].a.length = xl at e1 KI1
              clear c1 c2 hmd hh q6 hbe hik hji
              go_wp2_with fail
              refine (KI1.out _).mono ?_
              rintro e w2 ⟨rfl, hb⟩
              have HT2 := Lib.hid (HT.out _ hb)
              have y5 := (hb.cell (p := ⟨w.heap.size, i, none⟩) hlr).trans q5
              have g5 := (HO.out.later hb).row.free i
              clear hb HT
              go_wp2_with fail
              go_roundw
              case rel => exact ⟨k + 1, by go_num, HT2.out⟩
              case measure => first | (simp [intOf]; done) | (simp [intOf]; omega)
      · have t0 : ((j : Int) == (u.length : Int)) = true := by rw [beq_iff_eq]; omega
        have HT := Lib.hid (HO.out.step hik (-1) (by rw [hbe, bh_out (by omega)]))
        clear hbe hik hji
        go_wp2_with fail
        go_roundw
        case rel => exact ⟨k + 1, by go_num, HT.out⟩
        case measure => first | (simp [intOf]; done) | (simp [intOf]; omega)
    · obtain rfl : k = u.length := by omega
      have k1 : ¬ (u.length : Int) < (u.length : Int) := by omega
      have HE : Hid (∃ g', Ending.returned (.slice (some ⟨w.heap.size, 0, none⟩) u.length u.length) = .returned (.slice (some ⟨g', 0, none⟩) u.length u.length) ∧ Below w.heap.size w wr ∧ RowI wr g' (rgL g u u.length) ∧ w.heap.size ≤ g') := Lib.hid ⟨_, rfl, HO.out.below, HO.out.row, Nat.le_refl _⟩
      go_wp2_with fail
      go_ret
      exact HE.out
end Go.Proofs.Ytcoljbcjnggagaa
