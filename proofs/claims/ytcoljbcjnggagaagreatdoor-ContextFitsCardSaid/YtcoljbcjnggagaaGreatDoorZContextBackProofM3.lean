/-
  Texts of the proof, merged: ZWordEnv, ZWordPrA, ZWordPrB, ZWordClM, ZWordPrC, ZWordTwin.
-/
import Derived.Test.YtcoljbcjnggagaaGreatDoorZContextBackProofM1
import Derived.Test.YtcoljbcjnggagaaGreatDoorZContextBackProofM2
import Derived.Lib.LaidTab
import Derived.Lib.AtoiErrMem
import Derived.Lib.AppendIntMem
import Derived.LaidLaws
import Derived.Test.YtcoljbcjnggagaaGreatDoorShelfI
import Derived.Lib.IndexLaws
import Derived.Laws.OwnMore
import Derived.Deep.RegionLaw
namespace Go.Proofs.YtcoljbcjnggagaaGreatDoor
open Go.RowKit
open WM
set_option linter.unusedVariables false
set_option linter.unusedSimpArgs false

/-- The table of powers of ten that the library's decimals are made with. -/
def Tab (w : World) : Prop := Lib.TabIs Tryz.prog w "internal/strconv.uint64pow10" .u64 Lib.pow10Tab
theorem tab_named : Tryz.prog.globalNamed "internal/strconv.uint64pow10" = some 3 := by kernel_rfl
theorem syn_named : Tryz.prog.globalNamed "strconv.ErrSyntax" = some 1 := by kernel_rfl
theorem rge_named : Tryz.prog.globalNamed "strconv.ErrRange" = some 2 := by kernel_rfl
theorem var_lt {w : World} {s : String} {g : Nat} {cs : Array Value} (hn : Tryz.prog.globalNamed s = some g) (h : w.var? Tryz.prog s = some cs) : g < w.heap.size := by
  unfold World.var? at h
  simp only [hn, Option.bind_some] at h
  rcases Nat.lt_or_ge g w.heap.size with h' | h'
  · exact h'
  · simp [Array.getElem?_eq_none h'] at h
theorem Tab.later {w w1 : World} (h : Tab w) (hb : Below w.heap.size w w1) : Tab w1 := var?_below hb tab_named (var_lt tab_named h) h
/-- The library's variable that its search reads holds some integer. -/
def Len (w : World) : Prop := ∃ m, w.cell? ⟨0, 0, none⟩ = some (.int .i64 m)
theorem Len.lt {w : World} (h : Len w) : 0 < w.heap.size := by
  obtain ⟨m, hm⟩ := h
  rcases Nat.lt_or_ge 0 w.heap.size with h | h
  · exact h
  · simp [World.cell?, Array.getElem?_eq_none h] at hm
theorem Len.later {w w1 : World} (h : Len w) (hb : Below w.heap.size w w1) : Len w1 := by
  have hn := h.lt
  obtain ⟨m, hm⟩ := h
  exact ⟨m, by rw [← hm]; unfold World.cell?; rw [hb.block _ hn]⟩
/-- What the library's functions lean on. -/
structure Env (w : World) : Prop where
  tab : Tab w
  len : Len w
  syn : ∃ tp p, w.var? Tryz.prog "strconv.ErrSyntax" = some #[.iface tp p]
  rge : ∃ tp p, w.var? Tryz.prog "strconv.ErrRange" = some #[.iface tp p]
theorem Env.later {w w1 : World} (h : Env w) (hb : Below w.heap.size w w1) : Env w1 := by
  refine ⟨h.tab.later hb, h.len.later hb, ?_, ?_⟩
  · obtain ⟨tp, p, e⟩ := h.syn
    exact ⟨tp, p, var?_below hb syn_named (var_lt syn_named e) e⟩
  · obtain ⟨tp, p, e⟩ := h.rge
    exact ⟨tp, p, var?_below hb rge_named (var_lt rge_named e) e⟩
theorem itoa_lib (n : Int) (h0 : -9223372036854775808 ≤ n) (h1 : n ≤ 9223372036854775807) (w : World) (he : Env w) :
    Calls Tryz.prog 58 #[.int .i64 n] w fun e w' => e = .returned (.string (bA (Lib.itoa n))) ∧ Below w.heap.size w w' := by
  refine (Tryz.strconv_Itoa n h0 h1 w he.tab).mono ?_
  rintro e w' ⟨he, k, os, rfl⟩
  exact ⟨he, Lib.below_grow _ w (Nat.le_refl _) k os⟩
theorem cut_lib (s : ByteArray) (c : UInt8) (hs : s.size ≤ 200000) (w : World) (hl : Env w) :
    Calls Tryz.prog 53 #[.string s, .string ⟨#[c]⟩] w fun e w' => e = .returned (.tuple #[.string (bA (Lib.cut (lA s) [c]).1), .string (bA (Lib.cut (lA s) [c]).2.1), .bool (Lib.cut (lA s) [c]).2.2]) ∧ Below w.heap.size w w' := by
  obtain ⟨m, hm⟩ := hl.len
  refine (Any.strings_Cut { Tryz.laysM145 with } s ⟨#[c]⟩ m w (by omega) hm).mono ?_
  rintro e w' ⟨he, n, rfl⟩
  exact ⟨he, below_drewN (Below.refl _ _) n⟩
theorem prefix_lib (s : ByteArray) (c : UInt8) (w : World) :
    Calls Tryz.prog 52 #[.string s, .string ⟨#[c]⟩] w fun e w' => e = .returned (.tuple #[.string (bA (if (lA s).head? = some c then (lA s).tail else lA s)), .bool (decide ((lA s).head? = some c))]) ∧ w = w' := by
  have hp : Lib.hasPrefix (lA s) [c] = decide ((lA s).head? = some c) := by
    unfold Lib.hasPrefix
    cases lA s with
    | nil => simp
    | cons a t =>
      by_cases h : a = c
      · subst h; simp
      · have h2 : ¬ c = a := fun e => h e.symm
        have h3 : (c == a) = false := beq_eq_false_iff_ne.2 h2
        simp [List.isPrefixOf, h, h3]
  have ht : Lib.trimPrefix (lA s) [c] = if (lA s).head? = some c then (lA s).tail else lA s := by
    unfold Lib.trimPrefix
    rw [hp]
    by_cases h : (lA s).head? = some c
    · simp [h]
    · simp [h]
  refine (Tryz.strings_CutPrefix s ⟨#[c]⟩ w).mono fun e w' ⟨h1, h2⟩ => ⟨?_, h2.symm⟩
  rw [h1]
  show Ending.returned (.tuple #[.string ⟨(Lib.trimPrefix (lA s) [c]).toArray⟩, .bool (Lib.hasPrefix (lA s) [c])]) = _
  rw [hp, ht]; rfl
theorem split_lib (s : ByteArray) (hs : s.size ≤ 200000) (w : World) (hl : Env w) :
    Calls Tryz.prog 81 #[.string s, .string ⟨#[44]⟩] w fun e w' => e = .returned (.slice (some ⟨w.heap.size, 0, none⟩) (pcs (lA s)).length (pcs (lA s)).length) ∧ w' = w.alloc (.cells ((pcs (lA s)).map fun l => Value.string (bA l)).toArray 9) := by
  obtain ⟨m, hm⟩ := hl.len
  refine (Any.strings_Split { Tryz.laysM146 with } Tryz.laysM146.i9 s ⟨#[44]⟩ m w (by omega) hm (by decide)).mono ?_
  rintro e w' ⟨rfl, rfl⟩
  have e1 := splitB_pcs ⟨#[44]⟩ rfl s.size s (Nat.le_refl _)
  have e2 : (Lib.splitB ⟨#[44]⟩ 0 (Lib.countB s ⟨#[44]⟩) s).map Value.string = (pcs (lA s)).map fun l => Value.string (bA l) := by
    rw [show pcs (lA s) = _ from e1.symm, List.map_map]
    rfl
  have e3 : Lib.countB s ⟨#[44]⟩ + 1 = (pcs (lA s)).length := by
    have := congrArg List.length e1
    rw [List.length_map, Lib.splitB_all ⟨#[44]⟩ (by decide) 0 _ s rfl] at this
    exact this
  rw [e2, e3]
  exact ⟨rfl, rfl⟩
theorem atoi_lib (s : ByteArray) (hs : s.size ≤ 200000) (w : World) (hl : Env w) :
    Calls Tryz.prog 82 #[.string s] w fun e w' => (∃ x, e = .returned (.tuple #[.int .i64 (atoiV (lA s)), x])) ∧ Below w.heap.size w w' := by
  have hv : atoiV (lA s) = (match Lib.atoiAll (lA s) with | .ok v => v | .syntax => 0 | .range => Lib.atoiSat (lA s)) := rfl
  rcases h : Lib.atoiAll (lA s) with v | _ | _
  · rw [h] at hv
    refine (Tryz.strconv_Atoi_ok s (by omega) v h w).mono ?_
    rintro e w' ⟨rfl, rfl | ⟨t, rfl⟩⟩
    · exact ⟨⟨_, by rw [hv]⟩, Below.refl _ _⟩
    · exact ⟨⟨_, by rw [hv]⟩, Lib.bytesWorld_below w _ t⟩
  · rw [h] at hv
    obtain ⟨tp, p, e⟩ := hl.syn
    refine (Tryz.strconv_Atoi_syntax_var s (by omega) h tp p w e).mono ?_
    rintro e w' ⟨N, rfl, _, _, hb⟩
    exact ⟨⟨_, by rw [hv]⟩, hb⟩
  · rw [h] at hv
    obtain ⟨tp, p, e⟩ := hl.rge
    refine (Tryz.strconv_Atoi_range_var s (by omega) h tp p w e).mono ?_
    rintro e w' ⟨N, rfl, _, _, hb⟩
    exact ⟨⟨_, by rw [hv]; rfl⟩, hb⟩
end Go.Proofs.YtcoljbcjnggagaaGreatDoor
namespace Go.Proofs.YtcoljbcjnggagaaGreatDoor
open Go.RowKit
open WM
set_option linter.unusedVariables false
set_option linter.unusedSimpArgs false

theorem idx_nm (c : UInt8) : (0 ≤ Lib.indexByte nmS.data.toList c) ↔ (c == 43 || c == 45 || c == 38 || c == 94 || c == 124 || c == 33 || c == 91 || c == 93) = true := by
  have all : ∀ n : Fin 256, (0 ≤ Lib.indexByte nmS.data.toList (UInt8.ofNat n.1)) ↔ ((UInt8.ofNat n.1) == 43 || (UInt8.ofNat n.1) == 45 || (UInt8.ofNat n.1) == 38 || (UInt8.ofNat n.1) == 94 || (UInt8.ofNat n.1) == 124 || (UInt8.ofNat n.1) == 33 || (UInt8.ofNat n.1) == 91 || (UInt8.ofNat n.1) == 93) = true := by decide +kernel
  have e : UInt8.ofNat c.toNat = c := UInt8.toNat_inj.1 (by rw [UInt8.toNat_ofNat']; have := c.toNat_lt; omega)
  have := all ⟨c.toNat, c.toNat_lt⟩
  rw [e] at this
  exact this
theorem u8_int (c : UInt8) : ((c.toNat : Int)).toNat.toUInt8 = c := by
  rw [Int.toNat_natCast]; exact UInt8.toNat_inj.1 (by rw [Nat.toUInt8, UInt8.toNat_ofNat']; have := c.toNat_lt; omega)
set_option maxHeartbeats 800000 in
theorem proper_any (c : UInt8) (w : World) : Calls Tryz.prog 83 #[.int .u8 c.toNat] w fun e w' => e = .returned (.bool (letB c)) ∧ w = w' := by
  have hc := c.toNat_lt
  have KI := Lib.hid (fun w => Tryz.strings_IndexByte nmS (c.toNat : Int) w)
  rw [u8_int] at KI
  have HX := Lib.hid (idx_nm c)
  obtain ⟨x, hx⟩ : ∃ x, Lib.indexByte nmS.data.toList c = x := ⟨_, rfl⟩
  rw [hx] at KI HX
  clear hx
  have HL : Hid (letB c = ((c == 43 || c == 45 || c == 38 || c == 94 || c == 124 || c == 33 || c == 91 || c == 93) || (decide (65 ≤ c.toNat) && decide (c.toNat ≤ 90)) || (decide (97 ≤ c.toNat) && decide (c.toNat ≤ 122)))) := Lib.hid rfl
  obtain ⟨s, hs⟩ : ∃ s : ByteArray, (⟨#[43, 45, 38, 94, 124, 33, 91, 93]⟩ : ByteArray) = s := ⟨_, rfl⟩
  have hss : nmS = s := hs
  rw [hss] at KI
  clear hss
  have HL2 := HL.out
  have HX2 := HX.out
  have fin : ∀ b : Bool, (b = true ↔ ((65 ≤ c.toNat ∧ c.toNat ≤ 90) ∨ (97 ≤ c.toNat ∧ c.toNat ≤ 122))) → (b || decide (0 ≤ x)) = letB c := by
    intro b hb
    rw [HL2]
    generalize (c == 43 || c == 45 || c == 38 || c == 94 || c == 124 || c == 33 || c == 91 || c == 93) = g at HX2
    have e1 : b = ((decide (65 ≤ c.toNat) && decide (c.toNat ≤ 90)) || (decide (97 ≤ c.toNat) && decide (c.toNat ≤ 122))) := by
      rw [Bool.eq_iff_iff, hb]; simp
    have e2 : decide (0 ≤ x) = g := by rw [Bool.eq_iff_iff, decide_eq_true_iff, HX2]
    rw [e1, e2, Bool.or_comm, Bool.or_assoc]
  clear HL2 HX2
  have HF := Lib.hid fin
  clear fin HL HX
  by_cases c1 : (65 : Int) ≤ c.toNat
  · by_cases c2 : (c.toNat : Int) ≤ 90
    · go_enter Tryz.func83, Tryz.ntmps83
      go_wp2_with fail
      go_ret
      exact ⟨ret_bool (by rw [← HF.out true (by simp; omega)]; rfl), rfl⟩
    · by_cases c3 : (97 : Int) ≤ c.toNat
      · by_cases c4 : (c.toNat : Int) ≤ 122
        · go_enter Tryz.func83, Tryz.ntmps83
          go_wp2_with fail
          go_ret
          exact ⟨ret_bool (by rw [← HF.out true (by simp; omega)]; rfl), rfl⟩
        · go_enter Tryz.func83, Tryz.ntmps83
          go_wp2_with fail
          refine (KI.out _).mono ?_
          rintro e w2 ⟨rfl, rfl⟩
          go_wp2_with fail
          go_ret
          exact ⟨ret_bool (by rw [← HF.out false (by simp; omega)]; simp), rfl⟩
      · go_enter Tryz.func83, Tryz.ntmps83
        go_wp2_with fail
        refine (KI.out _).mono ?_
        rintro e w2 ⟨rfl, rfl⟩
        go_wp2_with fail
        go_ret
        exact ⟨ret_bool (by rw [← HF.out false (by simp; omega)]; simp), rfl⟩
  · have c3 : ¬ (97 : Int) ≤ c.toNat := by omega
    go_enter Tryz.func83, Tryz.ntmps83
    go_wp2_with fail
    refine (KI.out _).mono ?_
    rintro e w2 ⟨rfl, rfl⟩
    go_wp2_with fail
    go_ret
    exact ⟨ret_bool (by rw [← HF.out false (by simp; omega)]; simp), rfl⟩

set_option maxHeartbeats 800000 in
theorem bracket_any (c : UInt8) (p : Option Addr) (n cap : Nat) (w : World) : Calls Tryz.prog 84 #[.agg #[.int .u8 c.toNat, .slice p n cap]] w fun e w' => e = .returned (.bool (braB c)) ∧ Below w.heap.size w w' := by
  obtain ⟨W0, hW0⟩ : ∃ W, W = w.alloc (.cells #[.int .u8 c.toNat, .slice p n cap] 45) := ⟨_, rfl⟩
  have N0 : W0.heap[w.heap.size]? = some (.cells #[.int .u8 c.toNat, .slice p n cap] 45 (0, 0)) := by rw [hW0]; exact heap_alloc_new _ _
  have B0 : Below w.heap.size w W0 := by rw [hW0]; exact (Below.refl _ _).alloc (Nat.le_refl _) _
  have HB := Lib.hid B0
  have q0 := cell_two0 N0
  have l1 := lt_of_block N0
  clear N0 B0
  have walk : ∀ (t1 t2 : Bool), ((c.toNat : Int) == 91) = t1 → ((c.toNat : Int) == 93) = t2 → braB c = (t1 || t2) →
      Calls Tryz.prog 84 #[.agg #[.int .u8 c.toNat, .slice p n cap]] w fun e w' => e = .returned (.bool (braB c)) ∧ Below w.heap.size w w' := by
    intro t1 t2 e1 e2 hb
    have HBr := Lib.hid hb
    clear hb
    cases t1 with
    | true =>
      go_enter Tryz.func84, Tryz.ntmps84
      go_wp2_with fail
      rw [← hW0]
      clear hW0
      go_wp2_with fail
      go_ret
      exact ⟨ret_bool HBr.out.symm, HB.out⟩
    | false =>
      go_enter Tryz.func84, Tryz.ntmps84
      go_wp2_with fail
      rw [← hW0]
      clear hW0
      go_wp2_with fail
      go_ret
      exact ⟨ret_bool (by rw [HBr.out]; simp), HB.out⟩
  exact walk _ _ rfl rfl (by
    rw [show (91 : Int) = ((91 : UInt8).toNat : Int) from rfl, show (93 : Int) = ((93 : UInt8).toNat : Int) from rfl, u8_eq, u8_eq]; rfl)
end Go.Proofs.YtcoljbcjnggagaaGreatDoor
namespace Go.Proofs.YtcoljbcjnggagaaGreatDoor
open Go.RowKit
open WM
set_option linter.unusedVariables false
set_option linter.unusedSimpArgs false

set_option maxHeartbeats 1600000 in
theorem valid_any (m : Md) (v : Value) (hm : m.a.length ≤ 9223372036854775807) (w : World) (hv : Ints w v m.a) : Calls Tryz.prog 55 #[.agg #[.int .u8 m.c.toNat, v]] w fun e w' => e = .returned (.bool (fineB m)) ∧ Below w.heap.size w w' := by
  obtain ⟨p, cap, rfl⟩ := hv.slice
  obtain ⟨W0, hW0⟩ : ∃ W, W = w.alloc (.cells #[.int .u8 m.c.toNat, .slice p m.a.length cap] 45) := ⟨_, rfl⟩
  have N0 : W0.heap[w.heap.size]? = some (.cells #[.int .u8 m.c.toNat, .slice p m.a.length cap] 45 (0, 0)) := by rw [hW0]; exact heap_alloc_new _ _
  have B0 : Below w.heap.size w W0 := by rw [hW0]; exact (Below.refl _ _).alloc (Nat.le_refl _) _
  have S0 : W0.heap.size = w.heap.size + 1 := by rw [hW0]; simp
  have HS0 := Lib.hid S0
  have HN := Lib.hid N0
  have HB := Lib.hid B0
  have HV0 := Lib.hid (hv.later B0)
  have q0 := cell_two0 N0
  have q1 := cell_two1 N0
  have l1 := lt_of_block N0
  clear N0 B0 hv S0
  have HBr := Lib.hid (fun w => bracket_any m.c p m.a.length cap w)
  cases hl : letB m.c with
  | false =>
    have HF := Lib.hid (fine_let0 hl)
    have HC : Hid (∀ w, Calls Tryz.prog 83 #[.int .u8 m.c.toNat] w fun e w' => e = .returned (.bool false) ∧ w = w') := Lib.hid (fun w => by have := proper_any m.c w; rwa [hl] at this)
    clear hl
    go_enter Tryz.func55, Tryz.ntmps55
    go_wp2_with fail
    rw [← hW0]
    clear hW0
    go_wp2_with (go_at_call 83; refine (HC.out _).mono ?_; rintro e w2 ⟨rfl, rfl⟩)
    go_ret
    exact ⟨ret_bool HF.out.symm, HB.out⟩
  | true =>
    have HC : Hid (∀ w, Calls Tryz.prog 83 #[.int .u8 m.c.toNat] w fun e w' => e = .returned (.bool true) ∧ w = w') := Lib.hid (fun w => by have := proper_any m.c w; rwa [hl] at this)
    by_cases h4 : 4 < m.a.length
    · have HF := Lib.hid (fine_len h4)
      have h4' : (4 : Int) < (m.a.length : Int) := by omega
      clear hl
      go_enter Tryz.func55, Tryz.ntmps55
      go_wp2_with fail
      rw [← hW0]
      clear hW0
      go_wp2_with (go_at_call 83; refine (HC.out _).mono ?_; rintro e w2 ⟨rfl, rfl⟩)
      go_ret
      exact ⟨ret_bool HF.out.symm, HB.out⟩
    · have h4' : ¬ (4 : Int) < (m.a.length : Int) := by omega
      have HL := Lib.hid hl
      obtain ⟨t, ht⟩ : ∃ t, braB m.c = t := ⟨_, rfl⟩
      rw [ht] at HBr
      have HT := Lib.hid ht
      clear hl ht
      cases t with
      | true =>
        by_cases hz : 0 < m.a.length
        · have HF := Lib.hid (fine_bra HT.out hz)
          have hz2 : (0 : Int) < (m.a.length : Int) := by omega
          go_enter Tryz.func55, Tryz.ntmps55
          go_wp2_with fail
          rw [← hW0]
          clear hW0
          go_wp2_with (go_at_call 83; refine (HC.out _).mono ?_; rintro e w2 ⟨rfl, rfl⟩)
          refine (HBr.out _).mono ?_
          rintro e w2 ⟨rfl, hb⟩
          have HB2 := Lib.hid (HB.out.trans (hb.mono HB.out.size))
          have q1 := (hb.cell (p := ⟨w.heap.size, 1, none⟩) l1).trans q1
          clear hb
          go_wp2_with fail
          go_ret
          exact ⟨ret_bool HF.out.symm, HB2.out⟩
        · have HF := Lib.hid (fine_all HL.out (by omega) (.inr (by omega)) fun j h => by omega)
          have hl0 : m.a.length = 0 := by omega
          have hz2 : ¬ (0 : Int) < (m.a.length : Int) := by omega
          clear hl0
          go_enter Tryz.func55, Tryz.ntmps55
          go_wp2_with fail
          rw [← hW0]
          clear hW0
          go_wp2_with (go_at_call 83; refine (HC.out _).mono ?_; rintro e w2 ⟨rfl, rfl⟩)
          refine (HBr.out _).mono ?_
          rintro e w2 ⟨rfl, hb⟩
          have HB2 := Lib.hid (HB.out.trans (hb.mono HB.out.size))
          have q1 := (hb.cell (p := ⟨w.heap.size, 1, none⟩) l1).trans q1
          have l1 := Nat.lt_of_lt_of_le l1 hb.size
          clear hb
          go_wp2_with fail
          go_loop [28] (fun i => i = .int .i64 0) (fun _ => 0)
          case atStart => rfl
          case round =>
            subst hrel
            go_wp2_with fail
            go_ret
            exact ⟨ret_bool HF.out.symm, HB2.out⟩
      | false =>
        go_enter Tryz.func55, Tryz.ntmps55
        go_wp2_with fail
        rw [← hW0]
        clear hW0
        go_wp2_with (go_at_call 83; refine (HC.out _).mono ?_; rintro e w2 ⟨rfl, rfl⟩)
        refine (HBr.out _).mono ?_
        rintro e w2 ⟨rfl, hb⟩
        have HB2 := Lib.hid (HB.out.trans (hb.mono HB.out.size))
        have HV2 := Lib.hid (HV0.out.later (hb.mono (Nat.le_refl _)))
        have q1 := (hb.cell (p := ⟨w.heap.size, 1, none⟩) l1).trans q1
        have l1 := Nat.lt_of_lt_of_le l1 hb.size
        clear hb
        go_wp2_with fail
        go_loop [28] (fun i => ∃ k : Nat, k ≤ m.a.length ∧ i = .int .i64 k ∧ ∀ j, (h : j < m.a.length) → j < k → -1000000000 ≤ m.a[j] ∧ m.a[j] ≤ 1000000000) (fun i => m.a.length - (intOf i).toNat)
        case atStart => exact ⟨0, Nat.zero_le _, rfl, fun j _ h => by omega⟩
        case round =>
          obtain ⟨k, hk, rfl, hok⟩ := hrel
          have HK := Lib.hid hok
          clear hok
          by_cases hlt : k < m.a.length
          · obtain ⟨b, off, cap', hp, e1', lb⟩ := HV2.out.at hlt
            obtain rfl : p = some ⟨b, off, none⟩ := by cases hp; rfl
            obtain ⟨y, hy⟩ : ∃ y, m.a[k] = y := ⟨_, rfl⟩
            have HY : Hid (m.a[k] = y) := Lib.hid hy
            rw [hy] at e1'
            clear hp hy
            have k1 : (k : Int) < (m.a.length : Int) := by omega
            by_cases y1 : y < -1000000000
            · have HF := Lib.hid (fine_rng hlt (.inl (by rw [HY.out]; exact y1)))
              go_wp2_with fail
              go_ret
              exact ⟨ret_bool HF.out.symm, HB2.out⟩
            · by_cases y2 : 1000000000 < y
              · have HF := Lib.hid (fine_rng hlt (.inr (by rw [HY.out]; exact y2)))
                go_wp2_with fail
                go_ret
                exact ⟨ret_bool HF.out.symm, HB2.out⟩
              · have HG : Hid (∀ j, (h : j < m.a.length) → j < k + 1 → -1000000000 ≤ m.a[j] ∧ m.a[j] ≤ 1000000000) := Lib.hid (fun j h hj => by
                  rcases Nat.lt_or_eq_of_le (Nat.le_of_lt_succ hj) with h1 | h1
                  · exact HK.out j h h1
                  · subst h1; rw [HY.out]; omega)
                go_wp2_with fail
                go_round
                case rel => exact ⟨k + 1, by omega, by go_num, HG.out⟩
                case measure => simp [intOf]; omega
          · obtain rfl : k = m.a.length := by omega
            have HF := Lib.hid (fine_all HL.out (by omega) (.inl HT.out) fun j h => HK.out j h h)
            go_wp2_with fail
            go_ret
            exact ⟨ret_bool HF.out.symm, HB2.out⟩
end Go.Proofs.YtcoljbcjnggagaaGreatDoor
namespace Go.Proofs.YtcoljbcjnggagaaGreatDoor
open Go.RowKit
open WM
set_option linter.unusedVariables false
set_option linter.unusedSimpArgs false

theorem ret_two {a b c d : Int} (h1 : a = b) (h2 : c = d) : Ending.returned (.tuple #[.int .i64 a, .int .i64 c]) = .returned (.tuple #[.int .i64 b, .int .i64 d]) := by rw [h1, h2]
theorem opn_rng {l : List Md} (h : okB l l.length = true) {k : Nat} (hk : k < l.length) : 0 ≤ dep (l.take (k + 1)) ∧ dep (l.take (k + 1)) ≤ l.length := by
  have h1 := okB_iff.1 h k hk
  have h2 := dep_hi l (k + 1) (by omega)
  omega
theorem dmax_le {l : List Md} (h : okB l l.length = true) : ∀ k, k ≤ l.length → dmax l k ≤ l.length := by
  intro k
  induction k with
  | zero => intro _; rw [dmax_zero]; omega
  | succ k ih =>
    intro hk
    have := opn_rng h (k := k) (by omega)
    have := ih (by omega)
    rw [dmax_succ]; omega
/-- Open of a valid word. -/
theorem open_valid (v : Value) (l : List Md) (hc : chk l = 0) (w : World) (hv : Mods w v l) :
    Calls Tryz.prog 76 #[v] w fun e w' => ∃ p cap, e = .returned (.tuple #[.slice p l.length cap, .bool true]) ∧ Below w.heap.size w w' ∧ Ints w' (.slice p l.length cap) (opnL l l.length) := by
  have hh := chk_zero.1 hc
  refine (open_any v l (by omega) w hv).mono ?_
  rintro e w' ⟨hb, ⟨hno, _⟩ | ⟨_, v1, rfl, hi⟩⟩
  · rw [hh.2.2.1] at hno; exact absurd hno (by simp)
  · obtain ⟨p, cap, rfl⟩ := hi.slice
    rw [opnL_length] at hi ⊢
    exact ⟨p, cap, rfl, hb, hi⟩
def dpI (l : List Md) : Int := if chk l = 0 then dmax l l.length else 0
/-- k is the bracket that belongs to the one at i. -/
def IsCl (l : List Md) (i k : Nat) : Prop :=
  ∃ (hi : i < l.length) (hk : k < l.length),
  (l[i].c = 91 ∧ i < k ∧ dep (l.take (k + 1)) < dep (l.take (i + 1)) ∧ ∀ j, i < j → j < k → dep (l.take (i + 1)) ≤ dep (l.take (j + 1))) ∨
  (l[i].c = 93 ∧ k < i ∧ l[k].c = 91 ∧ dep (l.take (k + 1)) = dep (l.take (i + 1)) + 1 ∧ ∀ j, (hj : j < l.length) → k < j → j < i → ¬ (l[j].c = 91 ∧ dep (l.take (j + 1)) = dep (l.take (i + 1)) + 1))
theorem isCl_one {l : List Md} {i k k' : Nat} (h : IsCl l i k) (h' : IsCl l i k') : k = k' := by
  obtain ⟨hi, hk, h⟩ := h
  obtain ⟨_, hk', h'⟩ := h'
  rcases h with ⟨a1, a2, a3, a4⟩ | ⟨a1, a2, a3, a4, a5⟩
  · rcases h' with ⟨_, b2, b3, b4⟩ | ⟨b1, _⟩
    · rcases Nat.lt_trichotomy k k' with h | h | h
      · have := b4 k a2 h; omega
      · exact h
      · have := a4 k' b2 h; omega
    · rw [a1] at b1; exact absurd b1 (by decide)
  · rcases h' with ⟨b1, _⟩ | ⟨_, b2, b3, b4, b5⟩
    · rw [a1] at b1; exact absurd b1 (by decide)
    · rcases Nat.lt_trichotomy k k' with h | h | h
      · exact absurd ⟨b3, b4⟩ (a5 k' hk' h b2)
      · exact h
      · exact absurd ⟨a3, a4⟩ (b5 k hk h a2)
/-- Has a module at i, which is a bracket? -/
def atB (l : List Md) (i : Int) : Bool := decide (0 ≤ i) && decide (i < l.length) && braB (l.getD i.toNat ⟨0, []⟩).c
theorem atB_iff {l : List Md} {i : Int} : atB l i = true ↔ ∃ k : Nat, i = (k : Int) ∧ ∃ h : k < l.length, braB l[k].c = true := by
  unfold atB
  simp only [Bool.and_eq_true, decide_eq_true_eq]
  constructor
  · rintro ⟨⟨h1, h2⟩, h3⟩
    have hk : i.toNat < l.length := by omega
    exact ⟨i.toNat, by omega, hk, by simpa [List.getD, hk] using h3⟩
  · rintro ⟨k, rfl, h, h3⟩
    exact ⟨⟨by omega, by omega⟩, by simpa [List.getD, h] using h3⟩
theorem bra_cases {c : UInt8} (h : braB c = true) : c = 91 ∨ c = 93 := by
  unfold braB at h; simpa using h
/-- How Close ends. -/
def ClEnd (l : List Md) (i : Int) (w : World) (e : Ending) (w' : World) : Prop :=
  Below w.heap.size w w' ∧ ((chk l ≠ 0 ∧ e = .returned (.tuple #[.int .i64 0, .int .i64 (chk l)])) ∨ (chk l = 0 ∧ atB l i = false ∧ e = .returned (.tuple #[.int .i64 0, .int .i64 2])) ∨
    (chk l = 0 ∧ ∃ j k : Nat, i = (j : Int) ∧ IsCl l j k ∧ e = .returned (.tuple #[.int .i64 (k : Int), .int .i64 0])))
end Go.Proofs.YtcoljbcjnggagaaGreatDoor
namespace Go.Proofs.YtcoljbcjnggagaaGreatDoor
open Go.RowKit
open WM
set_option linter.unusedVariables false
set_option linter.unusedSimpArgs false

/-- The brackets that are open at each module, a pair's own counted at both of its brackets. -/
def lvlA (l : List Md) (i : Nat) : Int := dep (l.take (i + 1)) + (if (l.getD i ⟨0, []⟩).c = 93 then 1 else 0)
theorem lvlA_eq {l : List Md} {i : Nat} (h : i < l.length) : lvlA l i = dep (l.take (i + 1)) + (if l[i].c = 93 then 1 else 0) := by
  unfold lvlA; simp [List.getD, h]
def lvlL (l : List Md) (k : Nat) : List Int := (List.range l.length).map fun i => if i < k then lvlA l i else 0
theorem lvlL_length (l : List Md) (k : Nat) : (lvlL l k).length = l.length := by simp [lvlL]
theorem lvlL_zero (l : List Md) : lvlL l 0 = List.replicate l.length 0 := by
  apply List.ext_getElem (by simp [lvlL])
  intro i h1 h2; simp [lvlL]
theorem lvlL_get {l : List Md} {k i : Nat} (h : i < l.length) : (lvlL l k)[i]'(by rw [lvlL_length]; exact h) = if i < k then lvlA l i else 0 := by simp [lvlL]
theorem lvlL_set {l : List Md} {k : Nat} (h : k < l.length) : (lvlL l k).set k (lvlA l k) = lvlL l (k + 1) := by
  apply List.ext_getElem (by simp [lvlL])
  intro i h1 h2
  rw [List.getElem_set]
  rw [lvlL_length] at h2
  rw [lvlL_get (k := k + 1) h2]
  by_cases e : k = i
  · subst e; rw [if_pos rfl, if_pos (by omega)]
  · rw [if_neg e, lvlL_get h2]
    by_cases e2 : i < k
    · rw [if_pos e2, if_pos (by omega)]
    · rw [if_neg e2, if_neg (by omega)]
/-- How levels ends. -/
def LvEnd (l : List Md) (w : World) (e : Ending) (w' : World) : Prop :=
  Below w.heap.size w w' ∧ ((okB l l.length = false ∧ e = .returned (.tuple #[.slice none 0 0, .bool false])) ∨ (okB l l.length = true ∧ ∃ g, e = .returned (.tuple #[.slice (some ⟨g, 0, none⟩) l.length l.length, .bool (decide (dep l = 0))]) ∧ RowI w' g (lvlL l l.length)))
/-- Where levels stands. -/
structure LvAt (w : World) (l : List Md) (k : Nat) (wr : World) : Prop where
  hi : k ≤ l.length
  ok : okB l k = true
  row : RowI wr w.heap.size (lvlL l k)
  below : Below w.heap.size w wr
theorem LvAt.rng {w wr : World} {l : List Md} {k : Nat} (h : LvAt w l k wr) : 0 ≤ dep (l.take k) ∧ dep (l.take k) ≤ k := by
  refine ⟨?_, dep_hi l k h.hi⟩
  rcases Nat.eq_zero_or_pos k with h0 | h0
  · subst h0; simp [dep_nil]
  · have := okB_iff.1 h.ok (k - 1) (by omega)
    rwa [show k - 1 + 1 = k by omega] at this
theorem lvAt_start (w : World) (l : List Md) : LvAt w l 0 (w.alloc (.cells (zeros l.length) 3)) :=
  ⟨Nat.zero_le _, okB_zero l, by rw [lvlL_zero]; exact made_row _ _, (Below.refl _ _).alloc (Nat.le_refl _) _⟩
theorem lvAt_step {w wr : World} {l : List Md} {k : Nat} (h : LvAt w l k wr) (hk : k < l.length) (hd : 0 ≤ dep (l.take (k + 1))) (x : Int) (hx : x = lvlA l k) : LvAt w l (k + 1) (wr.setCell ⟨w.heap.size, k, none⟩ (.int .i64 x)) := by
  subst hx
  refine ⟨hk, by rw [okB_succ, h.ok]; simpa using hd, ?_, h.below.setCell (Nat.le_refl _) _⟩
  have := h.row.set (i := k) (by rw [lvlL_length]; exact hk) (lvlA l k)
  rwa [lvlL_set hk] at this
set_option maxRecDepth 100000 in
set_option maxHeartbeats 1600000 in
theorem levels_any (v : Value) (l : List Md) (hmax : l.length ≤ 50000) (w : World) (hv : Mods w v l) :
    Calls Tryz.prog 56 #[v] w (LvEnd l w) := by
  obtain ⟨p, cap, rfl⟩ := hv.slice
  have HV := Lib.hid hv
  have hmk : ∀ w : World, (Instr.makeSlice 43 (.int .i64 (l.length : Int)) (.int .i64 (l.length : Int))).run Tryz.prog w = .ok (.slice (some ⟨w.heap.size, 0, none⟩) l.length l.length) (w.alloc (.cells (zeros l.length) 3)) := fun w => by
    have := run_make (P := Tryz.prog) w 43 3 Tryz.t3 (.int .i64 0) Tryz.underlying43 (by kernel_rfl) (by kernel_rfl) .i64 .i64 l.length l.length (by omega) (Int.le_refl _) (by show ((8 : Nat) : Int) * (l.length : Int) ≤ _; omega) (by omega)
    rw [this]; simp only [zeros, Value.cells, Int.toNat_natCast, show (Tryz.t3).size = 1 from rfl, Nat.mul_one]
  have S0 := Lib.hid (lvAt_start w l)
  clear hv
  go_enter Tryz.func56, Tryz.ntmps56
  go_wp2_with fail
  go_loopw [2, 4, 11] (fun v n i wr => ∃ k : Nat, v = .slice (some ⟨w.heap.size, 0, none⟩) l.length l.length ∧ i = .int .i64 k ∧ n = .int .i64 (dep (l.take k)) ∧ LvAt w l k wr) (fun _ _ i _ => l.length - (intOf i).toNat)
  case atStart => exact ⟨0, rfl, rfl, by simp [dep_nil], S0.out⟩
  case round =>
    obtain ⟨k, rfl, rfl, rfl, hO⟩ := hrel
    have HO := Lib.hid hO
    have n1 := hO.hi
    have n2 := hO.rng
    have hsz := hO.below.size
    have l2 := hO.row.lt
    have HR := Lib.hid hO.row.free
    clear hO
    by_cases hlt : k < l.length
    · obtain ⟨b, off, cap', q, c, hp, e1, _, _, lb⟩ := (HV.out.later (HO.out.below.mono (Nat.le_refl _))).at hlt
      obtain rfl : p = some ⟨b, off, none⟩ := by cases hp; rfl
      have hs := dep_snoc hlt
      have hA := lvlA_eq hlt
      have f1 := HR.out k
      have q3 := HO.out.row.cell (i := k) (by rw [lvlL_length]; exact hlt)
      generalize (lvlL l k)[k]'(by rw [lvlL_length]; exact hlt) = z at q3
      have hne : b < w.heap.size ∨ w.heap.size ≤ b := Nat.lt_or_ge _ _
      have hbw : b < w.heap.size := by
        obtain ⟨b', off', cap'', q', c', hp', _, _, _, lb'⟩ := HV.out.at hlt
        cases hp'; exact lb'
      have HD : Hid (dep (l.take (k + 1)) = dep (l.take k) + dlt l[k]) := Lib.hid hs
      have HA := Lib.hid hA
      clear hp hs hA hne
      by_cases c1 : l[k].c = 91
      · have t1 : ((l[k].c.toNat : Int) == 91) = true := by rw [c1]; rfl
        have t2 : ((l[k].c.toNat : Int) == 93) = false := by rw [c1]; rfl
        have HX : Hid (dep (l.take (k + 1)) = dep (l.take k) + 1) := Lib.hid (by rw [HD.out]; unfold dlt; rw [if_pos c1])
        have T1 := Lib.hid (lvAt_step HO.out hlt (by rw [HX.out]; omega) (dep (l.take k) + 1) (by rw [HA.out, HX.out, if_neg (by rw [c1]; decide)]; omega))
        clear c1
        generalize l[k].c.toNat = cn at e1 t1 t2
        obtain ⟨d, hd⟩ : ∃ d, dep (l.take k) = d := ⟨_, rfl⟩
        rw [hd] at HX n2 T1 ⊢
        clear hd
        go_wp2_with fail
        go_roundw
        case rel => exact ⟨k + 1, rfl, by go_num, by rw [HX.out], T1.out⟩
        case measure => simp [intOf]; omega
      · by_cases c2 : l[k].c = 93
        · have t1 : ((l[k].c.toNat : Int) == 91) = false := by rw [c2]; rfl
          have t2 : ((l[k].c.toNat : Int) == 93) = true := by rw [c2]; rfl
          have HX : Hid (dep (l.take (k + 1)) = dep (l.take k) - 1) := Lib.hid (by rw [HD.out]; unfold dlt; rw [if_neg c1, if_pos c2]; omega)
          have T1 := Lib.hid (fun h => lvAt_step HO.out hlt h (dep (l.take k)) (by rw [HA.out, HX.out, if_pos c2]; omega))
          clear c1 c2
          generalize l[k].c.toNat = cn at e1 t1 t2
          obtain ⟨d, hd⟩ : ∃ d, dep (l.take k) = d := ⟨_, rfl⟩
          rw [hd] at HX n2 T1 ⊢
          clear hd
          by_cases hneg : d - 1 < 0
          · have HF : Hid (okB l l.length = false) := Lib.hid (by
              cases h : okB l l.length
              · rfl
              · have := okB_iff.1 h k hlt
                rw [HX.out] at this; omega)
            go_wp2_with fail
            go_ret2
            exact ⟨HO.out.below.setCell (Nat.le_refl _) _, .inl ⟨HF.out, rfl⟩⟩
          · have T2 := Lib.hid (T1.out (by rw [HX.out]; omega))
            go_wp2_with fail
            go_roundw
            case rel => exact ⟨k + 1, rfl, by go_num, by rw [HX.out], T2.out⟩
            case measure => simp [intOf]; omega
        · have t1 : ((l[k].c.toNat : Int) == 91) = false := by
            rw [show (91 : Int) = ((91 : UInt8).toNat : Int) from rfl, u8_eq]; exact beq_eq_false_iff_ne.2 c1
          have t2 : ((l[k].c.toNat : Int) == 93) = false := by
            rw [show (93 : Int) = ((93 : UInt8).toNat : Int) from rfl, u8_eq]; exact beq_eq_false_iff_ne.2 c2
          have HX : Hid (dep (l.take (k + 1)) = dep (l.take k)) := Lib.hid (by rw [HD.out]; unfold dlt; rw [if_neg c1, if_neg c2]; omega)
          have T1 := Lib.hid (lvAt_step HO.out hlt (by rw [HX.out]; omega) (dep (l.take k)) (by rw [HA.out, HX.out, if_neg c2]; omega))
          clear c1 c2
          generalize l[k].c.toNat = cn at e1 t1 t2
          obtain ⟨d, hd⟩ : ∃ d, dep (l.take k) = d := ⟨_, rfl⟩
          rw [hd] at HX n2 T1 ⊢
          clear hd
          have hneg2 : 0 ≤ d := n2.1
          go_wp2_with fail
          go_roundw
          case rel => exact ⟨k + 1, rfl, by go_num, by rw [HX.out], T1.out⟩
          case measure => simp [intOf]; omega
    · obtain rfl : k = l.length := by omega
      have HI := Lib.hid HO.out.row
      rw [List.take_length] at n2 ⊢
      obtain ⟨d, hd⟩ : ∃ d, dep l = d := ⟨_, rfl⟩
      have HE : Hid (∀ b, b = decide (d = 0) → LvEnd l w (.returned (.tuple #[.slice (some ⟨w.heap.size, 0, none⟩) l.length l.length, .bool b])) wr) := Lib.hid (fun b hb => ⟨HO.out.below, .inr ⟨HO.out.ok, _, by rw [hb, ← hd], HI.out⟩⟩)
      rw [hd] at n2 ⊢
      clear hd
      by_cases h0 : d = 0
      · subst h0
        go_wp2_with fail
        go_ret2
        exact HE.out _ rfl
      · have t0 : (d == 0) = false := by simpa using h0
        have HE2 := Lib.hid (HE.out false (by simp [h0]))
        clear h0
        go_wp2_with fail
        go_ret2
        exact HE2.out
theorem bad_one {l : List Md} {k : Nat} (hk : k < l.length) (h : fineB l[k] = false) : l.all fineB = false := by
  rw [List.all_eq_false]; exact ⟨l[k], List.getElem_mem hk, by simp [h]⟩
set_option maxRecDepth 100000 in
set_option maxHeartbeats 1600000 in
theorem pcheck_any (v : Value) (l : List Md) (hmax : l.length ≤ 9223372036854775807) (hargs : ∀ m ∈ l, m.a.length ≤ 9223372036854775807) (w : World) (hv : Mods w v l) :
    Calls Tryz.prog 26 #[v] w fun e w' => e = .returned (.int .i64 (chk l)) ∧ Below w.heap.size w w' := by
  obtain ⟨p, cap, rfl⟩ := hv.slice
  have HV := Lib.hid hv
  have HA := Lib.hid hargs
  clear hv hargs
  by_cases hlen : 2000 < l.length
  · have HC := Lib.hid (chk_many hlen)
    have c1 : (2000 : Int) < (l.length : Int) := by omega
    go_enter Tryz.func26, Tryz.ntmps26
    go_wp2_with fail
    go_ret
    exact ⟨ret_int HC.out.symm, Below.refl _ _⟩
  · have c1 : ¬ (2000 : Int) < (l.length : Int) := by omega
    go_enter Tryz.func26, Tryz.ntmps26
    go_wp2_with fail
    go_loopw [11] (fun i wr => ∃ k : Nat, k ≤ l.length ∧ i = .int .i64 k ∧ Below w.heap.size w wr ∧ ∀ j, (h : j < l.length) → j < k → fineB l[j] = true) (fun i _ => l.length - (intOf i).toNat)
    case atStart => exact ⟨0, Nat.zero_le _, rfl, Below.refl _ _, fun j _ h => by omega⟩
    case round =>
      obtain ⟨k, hk, rfl, hb, hok⟩ := hrel
      have HK := Lib.hid hok
      have HB := Lib.hid hb
      clear hok hb
      by_cases hlt : k < l.length
      · obtain ⟨b, off, cap', q, c, hp, e1, e2, hin, lb⟩ := (HV.out.later (HB.out.mono (Nat.le_refl _))).at hlt
        obtain rfl : p = some ⟨b, off, none⟩ := by cases hp; rfl
        have HF := Lib.hid (valid_any l[k] _ (HA.out _ (List.getElem_mem hlt)) wr hin)
        obtain ⟨t, ht⟩ : ∃ t, fineB l[k] = t := ⟨_, rfl⟩
        have HT := Lib.hid ht
        rw [ht] at HF
        clear hp hin ht
        generalize l[k].c.toNat = cn at e1 HF
        generalize l[k].a.length = an at e2 HF
        cases t with
        | false =>
          have HC := Lib.hid (chk_bad hlen (bad_one hlt HT.out))
          go_wp2_with fail
          refine HF.out.mono ?_
          rintro e w1 ⟨rfl, hb⟩
          have HB1 := Lib.hid (HB.out.trans (hb.mono HB.out.size))
          clear hb
          go_wp2_with fail
          go_ret
          exact ⟨ret_int HC.out.symm, HB1.out⟩
        | true =>
          have HG : Hid (∀ j, (h : j < l.length) → j < k + 1 → fineB l[j] = true) := Lib.hid (fun j h hj => by
            rcases Nat.lt_or_eq_of_le (Nat.le_of_lt_succ hj) with h1 | h1
            · exact HK.out j h h1
            · subst h1; exact HT.out)
          go_wp2_with fail
          refine HF.out.mono ?_
          rintro e w1 ⟨rfl, hb⟩
          have HB1 := Lib.hid (HB.out.trans (hb.mono HB.out.size))
          clear hb
          go_wp2_with fail
          go_roundw
          case rel => exact ⟨k + 1, by omega, by go_num, HB1.out, HG.out⟩
          case measure => simp [intOf]; omega
      · obtain rfl : k = l.length := by omega
        have HGd := Lib.hid (good_all fun j h => HK.out j h h)
        have HO := Lib.hid (levels_any _ l (by omega) wr (HV.out.later (HB.out.mono (Nat.le_refl _))))
        go_wp2_with fail
        refine HO.out.mono ?_
        rintro e w1 ⟨hb, ⟨hno, rfl⟩ | ⟨hyes, g, rfl, hi⟩⟩
        · have HB1 := Lib.hid (HB.out.trans (hb.mono HB.out.size))
          have HC := Lib.hid (chk_open hlen HGd.out (by rw [hno]; rfl))
          clear hb hno
          go_wp2_with fail
          go_ret
          exact ⟨ret_int HC.out.symm, HB1.out⟩
        · have HB1 := Lib.hid (HB.out.trans (hb.mono HB.out.size))
          have HY := Lib.hid hyes
          obtain ⟨t, ht⟩ : ∃ t, decide (dep l = 0) = t := ⟨_, rfl⟩
          have HT := Lib.hid ht
          rw [ht]
          clear hb hyes hi ht
          cases t with
          | true =>
            have HC : Hid (chk l = 0) := Lib.hid (chk_zero.2 ⟨by omega, HGd.out, HY.out, of_decide_eq_true HT.out⟩)
            go_wp2_with fail
            go_ret
            exact ⟨ret_int HC.out.symm, HB1.out⟩
          | false =>
            have HC := Lib.hid (chk_open hlen HGd.out (by rw [HT.out]; simp))
            go_wp2_with fail
            go_ret
            exact ⟨ret_int HC.out.symm, HB1.out⟩
/-- levels of a valid word. -/
theorem levels_valid (v : Value) (l : List Md) (hc : chk l = 0) (w : World) (hv : Mods w v l) :
    Calls Tryz.prog 56 #[v] w fun e w' => ∃ g, e = .returned (.tuple #[.slice (some ⟨g, 0, none⟩) l.length l.length, .bool true]) ∧ Below w.heap.size w w' ∧ RowI w' g (lvlL l l.length) := by
  have hh := chk_zero.1 hc
  refine (levels_any v l (by omega) w hv).mono ?_
  rintro e w' ⟨hb, ⟨hno, _⟩ | ⟨_, g, rfl, hi⟩⟩
  · rw [hh.2.2.1] at hno; exact absurd hno (by simp)
  · exact ⟨g, by rw [decide_eq_true hh.2.2.2], hb, hi⟩
end Go.Proofs.YtcoljbcjnggagaaGreatDoor
namespace Go.Proofs.YtcoljbcjnggagaaGreatDoor
open Go.RowKit
open WM
set_option linter.unusedVariables false
set_option linter.unusedSimpArgs false

/-- An append to a row of the call's own, as a step of a region that draws its order. -/
theorem step_append_own {P : Program} (w : World) {ops : Array Oper} {o : Oper} {a : Act} {K : Act → World → Prop} {Q : Exit → Act → World → Prop} {E : Prop}
    (hg : o.guard = none) (s x : Operand) (t : TypeId) (hop : o.op = Op.call { callee := Callee.builtin Builtin.append, args := #[s, x], argTypes := #[t, t] })
    (base : Nat) (e : TypeId) (i : TypeInfo) (z : Value) (size bytes : Nat) (h1 : P.underlying t = some (.slice e)) (h2 : P.info? e = some i) (h3 : i.zero = some z) (h4 : i.size = size) (h5 : i.bytes = bytes) (h6 : z.cells.size = size) (h7 : 0 < size)
    (v : Value) (k : Nat) (xs : List Value) (hs : a.eval s = v) (hown : w.ownsRow base e size v k xs) (ad : Addr) (m c : Nat) (news : List Value) (hx : a.eval x = .slice (some ad) m c) (hn : news.length = m * size)
    (hc : ∀ j u, news[j]? = some u → w.cell? (ad.add j) = some u) (h1c : ∀ u ∈ news, u.oneCell' = true) (b1 : k + m ≤ maxLen) (b2 : (k + m) * bytes ≤ 140737488355328) (b3 : base ≤ w.heap.size)
    (hK : ∀ v' w', w'.ownsRow base e size v' (k + m) (xs ++ news) → w.grownBy w' v.ownBlock → (v' = .slice none 0 0 ↔ v = .slice none 0 0 ∧ m = 0) → (v'.ownBlock = v.ownBlock ∨ v'.ownBlock = some w.heap.size) → K (a.put o.dst v') w') :
    if Region.wanted o (yielded ops a.tmps) = true then Oper.wp P o a w K Q else E := by
  have hw : Region.wanted o (yielded ops a.tmps) = true := by simp [Region.wanted, hg]
  rw [if_pos hw]
  obtain ⟨v', w', hrun, r1, r2, r3, r4⟩ := run_append_own_at (P := P) w base t o.type e i z size bytes h1 h2 h3 h4 h5 h6 h7 v k xs hown ad m c news hn hc h1c b1 b2 b3
  unfold Oper.wp
  simp [execOp, hop, resolve, invoke, builtin, hs, hx, hrun, Result.andThen]
  exact hK _ _ r1 r2 r3 r4
/-- The same where nothing comes, out of a slice that is nil. -/
theorem step_append_nil {P : Program} (w : World) {ops : Array Oper} {o : Oper} {a : Act} {K : Act → World → Prop} {Q : Exit → Act → World → Prop} {E : Prop}
    (hg : o.guard = none) (s x : Operand) (t : TypeId) (hop : o.op = Op.call { callee := Callee.builtin Builtin.append, args := #[s, x], argTypes := #[t, t] })
    (base : Nat) (e : TypeId) (i : TypeInfo) (size : Nat) (h1 : P.underlying t = some (.slice e)) (h2 : P.info? e = some i)
    (v : Value) (k : Nat) (xs : List Value) (hs : a.eval s = v) (hown : w.ownsRow base e size v k xs) (hx : a.eval x = .slice none 0 0)
    (hK : K (a.put o.dst v) w) :
    if Region.wanted o (yielded ops a.tmps) = true then Oper.wp P o a w K Q else E := by
  have hw : Region.wanted o (yielded ops a.tmps) = true := by simp [Region.wanted, hg]
  rw [if_pos hw]
  have hrun := run_append_owned_none (P := P) (w := w) base t o.type e i size h1 h2 v k xs hown
  unfold Oper.wp
  simp [execOp, hop, resolve, invoke, builtin, hs, hx, hrun, Result.andThen]
  exact hK
theorem info_mod : (Tryz.prog.info? 45).map (fun i => (i.zero, i.size, i.bytes)) = some (some (.agg #[.int .u8 0, .slice none 0 0]), 2, 32) := by kernel_rfl
/-- The cells of modules whose args are given. -/
def modC : List Md → List Value → List Value
  | m :: l, v :: vs => .int .u8 m.c.toNat :: v :: modC l vs
  | _, _ => []
theorem modC_length : ∀ (l : List Md) (vs : List Value), l.length = vs.length → (modC l vs).length = l.length * 2
  | [], [], _ => rfl
  | m :: l, v :: vs, h => by
    have := modC_length l vs (by simpa using h)
    simp [modC, this]; omega
  | [], _ :: _, h => by simp at h
  | _ :: _, [], h => by simp at h
theorem modC_snoc : ∀ (l : List Md) (vs : List Value) (m : Md) (v : Value), l.length = vs.length → modC (l ++ [m]) (vs ++ [v]) = modC l vs ++ [.int .u8 m.c.toNat, v]
  | [], [], m, v, _ => rfl
  | a :: l, b :: vs, m, v, h => by
    have := modC_snoc l vs m v (by simpa using h)
    simp [modC, this]
  | [], _ :: _, _, _, h => by simp at h
  | _ :: _, [], _, _, h => by simp at h
theorem modC_get : ∀ (l : List Md) (vs : List Value) (k : Nat) (h1 : k < l.length) (h2 : k < vs.length), (modC l vs)[k * 2]? = some (.int .u8 l[k].c.toNat) ∧ (modC l vs)[k * 2 + 1]? = some vs[k]
  | m :: l, v :: vs, 0, _, _ => ⟨rfl, rfl⟩
  | m :: l, v :: vs, k + 1, h1, h2 => by
    have := modC_get l vs k (by simpa using h1) (by simpa using h2)
    have e : (k + 1) * 2 = k * 2 + 1 + 1 := by omega
    simp only [modC, e, List.getElem?_cons_succ, List.getElem_cons_succ]
    exact this
/-- Args in memory of the call's own. -/
structure ArgOwn (w : World) (base : Nat) (rb : Option Nat) (v : Value) (a : List Int) : Prop where
  own : w.ownsRow base 3 1 v a.length (valsL a)
  some : ∃ b cap, v = .slice (Option.some ⟨b, 0, Option.none⟩) a.length cap ∧ base ≤ b ∧ b < w.heap.size
  apart : v.ownBlock ≠ rb
/-- A word in memory of the call's own. -/
structure ModOwn (w : World) (base : Nat) (v : Value) (l : List Md) (vs : List Value) : Prop where
  len : vs.length = l.length
  row : w.ownsRow base 45 2 v l.length (modC l vs)
  args : ∀ k, (h : k < l.length) → (h2 : k < vs.length) → ArgOwn w base v.ownBlock vs[k] l[k].a
theorem ArgOwn.ints {w : World} {base : Nat} {rb : Option Nat} {v : Value} {a : List Int} (h : ArgOwn w base rb v a) : Ints w v a := ints_of_owned h.own
theorem ModOwn.mods {w : World} {base : Nat} {v : Value} {l : List Md} {vs : List Value} (h : ModOwn w base v l vs) : Mods w v l := by
  rcases Nat.eq_zero_or_pos l.length with h0 | h0
  · have e : l = [] := List.length_eq_zero_iff.1 h0
    subst e
    rcases h.row.2 with ⟨hv, _⟩ | ⟨g, cap, cur, hv, _⟩
    · rw [hv]; exact .none _ _
    · rw [hv]; exact .none _ _
  · rcases h.row.2 with ⟨_, h1⟩ | ⟨g, cap, cur, hv, hb, hg, hc1, hc2, hsz, htake⟩
    · omega
    · rw [hv]
      have hcell : ∀ j, j < l.length * 2 → w.cell? ⟨g, j, none⟩ = (modC l vs)[j]? := by
        intro j hj
        rw [← htake, List.getElem?_take_of_lt hj, Array.getElem?_toList]
        simp [World.cell?, hg]
      refine .some g 0 cap l h0 (lt_of_block hg) fun i hi => ?_
      have hv2 : i < vs.length := by rw [h.len]; exact hi
      obtain ⟨g1, g2⟩ := modC_get l vs i hi hv2
      have ha := h.args i hi hv2
      obtain ⟨b, c, hb2, _⟩ := ha.some
      refine ⟨by rw [Nat.zero_add, hcell _ (by omega), g1], vs[i], by rw [Nat.zero_add, hcell _ (by omega), g2], ha.ints, .inr ⟨_, _, _, hb2⟩⟩
/-- Args are as they were in a world that has grown otherwise. -/
theorem ArgOwn.kept {w w' : World} {base : Nat} {rb rb' row : Option Nat} {v : Value} {a : List Int} (h : ArgOwn w base rb v a) (hg : w.grownBy w' row) (hne : v.ownBlock ≠ row) (hr : v.ownBlock ≠ rb') : ArgOwn w' base rb' v a := by
  obtain ⟨b, c, hb, h1, h2⟩ := h.some
  exact ⟨h.own.kept hg (.inr hne), ⟨b, c, hb, h1, Nat.lt_of_lt_of_le h2 hg.size⟩, hr⟩
/-- Where Twin stands. -/
structure TwAt (w : World) (l : List Md) (k : Nat) (v : Value) (wr : World) : Prop where
  hi : k ≤ l.length
  below : Below w.heap.size w wr
  own : ∃ vs, ModOwn wr w.heap.size v (l.take k) vs
theorem twAt_start (w : World) (l : List Md) : TwAt w l 0 (.slice none 0 0) w :=
  ⟨Nat.zero_le _, Below.refl _ _, [], by simp, by simpa [modC] using World.ownsRow_nil w w.heap.size 45 2, fun k h _ => by simp at h⟩
theorem owns_mono {w : World} {b b' n size : Nat} {e : TypeId} {v : Value} {xs : List Value} (h : w.ownsRow b e size v n xs) (hb : b' ≤ b) : w.ownsRow b' e size v n xs := by
  refine ⟨h.1, ?_⟩
  rcases h.2 with h2 | ⟨g, cap, cur, h1, h2, h3⟩
  · exact .inl h2
  · exact .inr ⟨g, cap, cur, h1, by omega, h3⟩
theorem owns_lt {w : World} {b n size : Nat} {e : TypeId} {v : Value} {xs : List Value} (h : w.ownsRow b e size v n xs) : ∀ g, v.ownBlock = some g → b ≤ g ∧ g < w.heap.size := by
  intro g hg
  rcases h.2 with ⟨h2, _⟩ | ⟨g', cap, cur, h1, h2, h3, _⟩
  · rw [h2] at hg; simp [Value.ownBlock] at hg
  · rw [h1] at hg; simp [Value.ownBlock] at hg; subst hg; exact ⟨h2, lt_of_block h3⟩
theorem grown_of_below {X Y : World} (h : Below X.heap.size X Y) (row : Option Nat) : X.grownBy Y row := ⟨h.os, h.tape, h.output, h.size, fun k hk _ => h.block k hk⟩
theorem twAt_step {w wr X1 X2 X3 X4 : World} {l : List Md} {k : Nat} {v v1 v2 : Value} {vs : List Value} (hk : k < l.length) (hB : Below w.heap.size w wr) (hO : ModOwn wr w.heap.size v (l.take k) vs)
    (e1 : Below wr.heap.size wr X1) (s1 : X1.heap.size = wr.heap.size + 1)
    (o1 : X2.ownsRow wr.heap.size 3 1 v1 l[k].a.length (valsL l[k].a)) (g1 : X1.grownBy X2 (some wr.heap.size)) (hv1 : ∃ b cap, v1 = .slice (some ⟨b, 0, none⟩) l[k].a.length cap) (b1 : v1.ownBlock = some wr.heap.size ∨ v1.ownBlock = some X1.heap.size)
    (e3 : Below X2.heap.size X2 X3) (s3 : X2.heap.size < X3.heap.size)
    (o4 : X4.ownsRow w.heap.size 45 2 v2 (k + 1) (modC (l.take k) vs ++ [.int .u8 l[k].c.toNat, v1])) (g4 : X3.grownBy X4 v.ownBlock) (b4 : v2.ownBlock = v.ownBlock ∨ v2.ownBlock = some X3.heap.size) :
    TwAt w l (k + 1) v2 X4 := by
  have hlen : (l.take k).length = k := by rw [List.length_take]; omega
  have hvl := owns_lt hO.row
  have z1 := hB.size
  have z2 := g1.size
  have z3 := e3.size
  have z4 := g4.size
  have b12 : Below w.heap.size w X2 := (hB.trans (e1.mono z1)).grown g1 (by omega) (fun j e => by cases e; exact z1)
  have b13 : Below w.heap.size w X3 := b12.trans (e3.mono b12.size)
  have b14 : Below w.heap.size w X4 := b13.grown g4 b13.size (fun j e => (hvl j e).1)
  have hg0 : v.ownBlock ≠ some wr.heap.size := fun e => by have := (hvl _ e).2; omega
  -- the new args
  have a1 : ArgOwn X2 w.heap.size v.ownBlock v1 l[k].a := by
    obtain ⟨b, cap, hb⟩ := hv1
    have hb2 := owns_lt o1 b (by rw [hb]; rfl)
    refine ⟨owns_mono o1 z1, ⟨b, cap, hb, by omega, hb2.2⟩, fun e => ?_⟩
    have h3 : v.ownBlock = some b := by rw [← e, hb]; rfl
    have := (hvl b h3).2
    omega
  have n1 : v1.ownBlock ≠ v2.ownBlock := by
    obtain ⟨b, cap, hb⟩ := hv1
    have hb2 := owns_lt o1 b (by rw [hb]; rfl)
    intro e
    have e5 : v1.ownBlock = some b := by rw [hb]; rfl
    rcases b4 with h | h
    · have := (hvl b (by rw [← h, ← e, e5])).2; omega
    · rw [e5, h] at e
      have := Option.some.inj e; omega
  have a1' : ArgOwn X4 w.heap.size v2.ownBlock v1 l[k].a :=
    (a1.kept (rb' := v.ownBlock) (grown_of_below e3 none) (by obtain ⟨b, cap, hb⟩ := hv1; rw [hb]; simp [Value.ownBlock]) a1.apart).kept g4 a1.apart n1
  refine ⟨hk, b14, vs ++ [v1], ?_⟩
  have ht : l.take (k + 1) = l.take k ++ [l[k]] := by rw [List.take_add_one, List.getElem?_eq_getElem hk]; rfl
  have hl2 : (l.take (k + 1)).length = k + 1 := by rw [List.length_take]; omega
  refine ⟨by rw [List.length_append, hO.len, hlen, hl2]; rfl, ?_, ?_⟩
  · rw [hl2, ht, modC_snoc _ _ _ _ (by rw [hO.len])]; exact o4
  · intro j hj hj2
    rw [hl2] at hj
    rcases Nat.lt_or_eq_of_le (Nat.le_of_lt_succ hj) with h | h
    · have hj3 : j < (l.take k).length := by rw [hlen]; exact h
      have hj4 : j < vs.length := by rw [hO.len]; exact hj3
      have e5 : (l.take (k + 1))[j] = (l.take k)[j] := by simp
      have e6 : (vs ++ [v1])[j] = vs[j] := List.getElem_append_left hj4
      rw [e5, e6]
      have A := hO.args j hj3 hj4
      obtain ⟨b, cap, hb, q1, q2⟩ := A.some
      have ob : vs[j].ownBlock = some b := by rw [hb]; rfl
      have m1 : vs[j].ownBlock ≠ v2.ownBlock := by
        intro e
        rcases b4 with h | h
        · exact A.apart (e.trans h)
        · rw [ob, h] at e
          have := Option.some.inj e; omega
      refine (((A.kept (rb' := v.ownBlock) (grown_of_below e1 none) (by rw [ob]; simp) A.apart).kept (rb' := v.ownBlock) g1 (by rw [ob]; intro e; have := Option.some.inj e; omega) A.apart).kept (rb' := v.ownBlock) (grown_of_below e3 none) (by rw [ob]; simp) A.apart).kept g4 A.apart m1
    · subst h
      have e5 : (l.take (j + 1))[j] = l[j] := by simp
      have e6 : (vs ++ [v1])[j]'hj2 = v1 := by
        rw [List.getElem_append_right (by rw [hO.len, hlen]; omega)]
        simp
      rw [e5, e6]; exact a1'
theorem two_new (w : World) (x y : Value) (t : TypeId) : ∀ j u, [x, y][j]? = some u → (w.alloc (.cells #[x, y] t)).cell? ((⟨w.heap.size, 0, none⟩ : Addr).add j) = some u := by
  intro j u h
  have e := heap_alloc_new w (.cells #[x, y] t)
  match j, h with
  | 0, h => simp at h; subst h; exact cell_two0 e
  | 1, h => simp at h; subst h; exact cell_two1 e
  | j + 2, h => simp at h
theorem owned_shape {w : World} {base n size : Nat} {e : TypeId} {v : Value} {xs : List Value} (h : w.ownsRow base e size v n xs) (hn : v ≠ .slice none 0 0) : ∃ b cap, v = .slice (some ⟨b, 0, none⟩) n cap := by
  rcases h.2 with ⟨h2, _⟩ | ⟨g, cap, cur, h1, _⟩
  · exact absurd h2 hn
  · exact ⟨g, cap, h1⟩
theorem vals_one (l : List Int) : ∀ u ∈ valsL l, u.oneCell' = true := by
  intro u hu
  simp [valsL] at hu
  obtain ⟨x, _, rfl⟩ := hu
  rfl
theorem ints_cells {w : World} {ad : Addr} {n c : Nat} {a : List Int} (h : Ints w (.slice (some ad) n c) a) : ∀ W, Below w.heap.size w W → ∀ j u, (valsL a)[j]? = some u → W.cell? (ad.add j) = some u := by
  intro W hb j u hu
  have hj : j < a.length := by
    have := (List.getElem?_eq_some_iff.1 hu).1
    simpa [valsL] using this
  obtain ⟨b, off, cap, hv, hc, _⟩ := (h.later hb).at hj
  cases hv
  have e : (valsL a)[j]? = some (.int .i64 a[j]) := by simp [valsL, hj]
  rw [e] at hu
  rw [show (⟨b, off, none⟩ : Addr).add j = ⟨b, off + j, none⟩ by simp [Addr.add], hc]; exact hu
theorem far_cell {X Y : World} {row : Option Nat} (hg : X.grownBy Y row) (a : Addr) (hlt : a.block < X.heap.size) (hne : some a.block ≠ row) : Y.cell? a = X.cell? a := by
  simp only [World.cell?, hg.block a.block hlt hne]
end Go.Proofs.YtcoljbcjnggagaaGreatDoor
