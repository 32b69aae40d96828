/-
  What ask, Under, Common, Parent, Last and Join of package label hand back.
-/
import Derived.Test.YtjladbgidodhbaaLabSplit
import Derived.Lib.QuietBelow
namespace Go.Proofs.Ytjladbgidodhbaa
open Go.RowKit Go.Shelf
open LM
set_option linter.unusedVariables false
set_option linter.unusedSimpArgs false
attribute [local go_sem] Oper.semAt_some


set_option maxHeartbeats 400000 in
theorem ask_bool_1 (p q : ByteArray) (hp : p.size ≤ 100000) (c : Int) (hc : chk (lA p) = c) (h0 : c ≠ 0) (w : World) (hl : Len w) :
    Calls Try.prog 44 #[.func (.func 45) #[.string p] #[], .string p, .string q] w fun e w' => e = .returned (.tuple #[.bool false, .int .i64 c]) ∧ Below w.heap.size w w' := by
  have K1 := Lib.hid (fun w hl => check_v p hp c hc w hl)
  have HL := Lib.hid hl
  have h1 : (c != 0) = true := bne_iff_ne.2 h0
  have i0 : ∀ wx, (Instr.index 86 (.agg #[.string p, .string q]) (.int .i64 0)).run Try.prog wx = .ok (.string p) wx := fun _ => by kernel_rfl
  have i1 : ∀ wx, (Instr.index 86 (.agg #[.string p, .string q]) (.int .i64 1)).run Try.prog wx = .ok (.string q) wx := fun _ => by kernel_rfl
  clear hc hl
  go_enter Try.func44, Try.ntmps44
  go_wp2_with fail
  go_loopw [6, 14] (fun z i wr => z = .bool false ∧ i = .int .i64 0 ∧ wr = w) (fun _ _ _ => 0)
  case atStart => exact ⟨rfl, rfl, rfl⟩
  case round =>
    obtain ⟨rfl, rfl, rfl⟩ := hrel
    go_wp2_with fail
    refine (K1.out _ HL.out).mono ?_
    rintro e w1 ⟨rfl, hb⟩
    have HB := Lib.hid hb
    clear hb
    go_wp2_with fail
    go_ret2
    exact ⟨rfl, HB.out⟩
set_option maxHeartbeats 400000 in
theorem ask_bool_2 (p q : ByteArray) (hp : p.size ≤ 100000) (hq : q.size ≤ 100000) (c : Int) (hd : chk (lA p) = 0) (hc : chk (lA q) = c) (h0 : c ≠ 0) (w : World) (hl : Len w) :
    Calls Try.prog 44 #[.func (.func 45) #[.string p] #[], .string p, .string q] w fun e w' => e = .returned (.tuple #[.bool false, .int .i64 c]) ∧ Below w.heap.size w w' := by
  have K1 := Lib.hid (fun w hl => check_v p hp 0 hd w hl)
  have K2 := Lib.hid (fun w hl => check_v q hq c hc w hl)
  have HL := Lib.hid hl
  have h1 : (c != 0) = true := bne_iff_ne.2 h0
  have i0 : ∀ wx, (Instr.index 86 (.agg #[.string p, .string q]) (.int .i64 0)).run Try.prog wx = .ok (.string p) wx := fun _ => by kernel_rfl
  have i1 : ∀ wx, (Instr.index 86 (.agg #[.string p, .string q]) (.int .i64 1)).run Try.prog wx = .ok (.string q) wx := fun _ => by kernel_rfl
  clear hc hd hl
  go_enter Try.func44, Try.ntmps44
  go_wp2_with fail
  go_loopw [6, 14] (fun z i wr => z = .bool false ∧ (i = .int .i64 0 ∨ i = .int .i64 1) ∧ Below w.heap.size w wr) (fun _ i _ => 2 - (intOf i).toNat)
  case atStart => exact ⟨rfl, .inl rfl, Below.refl _ _⟩
  case round =>
    obtain ⟨rfl, hi, hB⟩ := hrel
    have HB := Lib.hid hB
    clear hB
    rcases hi with rfl | rfl
    · go_wp2_with fail
      refine (K1.out _ (HL.out.later HB.out)).mono ?_
      rintro e w1 ⟨rfl, hb⟩
      have HB1 := Lib.hid (HB.out.trans (hb.mono HB.out.size))
      clear hb
      go_wp2_with fail
      go_roundw
      case rel => exact ⟨rfl, .inr rfl, HB1.out⟩
      case measure => simp [intOf]
    · go_wp2_with fail
      refine (K2.out _ (HL.out.later HB.out)).mono ?_
      rintro e w1 ⟨rfl, hb⟩
      have HB1 := Lib.hid (HB.out.trans (hb.mono HB.out.size))
      clear hb
      go_wp2_with fail
      go_ret2
      exact ⟨rfl, HB1.out⟩
set_option maxHeartbeats 400000 in
theorem ask_bool_3 (p q : ByteArray) (hp : p.size ≤ 100000) (hq : q.size ≤ 100000) (hd : chk (lA p) = 0) (hc : chk (lA q) = 0) (v : Bool)
    (hQ : ∀ w, Len w → Calls Try.prog 45 #[.string p, .string q] w fun e w' => e = .returned (.bool v) ∧ Below w.heap.size w w') (w : World) (hl : Len w) :
    Calls Try.prog 44 #[.func (.func 45) #[.string p] #[], .string p, .string q] w fun e w' => e = .returned (.tuple #[.bool v, .int .i64 0]) ∧ Below w.heap.size w w' := by
  have K1 := Lib.hid (fun w hl => check_v p hp 0 hd w hl)
  have K2 := Lib.hid (fun w hl => check_v q hq 0 hc w hl)
  have K3 := Lib.hid hQ
  have HL := Lib.hid hl
  have i0 : ∀ wx, (Instr.index 86 (.agg #[.string p, .string q]) (.int .i64 0)).run Try.prog wx = .ok (.string p) wx := fun _ => by kernel_rfl
  have i1 : ∀ wx, (Instr.index 86 (.agg #[.string p, .string q]) (.int .i64 1)).run Try.prog wx = .ok (.string q) wx := fun _ => by kernel_rfl
  clear hc hd hl hQ
  go_enter Try.func44, Try.ntmps44
  go_wp2_with fail
  go_loopw [14] (fun i wr => (i = .int .i64 0 ∨ i = .int .i64 1 ∨ i = .int .i64 2) ∧ Below w.heap.size w wr) (fun i _ => 2 - (intOf i).toNat)
  case atStart => exact ⟨.inl rfl, Below.refl _ _⟩
  case round =>
    obtain ⟨hi, hB⟩ := hrel
    have HB := Lib.hid hB
    clear hB
    rcases hi with rfl | rfl | rfl
    · go_wp2_with fail
      refine (K1.out _ (HL.out.later HB.out)).mono ?_
      rintro e w1 ⟨rfl, hb⟩
      have HB1 := Lib.hid (HB.out.trans (hb.mono HB.out.size))
      clear hb
      go_wp2_with fail
      go_roundw
      case rel => exact ⟨.inr (.inl rfl), HB1.out⟩
      case measure => simp [intOf]
    · go_wp2_with fail
      refine (K2.out _ (HL.out.later HB.out)).mono ?_
      rintro e w1 ⟨rfl, hb⟩
      have HB1 := Lib.hid (HB.out.trans (hb.mono HB.out.size))
      clear hb
      go_wp2_with fail
      go_roundw
      case rel => exact ⟨.inr (.inr rfl), HB1.out⟩
      case measure => simp [intOf]
    · go_wp2_with fail
      refine (K3.out _ (HL.out.later HB.out)).mono ?_
      rintro e w1 ⟨rfl, hb⟩
      have HB1 := Lib.hid (HB.out.trans (hb.mono HB.out.size))
      clear hb
      go_wp2_with fail
      go_ret2
      exact ⟨rfl, HB1.out⟩

set_option maxHeartbeats 400000 in
theorem ask_string_1 (p q : ByteArray) (hp : p.size ≤ 100000) (c : Int) (hc : chk (lA p) = c) (h0 : c ≠ 0) (w : World) (hl : Len w) :
    Calls Try.prog 48 #[.func (.func 49) #[.string p] #[], .string p, .string q] w fun e w' => e = .returned (.tuple #[.string ByteArray.empty, .int .i64 c]) ∧ Below w.heap.size w w' := by
  have K1 := Lib.hid (fun w hl => check_v p hp c hc w hl)
  have HL := Lib.hid hl
  have h1 : (c != 0) = true := bne_iff_ne.2 h0
  have i0 : ∀ wx, (Instr.index 86 (.agg #[.string p, .string q]) (.int .i64 0)).run Try.prog wx = .ok (.string p) wx := fun _ => by kernel_rfl
  have i1 : ∀ wx, (Instr.index 86 (.agg #[.string p, .string q]) (.int .i64 1)).run Try.prog wx = .ok (.string q) wx := fun _ => by kernel_rfl
  clear hc hl
  go_enter Try.func48, Try.ntmps48
  go_wp2_with fail
  go_loopw [6, 14] (fun z i wr => z = .string ByteArray.empty ∧ i = .int .i64 0 ∧ wr = w) (fun _ _ _ => 0)
  case atStart => exact ⟨rfl, rfl, rfl⟩
  case round =>
    obtain ⟨rfl, rfl, rfl⟩ := hrel
    go_wp2_with fail
    refine (K1.out _ HL.out).mono ?_
    rintro e w1 ⟨rfl, hb⟩
    have HB := Lib.hid hb
    clear hb
    go_wp2_with fail
    go_ret2
    exact ⟨rfl, HB.out⟩
set_option maxHeartbeats 400000 in
theorem ask_string_2 (p q : ByteArray) (hp : p.size ≤ 100000) (hq : q.size ≤ 100000) (c : Int) (hd : chk (lA p) = 0) (hc : chk (lA q) = c) (h0 : c ≠ 0) (w : World) (hl : Len w) :
    Calls Try.prog 48 #[.func (.func 49) #[.string p] #[], .string p, .string q] w fun e w' => e = .returned (.tuple #[.string ByteArray.empty, .int .i64 c]) ∧ Below w.heap.size w w' := by
  have K1 := Lib.hid (fun w hl => check_v p hp 0 hd w hl)
  have K2 := Lib.hid (fun w hl => check_v q hq c hc w hl)
  have HL := Lib.hid hl
  have h1 : (c != 0) = true := bne_iff_ne.2 h0
  have i0 : ∀ wx, (Instr.index 86 (.agg #[.string p, .string q]) (.int .i64 0)).run Try.prog wx = .ok (.string p) wx := fun _ => by kernel_rfl
  have i1 : ∀ wx, (Instr.index 86 (.agg #[.string p, .string q]) (.int .i64 1)).run Try.prog wx = .ok (.string q) wx := fun _ => by kernel_rfl
  clear hc hd hl
  go_enter Try.func48, Try.ntmps48
  go_wp2_with fail
  go_loopw [6, 14] (fun z i wr => z = .string ByteArray.empty ∧ (i = .int .i64 0 ∨ i = .int .i64 1) ∧ Below w.heap.size w wr) (fun _ i _ => 2 - (intOf i).toNat)
  case atStart => exact ⟨rfl, .inl rfl, Below.refl _ _⟩
  case round =>
    obtain ⟨rfl, hi, hB⟩ := hrel
    have HB := Lib.hid hB
    clear hB
    rcases hi with rfl | rfl
    · go_wp2_with fail
      refine (K1.out _ (HL.out.later HB.out)).mono ?_
      rintro e w1 ⟨rfl, hb⟩
      have HB1 := Lib.hid (HB.out.trans (hb.mono HB.out.size))
      clear hb
      go_wp2_with fail
      go_roundw
      case rel => exact ⟨rfl, .inr rfl, HB1.out⟩
      case measure => simp [intOf]
    · go_wp2_with fail
      refine (K2.out _ (HL.out.later HB.out)).mono ?_
      rintro e w1 ⟨rfl, hb⟩
      have HB1 := Lib.hid (HB.out.trans (hb.mono HB.out.size))
      clear hb
      go_wp2_with fail
      go_ret2
      exact ⟨rfl, HB1.out⟩
set_option maxHeartbeats 400000 in
theorem ask_string_3 (p q : ByteArray) (hp : p.size ≤ 100000) (hq : q.size ≤ 100000) (hd : chk (lA p) = 0) (hc : chk (lA q) = 0) (v : ByteArray)
    (hQ : ∀ w, Len w → Calls Try.prog 49 #[.string p, .string q] w fun e w' => e = .returned (.string v) ∧ Below w.heap.size w w') (w : World) (hl : Len w) :
    Calls Try.prog 48 #[.func (.func 49) #[.string p] #[], .string p, .string q] w fun e w' => e = .returned (.tuple #[.string v, .int .i64 0]) ∧ Below w.heap.size w w' := by
  have K1 := Lib.hid (fun w hl => check_v p hp 0 hd w hl)
  have K2 := Lib.hid (fun w hl => check_v q hq 0 hc w hl)
  have K3 := Lib.hid hQ
  have HL := Lib.hid hl
  have i0 : ∀ wx, (Instr.index 86 (.agg #[.string p, .string q]) (.int .i64 0)).run Try.prog wx = .ok (.string p) wx := fun _ => by kernel_rfl
  have i1 : ∀ wx, (Instr.index 86 (.agg #[.string p, .string q]) (.int .i64 1)).run Try.prog wx = .ok (.string q) wx := fun _ => by kernel_rfl
  clear hc hd hl hQ
  go_enter Try.func48, Try.ntmps48
  go_wp2_with fail
  go_loopw [14] (fun i wr => (i = .int .i64 0 ∨ i = .int .i64 1 ∨ i = .int .i64 2) ∧ Below w.heap.size w wr) (fun i _ => 2 - (intOf i).toNat)
  case atStart => exact ⟨.inl rfl, Below.refl _ _⟩
  case round =>
    obtain ⟨hi, hB⟩ := hrel
    have HB := Lib.hid hB
    clear hB
    rcases hi with rfl | rfl | rfl
    · go_wp2_with fail
      refine (K1.out _ (HL.out.later HB.out)).mono ?_
      rintro e w1 ⟨rfl, hb⟩
      have HB1 := Lib.hid (HB.out.trans (hb.mono HB.out.size))
      clear hb
      go_wp2_with fail
      go_roundw
      case rel => exact ⟨.inr (.inl rfl), HB1.out⟩
      case measure => simp [intOf]
    · go_wp2_with fail
      refine (K2.out _ (HL.out.later HB.out)).mono ?_
      rintro e w1 ⟨rfl, hb⟩
      have HB1 := Lib.hid (HB.out.trans (hb.mono HB.out.size))
      clear hb
      go_wp2_with fail
      go_roundw
      case rel => exact ⟨.inr (.inr rfl), HB1.out⟩
      case measure => simp [intOf]
    · go_wp2_with fail
      refine (K3.out _ (HL.out.later HB.out)).mono ?_
      rintro e w1 ⟨rfl, hb⟩
      have HB1 := Lib.hid (HB.out.trans (hb.mono HB.out.size))
      clear hb
      go_wp2_with fail
      go_ret2
      exact ⟨rfl, HB1.out⟩

set_option maxHeartbeats 400000 in
theorem ask_int_1 (p q : ByteArray) (hp : p.size ≤ 100000) (c : Int) (hc : chk (lA p) = c) (h0 : c ≠ 0) (w : World) (hl : Len w) :
    Calls Try.prog 50 #[.func (.func 51) #[.string p] #[], .string p, .string q] w fun e w' => e = .returned (.tuple #[.int .i64 0, .int .i64 c]) ∧ Below w.heap.size w w' := by
  have K1 := Lib.hid (fun w hl => check_v p hp c hc w hl)
  have HL := Lib.hid hl
  have h1 : (c != 0) = true := bne_iff_ne.2 h0
  have i0 : ∀ wx, (Instr.index 86 (.agg #[.string p, .string q]) (.int .i64 0)).run Try.prog wx = .ok (.string p) wx := fun _ => by kernel_rfl
  have i1 : ∀ wx, (Instr.index 86 (.agg #[.string p, .string q]) (.int .i64 1)).run Try.prog wx = .ok (.string q) wx := fun _ => by kernel_rfl
  clear hc hl
  go_enter Try.func50, Try.ntmps50
  go_wp2_with fail
  go_loopw [6, 14] (fun z i wr => z = .int .i64 0 ∧ i = .int .i64 0 ∧ wr = w) (fun _ _ _ => 0)
  case atStart => exact ⟨rfl, rfl, rfl⟩
  case round =>
    obtain ⟨rfl, rfl, rfl⟩ := hrel
    go_wp2_with fail
    refine (K1.out _ HL.out).mono ?_
    rintro e w1 ⟨rfl, hb⟩
    have HB := Lib.hid hb
    clear hb
    go_wp2_with fail
    go_ret2
    exact ⟨rfl, HB.out⟩
set_option maxHeartbeats 400000 in
theorem ask_int_2 (p q : ByteArray) (hp : p.size ≤ 100000) (hq : q.size ≤ 100000) (c : Int) (hd : chk (lA p) = 0) (hc : chk (lA q) = c) (h0 : c ≠ 0) (w : World) (hl : Len w) :
    Calls Try.prog 50 #[.func (.func 51) #[.string p] #[], .string p, .string q] w fun e w' => e = .returned (.tuple #[.int .i64 0, .int .i64 c]) ∧ Below w.heap.size w w' := by
  have K1 := Lib.hid (fun w hl => check_v p hp 0 hd w hl)
  have K2 := Lib.hid (fun w hl => check_v q hq c hc w hl)
  have HL := Lib.hid hl
  have h1 : (c != 0) = true := bne_iff_ne.2 h0
  have i0 : ∀ wx, (Instr.index 86 (.agg #[.string p, .string q]) (.int .i64 0)).run Try.prog wx = .ok (.string p) wx := fun _ => by kernel_rfl
  have i1 : ∀ wx, (Instr.index 86 (.agg #[.string p, .string q]) (.int .i64 1)).run Try.prog wx = .ok (.string q) wx := fun _ => by kernel_rfl
  clear hc hd hl
  go_enter Try.func50, Try.ntmps50
  go_wp2_with fail
  go_loopw [6, 14] (fun z i wr => z = .int .i64 0 ∧ (i = .int .i64 0 ∨ i = .int .i64 1) ∧ Below w.heap.size w wr) (fun _ i _ => 2 - (intOf i).toNat)
  case atStart => exact ⟨rfl, .inl rfl, Below.refl _ _⟩
  case round =>
    obtain ⟨rfl, hi, hB⟩ := hrel
    have HB := Lib.hid hB
    clear hB
    rcases hi with rfl | rfl
    · go_wp2_with fail
      refine (K1.out _ (HL.out.later HB.out)).mono ?_
      rintro e w1 ⟨rfl, hb⟩
      have HB1 := Lib.hid (HB.out.trans (hb.mono HB.out.size))
      clear hb
      go_wp2_with fail
      go_roundw
      case rel => exact ⟨rfl, .inr rfl, HB1.out⟩
      case measure => simp [intOf]
    · go_wp2_with fail
      refine (K2.out _ (HL.out.later HB.out)).mono ?_
      rintro e w1 ⟨rfl, hb⟩
      have HB1 := Lib.hid (HB.out.trans (hb.mono HB.out.size))
      clear hb
      go_wp2_with fail
      go_ret2
      exact ⟨rfl, HB1.out⟩
set_option maxHeartbeats 400000 in
theorem ask_int_3 (p q : ByteArray) (hp : p.size ≤ 100000) (hq : q.size ≤ 100000) (hd : chk (lA p) = 0) (hc : chk (lA q) = 0) (v : Int)
    (hQ : ∀ w, Len w → Calls Try.prog 51 #[.string p, .string q] w fun e w' => e = .returned (.int .i64 v) ∧ Below w.heap.size w w') (w : World) (hl : Len w) :
    Calls Try.prog 50 #[.func (.func 51) #[.string p] #[], .string p, .string q] w fun e w' => e = .returned (.tuple #[.int .i64 v, .int .i64 0]) ∧ Below w.heap.size w w' := by
  have K1 := Lib.hid (fun w hl => check_v p hp 0 hd w hl)
  have K2 := Lib.hid (fun w hl => check_v q hq 0 hc w hl)
  have K3 := Lib.hid hQ
  have HL := Lib.hid hl
  have i0 : ∀ wx, (Instr.index 86 (.agg #[.string p, .string q]) (.int .i64 0)).run Try.prog wx = .ok (.string p) wx := fun _ => by kernel_rfl
  have i1 : ∀ wx, (Instr.index 86 (.agg #[.string p, .string q]) (.int .i64 1)).run Try.prog wx = .ok (.string q) wx := fun _ => by kernel_rfl
  clear hc hd hl hQ
  go_enter Try.func50, Try.ntmps50
  go_wp2_with fail
  go_loopw [14] (fun i wr => (i = .int .i64 0 ∨ i = .int .i64 1 ∨ i = .int .i64 2) ∧ Below w.heap.size w wr) (fun i _ => 2 - (intOf i).toNat)
  case atStart => exact ⟨.inl rfl, Below.refl _ _⟩
  case round =>
    obtain ⟨hi, hB⟩ := hrel
    have HB := Lib.hid hB
    clear hB
    rcases hi with rfl | rfl | rfl
    · go_wp2_with fail
      refine (K1.out _ (HL.out.later HB.out)).mono ?_
      rintro e w1 ⟨rfl, hb⟩
      have HB1 := Lib.hid (HB.out.trans (hb.mono HB.out.size))
      clear hb
      go_wp2_with fail
      go_roundw
      case rel => exact ⟨.inr (.inl rfl), HB1.out⟩
      case measure => simp [intOf]
    · go_wp2_with fail
      refine (K2.out _ (HL.out.later HB.out)).mono ?_
      rintro e w1 ⟨rfl, hb⟩
      have HB1 := Lib.hid (HB.out.trans (hb.mono HB.out.size))
      clear hb
      go_wp2_with fail
      go_roundw
      case rel => exact ⟨.inr (.inr rfl), HB1.out⟩
      case measure => simp [intOf]
    · go_wp2_with fail
      refine (K3.out _ (HL.out.later HB.out)).mono ?_
      rintro e w1 ⟨rfl, hb⟩
      have HB1 := Lib.hid (HB.out.trans (hb.mono HB.out.size))
      clear hb
      go_wp2_with fail
      go_ret2
      exact ⟨rfl, HB1.out⟩

set_option maxHeartbeats 400000 in
theorem labunder_any (p q : ByteArray) (hp : p.size ≤ 100000) (hq : q.size ≤ 100000)
    (w : World) (hl : Len w) :
    Calls Try.prog 24 #[.string p, .string q] w fun e w' => e = .returned (.tuple #[.bool (undR (lA p) (lA q)), .int .i64 (both (lA p) (lA q))]) ∧ Below w.heap.size w w' := by
  have B0 := Lib.hid (Below.refl w.heap.size w)
  have L_0 := Lib.hid hl
  have hmf : ∀ (fn : Fn) (first cap : Array Value) (w : World), (Instr.makeFunc fn first cap).run Try.prog w = .ok (.func fn first cap) w := fun _ _ _ _ => rfl
  by_cases hc : chk (lA p) = 0
  · by_cases hd : chk (lA q) = 0
    · have hb : both (lA p) (lA q) = 0 := both_zero.2 ⟨hc, hd⟩
      have HE : Hid (both (lA p) (lA q) = 0) := Lib.hid hb
      obtain ⟨v, hv⟩ : ∃ v, undB (lA p) (lA q) = v := ⟨_, rfl⟩
      have HV : Hid (undR (lA p) (lA q) = v) := Lib.hid (by rw [← hv]; simp [undR, hb])
      have K1 := Lib.hid (fun w hl => ask_bool_3 p q hp hq hc hd _ (fun w _ => (under_any p q hp hq w).mono fun e w' h => ⟨h.1, h.2 ▸ Below.refl _ _⟩) w hl)
      rw [hv] at K1
      clear hc hd hb hv hl
      go_enter Try.func24, Try.ntmps24
      go_wp2_with fail
      refine (K1.out _ L_0.out).mono ?_
      rintro e w1 ⟨rfl, hb⟩
      have B1 := Lib.hid (B0.out.trans (hb.mono B0.out.size))
      have L_1 := Lib.hid (L_0.out.later hb)
      clear hb B0 L_0
      go_wp2_with fail
      go_ret2
      exact ⟨by rw [HE.out, HV.out]; rfl, B1.out⟩
    · obtain ⟨c, hcc⟩ : ∃ c, chk (lA q) = c := ⟨_, rfl⟩
      have h0 : c ≠ 0 := fun e => hd (hcc.trans e)
      have hb : both (lA p) (lA q) = c := by rw [both, if_pos hc, hcc]
      have HE : Hid (both (lA p) (lA q) = c) := Lib.hid hb
      have HV : Hid (undR (lA p) (lA q) = false) := Lib.hid (by simp [undR, hb, h0])
      have K1 := Lib.hid (fun w hl => ask_bool_2 p q hp hq c hc hcc h0 w hl)
      clear hc hd hb hcc hl
      go_enter Try.func24, Try.ntmps24
      go_wp2_with fail
      refine (K1.out _ L_0.out).mono ?_
      rintro e w1 ⟨rfl, hb⟩
      have B1 := Lib.hid (B0.out.trans (hb.mono B0.out.size))
      have L_1 := Lib.hid (L_0.out.later hb)
      clear hb B0 L_0
      go_wp2_with fail
      go_ret2
      exact ⟨by rw [HE.out, HV.out]; rfl, B1.out⟩
  · obtain ⟨c, hcc⟩ : ∃ c, chk (lA p) = c := ⟨_, rfl⟩
    have h0 : c ≠ 0 := fun e => hc (hcc.trans e)
    have hb : both (lA p) (lA q) = c := by rw [both, if_neg hc, hcc]
    have HE : Hid (both (lA p) (lA q) = c) := Lib.hid hb
    have HV : Hid (undR (lA p) (lA q) = false) := Lib.hid (by simp [undR, hb, h0])
    have K1 := Lib.hid (fun w hl => ask_bool_1 p q hp c hcc h0 w hl)
    clear hc hb hcc hl
    go_enter Try.func24, Try.ntmps24
    go_wp2_with fail
    refine (K1.out _ L_0.out).mono ?_
    rintro e w1 ⟨rfl, hb⟩
    have B1 := Lib.hid (B0.out.trans (hb.mono B0.out.size))
    have L_1 := Lib.hid (L_0.out.later hb)
    clear hb B0 L_0
    go_wp2_with fail
    go_ret2
    exact ⟨by rw [HE.out, HV.out]; rfl, B1.out⟩

set_option maxHeartbeats 400000 in
theorem labcommon_any (p q : ByteArray) (hp : p.size ≤ 100000) (hq : q.size ≤ 100000)
    (w : World) (hl : Len w) :
    Calls Try.prog 26 #[.string p, .string q] w fun e w' => e = .returned (.tuple #[.string (bA (comR (lA p) (lA q))), .int .i64 (both (lA p) (lA q))]) ∧ Below w.heap.size w w' := by
  have B0 := Lib.hid (Below.refl w.heap.size w)
  have L_0 := Lib.hid hl
  have hmf : ∀ (fn : Fn) (first cap : Array Value) (w : World), (Instr.makeFunc fn first cap).run Try.prog w = .ok (.func fn first cap) w := fun _ _ _ _ => rfl
  by_cases hc : chk (lA p) = 0
  · by_cases hd : chk (lA q) = 0
    · have hb : both (lA p) (lA q) = 0 := both_zero.2 ⟨hc, hd⟩
      have HE : Hid (both (lA p) (lA q) = 0) := Lib.hid hb
      obtain ⟨v, hv⟩ : ∃ v, bA (comL (lA p) (lA q)) = v := ⟨_, rfl⟩
      have HV : Hid (bA (comR (lA p) (lA q)) = v) := Lib.hid (by rw [← hv]; rw [comR, if_pos hb])
      have K1 := Lib.hid (fun w hl => ask_string_3 p q hp hq hc hd _ (fun w _ => common_any p q hp hq hc w) w hl)
      rw [hv] at K1
      clear hc hd hb hv hl
      go_enter Try.func26, Try.ntmps26
      go_wp2_with fail
      refine (K1.out _ L_0.out).mono ?_
      rintro e w1 ⟨rfl, hb⟩
      have B1 := Lib.hid (B0.out.trans (hb.mono B0.out.size))
      have L_1 := Lib.hid (L_0.out.later hb)
      clear hb B0 L_0
      go_wp2_with fail
      go_ret2
      exact ⟨by rw [HE.out, HV.out]; rfl, B1.out⟩
    · obtain ⟨c, hcc⟩ : ∃ c, chk (lA q) = c := ⟨_, rfl⟩
      have h0 : c ≠ 0 := fun e => hd (hcc.trans e)
      have hb : both (lA p) (lA q) = c := by rw [both, if_pos hc, hcc]
      have HE : Hid (both (lA p) (lA q) = c) := Lib.hid hb
      have HV : Hid (bA (comR (lA p) (lA q)) = ByteArray.empty) := Lib.hid (by rw [comR, hb, if_neg h0]; rfl)
      have K1 := Lib.hid (fun w hl => ask_string_2 p q hp hq c hc hcc h0 w hl)
      clear hc hd hb hcc hl
      go_enter Try.func26, Try.ntmps26
      go_wp2_with fail
      refine (K1.out _ L_0.out).mono ?_
      rintro e w1 ⟨rfl, hb⟩
      have B1 := Lib.hid (B0.out.trans (hb.mono B0.out.size))
      have L_1 := Lib.hid (L_0.out.later hb)
      clear hb B0 L_0
      go_wp2_with fail
      go_ret2
      exact ⟨by rw [HE.out, HV.out]; rfl, B1.out⟩
  · obtain ⟨c, hcc⟩ : ∃ c, chk (lA p) = c := ⟨_, rfl⟩
    have h0 : c ≠ 0 := fun e => hc (hcc.trans e)
    have hb : both (lA p) (lA q) = c := by rw [both, if_neg hc, hcc]
    have HE : Hid (both (lA p) (lA q) = c) := Lib.hid hb
    have HV : Hid (bA (comR (lA p) (lA q)) = ByteArray.empty) := Lib.hid (by rw [comR, hb, if_neg h0]; rfl)
    have K1 := Lib.hid (fun w hl => ask_string_1 p q hp c hcc h0 w hl)
    clear hc hb hcc hl
    go_enter Try.func26, Try.ntmps26
    go_wp2_with fail
    refine (K1.out _ L_0.out).mono ?_
    rintro e w1 ⟨rfl, hb⟩
    have B1 := Lib.hid (B0.out.trans (hb.mono B0.out.size))
    have L_1 := Lib.hid (L_0.out.later hb)
    clear hb B0 L_0
    go_wp2_with fail
    go_ret2
    exact ⟨by rw [HE.out, HV.out]; rfl, B1.out⟩

set_option maxHeartbeats 400000 in
theorem labcompare_any (p q : ByteArray) (hp : p.size ≤ 100000) (hq : q.size ≤ 100000)
    (hQ : chk (lA p) = 0 → chk (lA q) = 0 → ∀ w, Len w → Calls Try.prog 51 #[.string p, .string q] w fun e w' => e = .returned (.int .i64 (cmpP (lA p) (lA q))) ∧ Below w.heap.size w w')
    (w : World) (hl : Len w) :
    Calls Try.prog 28 #[.string p, .string q] w fun e w' => e = .returned (.tuple #[.int .i64 (cmpR (lA p) (lA q)), .int .i64 (both (lA p) (lA q))]) ∧ Below w.heap.size w w' := by
  have B0 := Lib.hid (Below.refl w.heap.size w)
  have L_0 := Lib.hid hl
  have hmf : ∀ (fn : Fn) (first cap : Array Value) (w : World), (Instr.makeFunc fn first cap).run Try.prog w = .ok (.func fn first cap) w := fun _ _ _ _ => rfl
  by_cases hc : chk (lA p) = 0
  · by_cases hd : chk (lA q) = 0
    · have hb : both (lA p) (lA q) = 0 := both_zero.2 ⟨hc, hd⟩
      have HE : Hid (both (lA p) (lA q) = 0) := Lib.hid hb
      obtain ⟨v, hv⟩ : ∃ v, cmpP (lA p) (lA q) = v := ⟨_, rfl⟩
      have HV : Hid (cmpR (lA p) (lA q) = v) := Lib.hid (by rw [← hv]; rw [cmpR, if_pos hb])
      have K1 := Lib.hid (fun w hl => ask_int_3 p q hp hq hc hd _ (hQ hc hd) w hl)
      rw [hv] at K1
      clear hc hd hb hv hl hQ
      go_enter Try.func28, Try.ntmps28
      go_wp2_with fail
      refine (K1.out _ L_0.out).mono ?_
      rintro e w1 ⟨rfl, hb⟩
      have B1 := Lib.hid (B0.out.trans (hb.mono B0.out.size))
      have L_1 := Lib.hid (L_0.out.later hb)
      clear hb B0 L_0
      go_wp2_with fail
      go_ret2
      exact ⟨by rw [HE.out, HV.out]; rfl, B1.out⟩
    · obtain ⟨c, hcc⟩ : ∃ c, chk (lA q) = c := ⟨_, rfl⟩
      have h0 : c ≠ 0 := fun e => hd (hcc.trans e)
      have hb : both (lA p) (lA q) = c := by rw [both, if_pos hc, hcc]
      have HE : Hid (both (lA p) (lA q) = c) := Lib.hid hb
      have HV : Hid (cmpR (lA p) (lA q) = 0) := Lib.hid (by rw [cmpR, hb, if_neg h0])
      have K1 := Lib.hid (fun w hl => ask_int_2 p q hp hq c hc hcc h0 w hl)
      clear hc hd hb hcc hl hQ
      go_enter Try.func28, Try.ntmps28
      go_wp2_with fail
      refine (K1.out _ L_0.out).mono ?_
      rintro e w1 ⟨rfl, hb⟩
      have B1 := Lib.hid (B0.out.trans (hb.mono B0.out.size))
      have L_1 := Lib.hid (L_0.out.later hb)
      clear hb B0 L_0
      go_wp2_with fail
      go_ret2
      exact ⟨by rw [HE.out, HV.out]; rfl, B1.out⟩
  · obtain ⟨c, hcc⟩ : ∃ c, chk (lA p) = c := ⟨_, rfl⟩
    have h0 : c ≠ 0 := fun e => hc (hcc.trans e)
    have hb : both (lA p) (lA q) = c := by rw [both, if_neg hc, hcc]
    have HE : Hid (both (lA p) (lA q) = c) := Lib.hid hb
    have HV : Hid (cmpR (lA p) (lA q) = 0) := Lib.hid (by rw [cmpR, hb, if_neg h0])
    have K1 := Lib.hid (fun w hl => ask_int_1 p q hp c hcc h0 w hl)
    clear hc hb hcc hl hQ
    go_enter Try.func28, Try.ntmps28
    go_wp2_with fail
    refine (K1.out _ L_0.out).mono ?_
    rintro e w1 ⟨rfl, hb⟩
    have B1 := Lib.hid (B0.out.trans (hb.mono B0.out.size))
    have L_1 := Lib.hid (L_0.out.later hb)
    clear hb B0 L_0
    go_wp2_with fail
    go_ret2
    exact ⟨by rw [HE.out, HV.out]; rfl, B1.out⟩
end Go.Proofs.Ytjladbgidodhbaa
