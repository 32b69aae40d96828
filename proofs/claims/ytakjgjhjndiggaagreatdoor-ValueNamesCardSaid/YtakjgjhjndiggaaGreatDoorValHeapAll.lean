/-
  How a value lies in memory: its fields as a row of six cells, its list's elements row behind row. What the reference's Parts, Deep, great and Great hand back. What the reference's great and Great hand back.
-/
import Derived.Test.YtakjgjhjndiggaaGreatDoorChecked
import Derived.Test.YtakjgjhjndiggaaGreatDoorValMath
import Derived.Test.YtakjgjhjndiggaaGreatDoorRatKept
import Derived.WalkKit
import Derived.WalkSmall
import Derived.Lib.Hide
import Derived.OneCell
namespace Go.Proofs.YtakjgjhjndiggaaGreatDoor
open Go.RowKit
open VM
set_option linter.unusedVariables false
set_option linter.unusedSimpArgs false

theorem ret_bool {a b : Bool} (h : a = b) : Ending.returned (.bool a) = .returned (.bool b) := by rw [h]
theorem ret_int {k : IntKind} {a b : Int} (h : a = b) : Ending.returned (.int k a) = .returned (.int k b) := by rw [h]

/-- A value as the calls hand it on. -/
def vV (a : Nd) (sl : Value) : Value := .agg #[.int .u8 a.k, .int .i64 a.n, .int .i64 a.d, .bool a.t, .string a.s, sl]
/-- Six cells from a place on. -/
structure Row6 (w : World) (b o : Nat) (a : Nd) (sl : Value) : Prop where
  c0 : w.cell? ⟨b, o, none⟩ = some (.int .u8 a.k)
  c1 : w.cell? ⟨b, o + 1, none⟩ = some (.int .i64 a.n)
  c2 : w.cell? ⟨b, o + 2, none⟩ = some (.int .i64 a.d)
  c3 : w.cell? ⟨b, o + 3, none⟩ = some (.bool a.t)
  c4 : w.cell? ⟨b, o + 4, none⟩ = some (.string a.s)
  c5 : w.cell? ⟨b, o + 5, none⟩ = some sl
theorem Row6.carry {w w' : World} {b o : Nat} {a : Nd} {sl : Value} (h : Row6 w b o a sl) (hb : ∀ o, w'.cell? ⟨b, o, none⟩ = w.cell? ⟨b, o, none⟩) : Row6 w' b o a sl :=
  ⟨(hb _).trans h.c0, (hb _).trans h.c1, (hb _).trans h.c2, (hb _).trans h.c3, (hb _).trans h.c4, (hb _).trans h.c5⟩
theorem lt_of_cell {w : World} {b o : Nat} {v : Value} (h : w.cell? ⟨b, o, none⟩ = some v) : b < w.heap.size := by
  rcases Nat.lt_or_ge b w.heap.size with h1 | h1
  · exact h1
  · simp [World.cell?, Array.getElem?_eq_none h1] at h
theorem Row6.lt {w : World} {b o : Nat} {a : Nd} {sl : Value} (h : Row6 w b o a sl) : b < w.heap.size := lt_of_cell h.c0
theorem cell_of_heap {w w' : World} {b : Nat} (h : w'.heap[b]? = w.heap[b]?) (o : Nat) : w'.cell? ⟨b, o, none⟩ = w.cell? ⟨b, o, none⟩ := by
  simp [World.cell?, h]

/-- A list of values behind a slice's value, in blocks for which Q holds. -/
inductive RepL (Q : Nat → Prop) (w : World) : List V → Value → Prop where
  | mk (p : Option Addr) (cap : Nat) (l : List V) (S : Nat → Value)
      (hp : l ≠ [] → ∃ b off, p = some ⟨b, off, none⟩ ∧ Q b ∧ w.frozen? ⟨b, off, none⟩ = false ∧ ∀ i, (h : i < l.length) → Row6 w b (off + i * 6) l[i].nd (S i))
      (hr : ∀ i, (h : i < l.length) → RepL Q w l[i].list (S i)) : RepL Q w l (.slice p l.length cap)
theorem RepL.slice {Q : Nat → Prop} {w : World} {l : List V} {sl : Value} (h : RepL Q w l sl) : ∃ p cap, sl = .slice p l.length cap := by
  cases h with | mk p cap l S hp hr => exact ⟨p, cap, rfl⟩
/-- What a place of the list holds. -/
theorem RepL.at {Q : Nat → Prop} {w : World} {l : List V} {p : Option Addr} {n cap : Nat} (h : RepL Q w l (.slice p n cap)) {i : Nat} (hi : i < l.length) :
    ∃ b off S, p = some ⟨b, off, none⟩ ∧ Q b ∧ b < w.heap.size ∧ Row6 w b (off + i * 6) l[i].nd S ∧ RepL Q w l[i].list S := by
  cases h with
  | mk p cap l S hp hr =>
    obtain ⟨b, off, rfl, hq, hz, hrow⟩ := hp (by intro e; rw [e] at hi; simp at hi)
    exact ⟨b, off, S i, rfl, hq, (hrow i hi).lt, hrow i hi, hr i hi⟩
theorem RepL.len {Q : Nat → Prop} {w : World} {l : List V} {p : Option Addr} {n cap : Nat} (h : RepL Q w l (.slice p n cap)) : n = l.length := by cases h; rfl
theorem RepL.nil (Q : Nat → Prop) (w : World) (p : Option Addr) (cap : Nat) : RepL Q w [] (.slice p 0 cap) := .mk p cap [] (fun _ => undef) (fun h => absurd rfl h) (fun i h => by simp at h)
/-- The place of the list's first row: it is no place of a string. -/
theorem RepL.free {Q : Nat → Prop} {w : World} {l : List V} {p : Option Addr} {n cap : Nat} (h : RepL Q w l (.slice p n cap)) (hi : l ≠ []) :
    ∃ b off, p = some ⟨b, off, none⟩ ∧ Q b ∧ b < w.heap.size ∧ w.frozen? ⟨b, off, none⟩ = false := by
  cases h with
  | mk p cap l S hp hr =>
    obtain ⟨b, off, rfl, hq, hz, hrow⟩ := hp hi
    exact ⟨b, off, rfl, hq, (hrow 0 (List.length_pos_iff.2 hi)).lt, hz⟩
theorem frozen_of_heap {w w' : World} {b : Nat} (h : w'.heap[b]? = w.heap[b]?) (o : Nat) : w'.frozen? ⟨b, o, none⟩ = w.frozen? ⟨b, o, none⟩ := by
  simp [World.frozen?, h]
theorem RepL.carry {Q Q' : Nat → Prop} {w w' : World} (hq : ∀ b, b < w.heap.size → Q b → Q' b ∧ w'.heap[b]? = w.heap[b]?) {l : List V} {sl : Value} (h : RepL Q w l sl) : RepL Q' w' l sl := by
  induction h with
  | mk p cap l S hp hr ih =>
    refine .mk p cap l S (fun hne => ?_) ih
    obtain ⟨b, off, e, hb, hz, hrow⟩ := hp hne
    have hlt := (hrow 0 (List.length_pos_iff.2 hne)).lt
    exact ⟨b, off, e, (hq b hlt hb).1, (frozen_of_heap (hq b hlt hb).2 off).trans hz, fun i hi => (hrow i hi).carry fun o => cell_of_heap (hq b hlt hb).2 o⟩
/-- A later world, in which nothing that was there has turned. -/
theorem RepL.later {Q : Nat → Prop} {w w' : World} {l : List V} {sl : Value} (h : RepL Q w l sl) (hb : Below w.heap.size w w') : RepL Q w' l sl :=
  h.carry fun b hlt hq => ⟨hq, hb.block b hlt⟩
theorem RepL.kept {n : Nat} {w w' : World} {l : List V} {sl : Value} (h : RepL (· < n) w l sl) (hb : Below n w w') : RepL (· < n) w' l sl :=
  h.carry fun b hlt hq => ⟨hq, hb.block b hq⟩
theorem RepL.weaken {Q Q' : Nat → Prop} {w : World} {l : List V} {sl : Value} (h : RepL Q w l sl) (hq : ∀ b, b < w.heap.size → Q b → Q' b) : RepL Q' w l sl :=
  h.carry fun b hlt hb => ⟨hq b hlt hb, rfl⟩
theorem RepL.bound {Q : Nat → Prop} {w : World} {l : List V} {sl : Value} (h : RepL Q w l sl) : RepL (· < w.heap.size) w l sl := h.weaken fun b hlt _ => hlt
/-- A place tells its list. -/
theorem RepL.det {Q Q' : Nat → Prop} {w : World} {l l' : List V} {sl : Value} (h : RepL Q w l sl) : ∀ {sl' : Value}, RepL Q' w l' sl' → (∀ p n cap, sl = .slice p n cap → ∃ cap', sl' = .slice p n cap') → l = l' := by
  induction h generalizing l' with
  | mk p cap l S hp hr ih =>
    intro sl' h' hs
    obtain ⟨cap', rfl⟩ := hs _ _ _ rfl
    have hl := h'.len
    refine List.ext_getElem hl fun i h1 h2 => ?_
    obtain ⟨b, off, rfl, hq, hz, hrow⟩ := hp (by intro e; rw [e] at h1; simp at h1)
    obtain ⟨b', off', S', e, hq', hlt, hrow', hr'⟩ := h'.at h2
    cases e
    have r := hrow i h1
    have e0 := Option.some.inj (r.c0.symm.trans hrow'.c0)
    have e1 := Option.some.inj (r.c1.symm.trans hrow'.c1)
    have e2 := Option.some.inj (r.c2.symm.trans hrow'.c2)
    have e3 := Option.some.inj (r.c3.symm.trans hrow'.c3)
    have e4 := Option.some.inj (r.c4.symm.trans hrow'.c4)
    have e5 := Option.some.inj (r.c5.symm.trans hrow'.c5)
    have hl2 := ih i h1 (l' := l'[i].list) (sl' := S i) (by rw [e5]; exact hr') (fun p n cap e => ⟨cap, e⟩)
    have hn : l[i].nd = l'[i].nd := by
      generalize l[i].nd = a at e0 e1 e2 e3 e4
      generalize l'[i].nd = a' at e0 e1 e2 e3 e4
      cases a; cases a'
      simp only [Value.int.injEq, Value.bool.injEq, Value.string.injEq, true_and] at e0 e1 e2 e3 e4
      subst e0 e1 e2 e3 e4; rfl
    rw [← V.eta l[i], ← V.eta l'[i], hn, hl2]

/-- A variable that holds a value. -/
theorem box_row {w : World} {b : Nat} {a : Nd} {sl : Value} {t : TypeId} (h : w.heap[b]? = some (.cells #[.int .u8 a.k, .int .i64 a.n, .int .i64 a.d, .bool a.t, .string a.s, sl] t (0, 0))) : Row6 w b 0 a sl := by
  constructor <;> simp [World.cell?, h]
end Go.Proofs.YtakjgjhjndiggaaGreatDoor
namespace Go.Proofs.YtakjgjhjndiggaaGreatDoor
open Go.RowKit
open VM
set_option linter.unusedVariables false
set_option linter.unusedSimpArgs false

/-- Where a loop over a value's elements stands: the value lies in the variable behind the world at the call. -/
structure LoopAt (Q : Nat → Prop) (w : World) (a : Nd) (p : Option Addr) (cap : Nat) (l : List V) (wr : World) : Prop where
  below : Below w.heap.size w wr
  box : wr.heap[w.heap.size]? = some (.cells #[.int .u8 a.k, .int .i64 a.n, .int .i64 a.d, .bool a.t, .string a.s, .slice p l.length cap] 28 (0, 0))
  rep : RepL Q wr l (.slice p l.length cap)
theorem LoopAt.start {Q : Nat → Prop} {w : World} {a : Nd} {p : Option Addr} {cap : Nat} {l : List V} (h : RepL Q w l (.slice p l.length cap)) :
    LoopAt Q w a p cap l (w.alloc (.cells #[.int .u8 a.k, .int .i64 a.n, .int .i64 a.d, .bool a.t, .string a.s, .slice p l.length cap] 28)) :=
  ⟨(Below.refl _ _).alloc (Nat.le_refl _) _, heap_alloc_new _ _, h.later ((Below.refl _ _).alloc (Nat.le_refl _) _)⟩
theorem LoopAt.later {Q : Nat → Prop} {w : World} {a : Nd} {p : Option Addr} {cap : Nat} {l : List V} {wr w1 : World} (h : LoopAt Q w a p cap l wr) (hb : Below wr.heap.size wr w1) :
    LoopAt Q w a p cap l w1 := ⟨h.below.trans (hb.mono h.below.size), below_new hb h.box, h.rep.later hb⟩
theorem LoopAt.drew {Q : Nat → Prop} {w : World} {a : Nd} {p : Option Addr} {cap : Nat} {l : List V} {wr : World} (h : LoopAt Q w a p cap l wr) :
    LoopAt Q w a p cap l wr.drew := h.later (Below.refl _ _).drew

set_option maxHeartbeats 1000000 in
theorem refparts_v (Q : Nat → Prop) (v : V) : ∀ (sl : Value) (w : World), Wf 1000000 v → RepL Q w v.list sl →
    Calls Tryz.prog 44 #[.agg #[.int .u8 v.nd.k, .int .i64 v.nd.n, .int .i64 v.nd.d, .bool v.nd.t, .string v.nd.s, sl]] w fun e w' => e = .returned (.int .i64 (wrap64 (parts v))) ∧ Below w.heap.size w w' := by
  induction v using V.ind with
  | h a l ih =>
    intro sl w hl hr
    obtain ⟨p, cap, rfl⟩ := hr.slice
    dsimp only [V.nd_mk, V.list_mk] at hr ⊢
    have S0 := Lib.hid (LoopAt.start (a := a) hr)
    have HI := Lib.hid ih
    have HW := Lib.hid hl
    have hlen : l.length ≤ 1000000 := hl.len
    clear hr ih hl
    by_cases hk : a.k = 4
    · have HE : Hid (parts (.mk a l) = 1 + partsL l) := Lib.hid (by rw [parts_eq]; simp [hk])
      have k4 : (a.k == 4) = true := by simp [hk]
      clear hk
      go_enter Tryz.func44, Tryz.ntmps44
      go_wp2_with fail
      go_loopw [3, 4] (fun x i wr => ∃ j : Nat, j ≤ l.length ∧ i = .int .i64 j ∧ x = .int .i64 (wrap64 (1 + partsL (l.take j) : Nat)) ∧ LoopAt Q w a p cap l wr) (fun _ i _ => l.length - (intOf i).toNat)
      case atStart => exact ⟨0, Nat.zero_le _, rfl, by simp [partsL, wrap_one], S0.out⟩
      case round =>
        obtain ⟨j, hj, rfl, rfl, hS⟩ := hrel
        have HS := Lib.hid hS
        have l1 := lt_of_block hS.box
        have R := box_row hS.box
        have q0 := R.c0
        have q5 := R.c5
        clear R hS
        by_cases hlt : j < l.length
        · obtain ⟨b, off, S, rfl, hq, hb, R, hR⟩ := HS.out.rep.at hlt
          have r0 := R.c0
          have r1 := R.c1
          have r2 := R.c2
          have r3 := R.c3
          have r4 := R.c4
          have r5 := R.c5
          have HC := Lib.hid (HI.out l[j] (List.getElem_mem hlt) _ _ (HW.out.get hlt) hR)
          have HP : Hid (wrap64 (1 + partsL (l.take (j + 1)) : Nat) = wrap64 (wrap64 (1 + partsL (l.take j) : Nat) + wrap64 (parts l[j]))) := Lib.hid (by
            rw [partsL_snoc hlt, wrap_sum]; congr 1; omega)
          generalize parts l[j] = pj at HC HP
          generalize 1 + partsL (l.take j) = pi at HP ⊢
          generalize l[j].nd = x at r0 r1 r2 r3 r4 HC
          clear R hR hq
          go_wp2_with fail
          refine HC.out.mono ?_
          rintro e w1 ⟨rfl, hb1⟩
          have H1 := Lib.hid (HS.out.later hb1)
          clear hb1
          go_wp2_with fail
          go_roundw
          case rel => exact ⟨j + 1, by omega, by go_num, by rw [HP.out], H1.out⟩
          case measure => simp [intOf]; omega
        · obtain rfl : j = l.length := by omega
          go_wp2_with fail
          go_ret
          exact ⟨ret_int (by rw [HE.out, List.take_length]), HS.out.below⟩
    · have HE : Hid (parts (.mk a l) = 1) := Lib.hid (by rw [parts_eq]; simp [hk])
      have k4 : (a.k == 4) = false := by simp [hk]
      clear hk
      go_enter Tryz.func44, Tryz.ntmps44
      go_wp2_with fail
      go_loopw [3, 4] (fun x i wr => i = .int .i64 0 ∧ x = .int .i64 1 ∧ LoopAt Q w a p cap l wr) (fun _ i _ => 0)
      case atStart => exact ⟨rfl, rfl, S0.out⟩
      case round =>
        obtain ⟨rfl, rfl, hS⟩ := hrel
        have HS := Lib.hid hS
        have l1 := lt_of_block hS.box
        have R := box_row hS.box
        have q0 := R.c0
        have q5 := R.c5
        clear R hS
        by_cases hlt : 0 < l.length
        all_goals
          go_wp2_with fail
          go_ret
          exact ⟨ret_int (by rw [HE.out]; exact wrap_one.symm), HS.out.below⟩
theorem refparts_any (Q : Nat → Prop) (a : Nd) (l : List V) (sl : Value) (w : World) (hw : Wf 1000000 (.mk a l)) (hr : RepL Q w l sl) :
    Calls Tryz.prog 44 #[.agg #[.int .u8 a.k, .int .i64 a.n, .int .i64 a.d, .bool a.t, .string a.s, sl]] w fun e w' => e = .returned (.int .i64 (wrap64 (parts (.mk a l)))) ∧ Below w.heap.size w w' := refparts_v Q (.mk a l) sl w hw hr

set_option maxHeartbeats 1000000 in
theorem refdeep_v (Q : Nat → Prop) (v : V) : ∀ (sl : Value) (w : World), Small v → RepL Q w v.list sl →
    Calls Tryz.prog 70 #[.agg #[.int .u8 v.nd.k, .int .i64 v.nd.n, .int .i64 v.nd.d, .bool v.nd.t, .string v.nd.s, sl]] w fun e w' => e = .returned (.int .i64 (deep v)) ∧ Below w.heap.size w w' := by
  induction v using V.ind with
  | h a l ih =>
    intro sl w hl hr
    obtain ⟨p, cap, rfl⟩ := hr.slice
    dsimp only [V.nd_mk, V.list_mk] at hr ⊢
    have S0 := Lib.hid (LoopAt.start (a := a) hr)
    have HI := Lib.hid ih
    have HW := Lib.hid hl
    have hlen : l.length ≤ 20000 := hl.wf.len
    clear hr ih hl
    by_cases hk : a.k = 4
    · have HE : Hid (deep (.mk a l) = 1 + deepL l) := Lib.hid (by rw [deep_eq]; simp [hk])
      have k4 : (a.k == 4) = true := by simp [hk]
      clear hk
      go_enter Tryz.func70, Tryz.ntmps70
      go_wp2_with fail
      go_loopw [3, 4] (fun x i wr => ∃ j m : Nat, j ≤ l.length ∧ m ≤ 20001 ∧ m = 1 + deepL (l.take j) ∧ i = .int .i64 j ∧ x = .int .i64 m ∧ LoopAt Q w a p cap l wr) (fun _ i _ => l.length - (intOf i).toNat)
      case atStart => exact ⟨0, 1, Nat.zero_le _, by omega, by simp [deepL], rfl, rfl, S0.out⟩
      case round =>
        obtain ⟨j, m, hj, hm, hme, rfl, rfl, hS⟩ := hrel
        have HM := Lib.hid hme
        have HS := Lib.hid hS
        have l1 := lt_of_block hS.box
        have R := box_row hS.box
        have q0 := R.c0
        have q5 := R.c5
        clear R hS hme
        by_cases hlt : j < l.length
        · obtain ⟨b, off, S, rfl, hq, hb, R, hR⟩ := HS.out.rep.at hlt
          have r0 := R.c0
          have r1 := R.c1
          have r2 := R.c2
          have r3 := R.c3
          have r4 := R.c4
          have r5 := R.c5
          have HC := Lib.hid (HI.out l[j] (List.getElem_mem hlt) _ _ (HW.out.get hlt) hR)
          have HP : Hid (1 + deepL (l.take (j + 1)) = max (1 + deepL (l.take j)) (1 + deep l[j])) := Lib.hid (by rw [deepL_snoc hlt]; omega)
          have hd : deep l[j] ≤ 20000 := Nat.le_trans (deep_le_hgt _) (HW.out.get hlt).h
          generalize deep l[j] = pj at HC HP hd
          generalize l[j].nd = x at r0 r1 r2 r3 r4 HC
          clear R hR hq
          go_wp2_with fail
          refine HC.out.mono ?_
          rintro e w1 ⟨rfl, hb1⟩
          have H1 := Lib.hid (HS.out.later hb1)
          clear hb1
          go_wp2_with fail
          go_roundw
          case rel => exact ⟨j + 1, max m (1 + pj), by omega, by omega, by rw [HP.out, ← HM.out], by go_num, by go_num, H1.out⟩
          case measure => simp [intOf]; omega
        · obtain rfl : j = l.length := by omega
          go_wp2_with fail
          go_ret
          exact ⟨ret_int (by rw [HE.out, HM.out, List.take_length]), HS.out.below⟩
    · have HE : Hid (deep (.mk a l) = 1) := Lib.hid (by rw [deep_eq]; simp [hk])
      have k4 : (a.k == 4) = false := by simp [hk]
      clear hk
      go_enter Tryz.func70, Tryz.ntmps70
      go_wp2_with fail
      go_loopw [3, 4] (fun x i wr => i = .int .i64 0 ∧ x = .int .i64 1 ∧ LoopAt Q w a p cap l wr) (fun _ i _ => 0)
      case atStart => exact ⟨rfl, rfl, S0.out⟩
      case round =>
        obtain ⟨rfl, rfl, hS⟩ := hrel
        have HS := Lib.hid hS
        have l1 := lt_of_block hS.box
        have R := box_row hS.box
        have q0 := R.c0
        have q5 := R.c5
        clear R hS
        by_cases hlt : 0 < l.length
        all_goals
          go_wp2_with fail
          go_ret
          exact ⟨ret_int (by rw [HE.out]; rfl), HS.out.below⟩
theorem refdeep_any (Q : Nat → Prop) (a : Nd) (l : List V) (sl : Value) (w : World) (hw : Small (.mk a l)) (hr : RepL Q w l sl) :
    Calls Tryz.prog 70 #[.agg #[.int .u8 a.k, .int .i64 a.n, .int .i64 a.d, .bool a.t, .string a.s, sl]] w fun e w' => e = .returned (.int .i64 (deep (.mk a l))) ∧ Below w.heap.size w w' := refdeep_v Q (.mk a l) sl w hw hr
end Go.Proofs.YtakjgjhjndiggaaGreatDoor
namespace Go.Proofs.YtakjgjhjndiggaaGreatDoor
open Go.RowKit
open VM
set_option linter.unusedVariables false
set_option linter.unusedSimpArgs false

theorem great_long {n : Nat} {v : V} (h : 200 < v.nd.s.size ∨ 150 < v.list.length) : greatB (n + 1) v = true := by
  simp only [greatB, Bool.or_eq_true, decide_eq_true_eq]; omega
theorem great_mem {n : Nat} {v : V} {x : V} (hx : x ∈ v.list) (h : greatB n x = true) : greatB (n + 1) v = true := by
  simp only [greatB, Bool.or_eq_true, decide_eq_true_eq, List.any_eq_true]; exact .inr (.inr ⟨x, hx, h⟩)
theorem great_none {n : Nat} {v : V} (h1 : ¬ 200 < v.nd.s.size) (h2 : ¬ 150 < v.list.length) (h : ∀ j, (h : j < v.list.length) → greatB n v.list[j] = false) : greatB (n + 1) v = false := by
  simp only [greatB, Bool.or_eq_false_iff, decide_eq_false_iff_not, List.any_eq_false]
  refine ⟨h1, h2, fun x hx => ?_⟩
  obtain ⟨j, hj, rfl⟩ := List.getElem_of_mem hx
  rw [h j hj]; simp

set_option maxHeartbeats 2000000 in
theorem refgreat_n (Q : Nat → Prop) (n : Nat) (hn : n ≤ 10) : ∀ (v : V) (sl : Value) (w : World), RepL Q w v.list sl →
    Calls Tryz.prog 43 #[.agg #[.int .u8 v.nd.k, .int .i64 v.nd.n, .int .i64 v.nd.d, .bool v.nd.t, .string v.nd.s, sl], .int .i64 n] w fun e w' => e = .returned (.bool (greatB n v)) ∧ Below w.heap.size w w' := by
  induction n with
  | zero =>
    intro v sl w hr
    go_enter Tryz.func43, Tryz.ntmps43
    go_wp2_with fail
    go_ret
    exact ⟨rfl, (Below.refl _ _).alloc (Nat.le_refl _) _⟩
  | succ n ih =>
    intro v sl w hr
    obtain ⟨p, cap, rfl⟩ := hr.slice
    have S0 := Lib.hid (LoopAt.start (a := v.nd) hr)
    have HI := Lib.hid (ih (by omega))
    have HV : Hid (200 < v.nd.s.size ∨ 150 < v.list.length → greatB (n + 1) v = true) := Lib.hid fun h => great_long h
    have HM : Hid (∀ x, x ∈ v.list → greatB n x = true → greatB (n + 1) v = true) := Lib.hid fun x hx h => great_mem hx h
    have HN : Hid (¬ 200 < v.nd.s.size → ¬ 150 < v.list.length → (∀ j, (h : j < v.list.length) → greatB n v.list[j] = false) → greatB (n + 1) v = false) := Lib.hid great_none
    have n0 : (0 : Int) ≤ n := by omega
    have n1 : (n : Int) ≤ 9 := by omega
    have z : ((n : Int) + 1 == 0) = false := by rw [beq_eq_false_iff_ne]; omega
    have ez : ((n + 1 : Nat) : Int) = (n : Int) + 1 := by omega
    rw [ez]
    clear hr ih ez
    generalize v.nd = a at S0 HV HN ⊢
    generalize greatB (n + 1) v = G at *
    generalize v.list = l at *
    by_cases hs : 200 < a.s.size
    · have hs2 : (200 : Int) < a.s.size := by omega
      have HG := Lib.hid (HV.out (.inl hs))
      go_enter Tryz.func43, Tryz.ntmps43
      go_wp2_with fail
      go_ret
      exact ⟨ret_bool HG.out.symm, (Below.refl _ _).alloc (Nat.le_refl _) _⟩
    have hs2 : ¬ (200 : Int) < a.s.size := by omega
    by_cases hl : 150 < l.length
    · have hl2 : (150 : Int) < l.length := by omega
      have HG := Lib.hid (HV.out (.inr hl))
      go_enter Tryz.func43, Tryz.ntmps43
      go_wp2_with fail
      go_ret
      exact ⟨ret_bool HG.out.symm, (Below.refl _ _).alloc (Nat.le_refl _) _⟩
    have hl2 : ¬ (150 : Int) < l.length := by omega
    have hl3 : l.length ≤ 150 := by omega
    have HG := Lib.hid (HN.out hs hl)
    clear HV HN hs hl
    go_enter Tryz.func43, Tryz.ntmps43
    go_wp2_with fail
    go_loopw [5] (fun i wr => ∃ j : Nat, j ≤ l.length ∧ i = .int .i64 j ∧ (∀ k, k < j → (h : k < l.length) → greatB n l[k] = false) ∧ LoopAt Q w a p cap l wr) (fun i _ => l.length - (intOf i).toNat)
    case atStart => exact ⟨0, Nat.zero_le _, rfl, fun k hk => by omega, S0.out⟩
    case round =>
      obtain ⟨j, hj, rfl, hall, hS⟩ := hrel
      have HA := Lib.hid hall
      have HS := Lib.hid hS
      have l1 := lt_of_block hS.box
      have R := box_row hS.box
      have q5 := R.c5
      clear R hS hall
      by_cases hlt : j < l.length
      · obtain ⟨b, off, S, rfl, hq, hb, R, hR⟩ := HS.out.rep.at hlt
        have r0 := R.c0
        have r1 := R.c1
        have r2 := R.c2
        have r3 := R.c3
        have r4 := R.c4
        have r5 := R.c5
        have HC := Lib.hid (HI.out l[j] _ _ hR)
        have HT := Lib.hid (HM.out l[j] (List.getElem_mem hlt))
        have HF : Hid (greatB n l[j] = false → ∀ k, k < j + 1 → (h : k < l.length) → greatB n l[k] = false) := Lib.hid fun e k hk h => by
          rcases Nat.lt_or_ge k j with hk2 | hk2
          · exact HA.out k hk2 h
          · obtain rfl : k = j := by omega
            exact e
        generalize greatB n l[j] = g at HC HT HF
        generalize l[j].nd = x at r0 r1 r2 r3 r4 HC
        clear R hR hq
        go_wp2_with fail
        refine HC.out.mono ?_
        rintro e w1 ⟨rfl, hb1⟩
        have H1 := Lib.hid (HS.out.later hb1)
        clear hb1
        cases g
        · go_wp2_with fail
          go_roundw
          case rel => exact ⟨j + 1, by omega, by go_num, HF.out (by trivial), H1.out⟩
          case measure => simp [intOf]; omega
        · go_wp2_with fail
          go_ret
          exact ⟨ret_bool (HT.out (by trivial)).symm, H1.out.below⟩
      · obtain rfl : j = l.length := by omega
        have HE := Lib.hid (HG.out fun k hk => HA.out k hk hk)
        go_wp2_with fail
        go_ret
        exact ⟨ret_bool HE.out.symm, HS.out.below⟩
theorem refgreat_any (Q : Nat → Prop) (a : Nd) (l : List V) (sl : Value) (w : World) (hr : RepL Q w l sl) :
    Calls Tryz.prog 43 #[.agg #[.int .u8 a.k, .int .i64 a.n, .int .i64 a.d, .bool a.t, .string a.s, sl], .int .i64 10] w fun e w' => e = .returned (.bool (greatB 10 (.mk a l))) ∧ Below w.heap.size w w' := refgreat_n Q 10 (by omega) (.mk a l) sl w hr

theorem grt_of (v : V) : grtB v = (greatB 10 v || decide (150 < wrap64 (parts v))) := rfl
set_option maxHeartbeats 1000000 in
theorem great_any (Q : Nat → Prop) (m : Nat) (a : Nd) (l : List V) (sl : Value) (w : World) (hw : Wf m (.mk a l)) (hr : RepL Q w l sl) :
    Calls Tryz.prog 23 #[.agg #[.int .u8 a.k, .int .i64 a.n, .int .i64 a.d, .bool a.t, .string a.s, sl]] w fun e w' => e = .returned (.bool (grtB (.mk a l))) ∧ Below w.heap.size w w' := by
  obtain ⟨p, cap, rfl⟩ := hr.slice
  have S0 := Lib.hid (LoopAt.start (a := a) hr)
  have HG := Lib.hid (grt_of (.mk a l))
  cases hg : greatB 10 (.mk a l)
  · have HC : Hid (∀ w1, LoopAt Q w a p cap l w1 → Calls Tryz.prog 43 #[.agg #[.int .u8 a.k, .int .i64 a.n, .int .i64 a.d, .bool a.t, .string a.s, .slice p l.length cap], .int .i64 10] w1 fun e w' => e = .returned (.bool false) ∧ LoopAt Q w a p cap l w' ∧ Below w.heap.size w w') := Lib.hid fun w1 h =>
      (refgreat_any Q a l _ w1 h.rep).mono fun e w' ⟨he, hb⟩ => ⟨by rw [he, hg], h.later hb, (h.later hb).below⟩
    have HP : Hid (∀ w1, LoopAt Q w a p cap l w1 → Calls Tryz.prog 44 #[.agg #[.int .u8 a.k, .int .i64 a.n, .int .i64 a.d, .bool a.t, .string a.s, .slice p l.length cap]] w1 fun e w' => e = .returned (.int .i64 (wrap64 (parts (.mk a l)))) ∧ LoopAt Q w a p cap l w' ∧ Below w.heap.size w w') := Lib.hid fun w1 h =>
      (refparts_any Q a l _ w1 ((greatB_no hg hw).1.mono (by omega)) h.rep).mono fun e w' ⟨he, hb⟩ => ⟨he, h.later hb, (h.later hb).below⟩
    have HE := Lib.hid hg
    clear hr hw hg
    generalize wrap64 (parts (.mk a l)) = P at HP HG
    go_enter Tryz.func23, Tryz.ntmps23
    go_wp2_with fail
    refine (HC.out _ S0.out).mono ?_
    rintro e w1 ⟨rfl, hS, hb⟩
    have H1 := Lib.hid hS
    have l1 := lt_of_block hS.box
    have R := box_row hS.box
    have q0 := R.c0
    have q1 := R.c1
    have q2 := R.c2
    have q3 := R.c3
    have q4 := R.c4
    have q5 := R.c5
    clear R hS hb
    go_wp2_with fail
    refine (HP.out _ H1.out).mono ?_
    rintro e w2 ⟨rfl, hS, hb⟩
    have HB := Lib.hid hb
    clear hS hb q0 q1 q2 q3 q4 q5 l1
    go_wp2_with fail
    go_ret
    exact ⟨ret_bool (by rw [HG.out, HE.out, Bool.false_or]), HB.out⟩
  · have HC : Hid (∀ w1, LoopAt Q w a p cap l w1 → Calls Tryz.prog 43 #[.agg #[.int .u8 a.k, .int .i64 a.n, .int .i64 a.d, .bool a.t, .string a.s, .slice p l.length cap], .int .i64 10] w1 fun e w' => e = .returned (.bool true) ∧ Below w.heap.size w w') := Lib.hid fun w1 h =>
      (refgreat_any Q a l _ w1 h.rep).mono fun e w' ⟨he, hb⟩ => ⟨by rw [he, hg], (h.later hb).below⟩
    have HE := Lib.hid hg
    clear hr hw hg
    go_enter Tryz.func23, Tryz.ntmps23
    go_wp2_with fail
    refine (HC.out _ S0.out).mono ?_
    rintro e w1 ⟨rfl, hb⟩
    have HB := Lib.hid hb
    clear hb
    go_wp2_with fail
    go_ret
    exact ⟨ret_bool (by rw [HG.out, HE.out, Bool.true_or]), HB.out⟩
end Go.Proofs.YtakjgjhjndiggaaGreatDoor
