/-
  What slices.Grow and slices.Concat hand back of lists of values. What Add hands back of two truth values, and of strings whose sum is too long. What Add hands back of lists whose sum has too many parts. The calls of ValueNames, at their very values. ValueNames.
-/
import Derived.Test.YtakjgjhjndiggaaGreatDoorValAliveAll
import Derived.Test.YtakjgjhjndiggaaGreatDoorValOwnB
import Derived.Lib.AppendZeros
import Derived.Test.YtakjgjhjndiggaaGreatDoorValNmA
namespace Go.Proofs.YtakjgjhjndiggaaGreatDoor
open Go.RowKit Go.Shelf
open VM
set_option linter.unusedVariables false
set_option linter.unusedSimpArgs false

theorem zeros_size (z : Array Value) (n : Nat) : (Builtin.zeroCells z n).size = n * z.size := by
  induction n with
  | zero => simp [Builtin.zeroCells]
  | succ n ih => simp [Builtin.zeroCells] at ih ⊢
/-- A new row that nothing has been written to. -/
theorem own_fresh (base : Nat) (w w' : World) (n C : Nat) (cs : Array Value) (hb : base ≤ w.heap.size) (hc : C ≤ maxLen) (hs : cs.size = C * 6) (e : w'.heap[w.heap.size]? = some (.cells cs 28 (0, 0))) :
    OwnL base w' [] (.slice (some ⟨w.heap.size, 0, none⟩) 0 C) :=
  ⟨[], rfl, ⟨rfl, .inr ⟨w.heap.size, C, cs, rfl, hb, e, Nat.zero_le _, hc, hs, by simp [rowsL]⟩⟩, fun i h => by simp at h⟩
/-- The rows of a list in memory, cell by cell. -/
theorem rows_of_rep {Q : Nat → Prop} {w : World} {m : List V} {b off c : Nat} (h : RepL Q w m (.slice (some ⟨b, off, none⟩) m.length c)) :
    ∃ ms : List Value, ms.length = m.length ∧ (∀ i, (h : i < m.length) → (h2 : i < ms.length) → RepL Q w m[i].list ms[i]) ∧ ∀ j u, (rowsL m ms)[j]? = some u → w.cell? ((⟨b, off, none⟩ : Addr).add j) = some u := by
  cases h with
  | mk p cap l S hp hr =>
    refine ⟨(List.range m.length).map S, by simp, fun i hi h2 => by simpa using hr i hi, fun j u hu => ?_⟩
    have hlen : ((List.range m.length).map S).length = m.length := by simp
    have hj : j < m.length * 6 := by
      rw [← rowsL_length m _ hlen]
      exact (List.getElem?_eq_some_iff.1 hu).1
    have hi : j / 6 < m.length := by omega
    obtain ⟨b', off', e, -, -, hrow⟩ := hp (fun e => by subst e; simp at hi)
    injection e with e; injection e with e1 e2 _; subst e1 e2
    have R := hrow (j / 6) hi
    have e := rowsL_get m _ (j / 6) (j % 6) hlen hi (by simpa using hi) (by omega)
    rw [show j / 6 * 6 + j % 6 = j by omega, hu] at e
    have ha : (⟨b, off, none⟩ : Addr).add j = ⟨b, off + j / 6 * 6 + j % 6, none⟩ := by
      simp only [Addr.add_lit]; congr 1; omega
    rw [ha]
    have hS : ((List.range m.length).map S)[j / 6]'(by simpa using hi) = S (j / 6) := by simp
    rw [hS] at e
    have hk : j % 6 < 6 := Nat.mod_lt _ (by omega)
    generalize j % 6 = k at *
    have hk6 : k = 0 ∨ k = 1 ∨ k = 2 ∨ k = 3 ∨ k = 4 ∨ k = 5 := by omega
    rcases hk6 with rfl | rfl | rfl | rfl | rfl | rfl
    · rw [e]; exact R.c0
    · rw [e]; exact R.c1
    · rw [e]; exact R.c2
    · rw [e]; exact R.c3
    · rw [e]; exact R.c4
    · rw [e]; exact R.c5
theorem wpList_append_many {ops : Array Oper} {rest : List Oper} {o : Oper} {a : Act} {w : World} {Q : Exit → Act → World → Prop}
    (hgd : o.guard = none) (s x : Operand) (hop : o.op = Op.call { callee := Callee.builtin Builtin.append, args := #[s, x], argTypes := #[26, 26] })
    (base : Nat) (l : List V) (v : Value) (hs : a.eval s = v) (hown : OwnL base w l v) (hbase : base ≤ w.heap.size) (R : Nat → Prop) (hR : ∀ b, b < w.heap.size → R b → base ≤ b ∧ v.ownBlock ≠ Option.some b)
    (m : List V) (b off n c : Nat) (hy : RepL R w m (.slice (some ⟨b, off, none⟩) n c)) (hx : a.eval x = .slice (Option.some ⟨b, off, none⟩) n c) (hn : l.length + m.length ≤ 1000000)
    (hK : ∀ v' w', OwnL base w' (l ++ m) v' → w.grownBy w' v.ownBlock → (v'.ownBlock = v.ownBlock ∨ v'.ownBlock = Option.some w.heap.size) → wpList Tryz.prog ops Q rest (a.put o.dst v') w') : wpList Tryz.prog ops Q (o :: rest) a w :=
  wpList_plain hgd fun _ hK2 => by
    have hl := hy.len
    subst hl
    obtain ⟨ms, h1, h2, h3⟩ := rows_of_rep hy
    obtain ⟨v', w', hrun, h4, h5, h6⟩ := hown.append hbase (Q := R) hR h1 h2 o.type ⟨b, off, none⟩ c h3 hn
    unfold Oper.wp
    simp [execOp, hop, resolve, invoke, builtin, hs, hx, hrun, Result.andThen]
    exact hK2 _ _ (hK _ _ h4 h5 h6)
set_option maxHeartbeats 1000000 in
set_option maxRecDepth 100000 in
theorem grow_any (n : Nat) (h0 : 0 < n) (hn : n ≤ 1000000) (w : World) : Calls Tryz.prog 58 #[.slice none 0 0, .int .i64 n] w fun e w' => (∃ v, e = .returned v ∧ OwnL 0 w' [] v ∧ v.ownBlock = some w.heap.size) ∧ Below w.heap.size w w' := by
  obtain ⟨i0, hi, hz0, hz1, hz2⟩ := info_parts value_info
  obtain ⟨C, hC⟩ : ∃ C, grownCap w n 0 28 = C := ⟨_, rfl⟩
  have hge := grownCap_ge w n 0 28
  have hle := grownCap_le_maxLen w n 0 28 (by simp only [maxLen]; omega)
  have hr := fun ty => Lib.run_append_nil_zeros (P := Tryz.prog) w 26 3 ty 28 i0 _ .i64 .i64 Tryz.underlying26 Tryz.underlying3 hi hz0 n h0 (by rw [hz1]; omega) (by omega) (by rw [hz2]; omega)
  rw [hC] at hr hge hle
  have HR := Lib.hid hr
  have HO : Hid (∀ cs : Array Value, cs.size = C * 6 → OwnL 0 (w.alloc (.cells cs 28)).drew [] (.slice (some ⟨w.heap.size, 0, none⟩) 0 C)) := Lib.hid fun cs hs => own_fresh 0 w _ n C cs (Nat.zero_le _) hle hs (heap_alloc_new w _)
  have i1 : ¬ ((n : Int) < 0) := by omega
  have i2 : (0 : Int) < (n : Int) := by omega
  have i3 : (0 : Int) ≤ (C : Int) := by omega
  have i4 : ¬ (C = 0) := by omega
  have HG := Lib.hid hge
  clear hr hge hle hi hz0 hz1 hz2 hC
  go_enter Tryz.func58, Tryz.ntmps58
  go_wp2_with (at_builtin; refine Lib.wpList_append_run _ rfl _ _ _ _ rfl _ _ rfl rfl _ _ (HR.out _) ?_)
  go_ret
  exact ⟨⟨_, rfl, HO.out _ (by have := HG.out; rw [Array.size_append, zeros_size, zeros_size]; simp; omega), rfl⟩, ((Below.refl _ _).alloc (Nat.le_refl _) _).drew⟩
theorem below_grownO {B : Nat} {w0 w w' : World} {v : Value} {g : Nat} (h : Below B w0 w) (hg : w.grownBy w' v.ownBlock) (hv : v.ownBlock = some g) (hB : B ≤ g) (hs : B ≤ w.heap.size) : Below B w0 w' :=
  h.trans ⟨hg.os, hg.tape, hg.output, hg.size, fun k hk => hg.block k (by omega) (by rw [hv]; intro e; injection e with e; omega)⟩
set_option maxHeartbeats 2000000 in
set_option maxRecDepth 100000 in
theorem concat_any (g : Nat) (l m : List V) (p q : Option Addr) (cap cap2 : Nat) (w : World) (h0 : w.cell? ⟨g, 0, none⟩ = some (.slice p l.length cap)) (h1 : w.cell? ⟨g, 1, none⟩ = some (.slice q m.length cap2)) (hl : RepL (· < w.heap.size) w l (.slice p l.length cap)) (hm : RepL (· < w.heap.size) w m (.slice q m.length cap2)) (n1 : 0 < l.length) (n2 : 0 < m.length) (hn : l.length + m.length ≤ 1000000) :
    Calls Tryz.prog 38 #[.slice (some ⟨g, 0, none⟩) 2 2] w fun e w' => (∃ v, e = .returned v ∧ RepL Any w' (l ++ m) v ∧ ∃ b, v.ownBlock = some b ∧ w.heap.size ≤ b) ∧ Below w.heap.size w w' := by
  have HL := Lib.hid hl
  have HM := Lib.hid hm
  have N := Lib.hid hn
  obtain ⟨b1, o1, rfl, -, -, -⟩ := hl.free (fun e => by subst e; simp at n1)
  obtain ⟨b2, o2, rfl, -, -, -⟩ := hm.free (fun e => by subst e; simp at n2)
  have KG := Lib.hid (fun w => grow_any (l.length + m.length) (by omega) hn w)
  have C0 := Lib.hid h0
  have C1 := Lib.hid h1
  have hgs := Lib.hid (lt_of_cell h0)
  have s1 : wrap64 (l.length : Int) = (l.length : Int) := by unfold wrap64; omega
  have s2 : wrap64 ((l.length : Int) + (m.length : Int)) = ((l.length + m.length : Nat) : Int) := by unfold wrap64; omega
  have s3 : ¬ ((l.length : Int) < 0) := by omega
  have s4 : ¬ (((l.length + m.length : Nat) : Int) < 0) := by omega
  clear hl hm hn n1 n2
  go_enter Tryz.func38, Tryz.ntmps38
  go_wp2_with fail
  go_loopw [3, 11] (fun nv iv wr => ∃ (j : Nat) (z : Int), nv = .int .i64 z ∧ iv = .int .i64 j ∧ wr = w ∧ ((j = 0 ∧ z = 0) ∨ (j = 1 ∧ z = l.length) ∨ (j = 2 ∧ z = ((l.length + m.length : Nat) : Int)))) (fun _ iv _ => 2 - (intOf iv).toNat)
  case atStart => exact ⟨0, 0, rfl, rfl, rfl, .inl ⟨rfl, rfl⟩⟩
  case round =>
    obtain ⟨j, z, rfl, rfl, rfl, hc⟩ := hrel
    rcases hc with ⟨rfl, rfl⟩ | ⟨rfl, rfl⟩ | ⟨rfl, rfl⟩
    · go_wp2_with fail
      rw [s1]
      go_roundw
      case rel => exact ⟨1, _, rfl, by go_num, by first | trivial | rfl, .inr (.inl ⟨rfl, rfl⟩)⟩
      case measure => simp [intOf]
    · go_wp2_with fail
      rw [s2]
      go_roundw
      case rel => exact ⟨2, _, rfl, by go_num, by first | trivial | rfl, .inr (.inr ⟨rfl, rfl⟩)⟩
      case measure => simp [intOf]
    · go_wp2_with fail
      refine (KG.out _).mono ?_
      rintro e w1 ⟨⟨v, rfl, hO, hv⟩, hb⟩
      have HO := Lib.hid hO
      have HV := Lib.hid hv
      have HB := Lib.hid hb
      have HL1 := Lib.hid (HL.out.later hb)
      have HM1 := Lib.hid (HM.out.later hb)
      have c0 := cell_later C0.out hb
      have c1 := cell_later C1.out hb
      clear hO hv hb
      go_wp2_with fail
      clear c0 c1
      obtain ⟨W0, hW0⟩ : ∃ W, W = wr := ⟨_, rfl⟩
      subst hW0
      have HV1 : Hid (∃ b, v.ownBlock = some b ∧ W0.heap.size ≤ b) := Lib.hid ⟨_, HV.out, Nat.le_refl _⟩
      go_loopw [6, 27] (fun nv iv wx => ∃ (j : Nat) (v : Value) (L : List V), v = nv ∧ iv = .int .i64 j ∧ OwnL 0 wx L v ∧ (∃ b, v.ownBlock = some b ∧ W0.heap.size ≤ b) ∧ Below W0.heap.size W0 wx ∧ ((j = 0 ∧ L = []) ∨ (j = 1 ∧ L = l) ∨ (j = 2 ∧ L = l ++ m))) (fun _ iv _ => 2 - (intOf iv).toNat)
      case atStart => exact ⟨0, v, [], rfl, rfl, HO.out, HV1.out, HB.out, .inl ⟨rfl, rfl⟩⟩
      case round =>
        obtain ⟨j, v, L, rfl, rfl, hO2, hV2, hB2, hc⟩ := hrel
        have HO2 := Lib.hid hO2
        have HB2 := Lib.hid hB2
        have HN : Hid (∀ b, b < W0.heap.size → v.ownBlock ≠ some b) := Lib.hid fun b hb => by
          obtain ⟨b', hb', hge'⟩ := hV2
          rw [hb']; intro e; injection e with e; omega
        have c0' := True.intro
        have c1' := True.intro
        clear hO2 hB2
        rcases hc with ⟨rfl, rfl⟩ | ⟨rfl, hL⟩ | ⟨rfl, rfl⟩
        · have c0 := cell_later C0.out HB2.out
          clear c0' c1'
          go_wp2_with (at_builtin; refine wpList_append_many rfl _ _ rfl 0 [] v rfl HO2.out (Nat.zero_le _) (· < W0.heap.size) (fun b _ hq => ⟨Nat.zero_le _, HN.out b hq⟩) l b1 o1 _ cap (HL.out.later HB2.out) rfl (by have := N.out; first | omega | (simp; omega)) ?_; intro v' w' hO' hg' ho')
          have HO3 := Lib.hid hO'
          obtain ⟨b', hb', hge'⟩ := hV2
          have HV3 : Hid (∃ b, v'.ownBlock = some b ∧ W0.heap.size ≤ b) := Lib.hid (by
            rcases ho' with e | e
            · exact ⟨b', e.trans hb', hge'⟩
            · exact ⟨_, e, HB2.out.size⟩)
          have HB3 := Lib.hid (below_grownO HB2.out hg' hb' hge' HB2.out.size)
          clear hO' hg' ho'
          go_wp2_with fail
          go_roundw
          case rel => exact ⟨1, v', _, rfl, by go_num, HO3.out, HV3.out, HB3.out, .inr (.inl ⟨rfl, rfl⟩)⟩
          case measure => simp [intOf]
        · rw [hL] at HO2
          have c1 := cell_later C1.out HB2.out
          clear c0' c1'
          go_wp2_with (at_builtin; refine wpList_append_many rfl _ _ rfl 0 l v rfl HO2.out (Nat.zero_le _) (· < W0.heap.size) (fun b _ hq => ⟨Nat.zero_le _, HN.out b hq⟩) m b2 o2 _ cap2 (HM.out.later HB2.out) rfl (by have := N.out; first | omega | (simp; omega)) ?_; intro v' w' hO' hg' ho')
          have HO3 := Lib.hid hO'
          obtain ⟨b', hb', hge'⟩ := hV2
          have HV3 : Hid (∃ b, v'.ownBlock = some b ∧ W0.heap.size ≤ b) := Lib.hid (by
            rcases ho' with e | e
            · exact ⟨b', e.trans hb', hge'⟩
            · exact ⟨_, e, HB2.out.size⟩)
          have HB3 := Lib.hid (below_grownO HB2.out hg' hb' hge' HB2.out.size)
          clear hO' hg' ho'
          go_wp2_with fail
          go_roundw
          case rel => exact ⟨2, v', _, rfl, by go_num, HO3.out, HV3.out, HB3.out, .inr (.inr ⟨rfl, rfl⟩)⟩
          case measure => simp [intOf]
        · go_wp2_with fail
          go_ret
          exact ⟨⟨_, rfl, HO2.out.rep.weaken fun _ _ _ => trivial, hV2⟩, HB2.out⟩
end Go.Proofs.YtakjgjhjndiggaaGreatDoor
namespace Go.Proofs.YtakjgjhjndiggaaGreatDoor
open Go.RowKit Go.Shelf
open VM
set_option linter.unusedVariables false
set_option linter.unusedSimpArgs false

set_option maxHeartbeats 1000000 in
set_option maxRecDepth 100000 in
theorem add_truth (a b : Nd) (l m : List V) (sl sm : Value) (w : World) (hs : Small (.mk a l)) (hs2 : Small (.mk b m)) (h1 : vchk (.mk a l) = 0) (h2 : vchk (.mk b m) = 0) (hk : a.k = b.k) (hk2 : a.k = 2) (hr : RepL (· < w.heap.size) w l sl) (hr2 : RepL (· < w.heap.size) w m sm) :
    Calls Tryz.prog 16 #[.agg #[.int .u8 a.k, .int .i64 a.n, .int .i64 a.d, .bool a.t, .string a.s, sl], .agg #[.int .u8 b.k, .int .i64 b.n, .int .i64 b.d, .bool b.t, .string b.s, sm]] w fun e w' => e = .returned (.tuple #[.agg #[.int .u8 0, .int .i64 0, .int .i64 0, .bool false, .string ⟨#[]⟩, .slice none 0 0], .int .i64 20]) ∧ Below w.heap.size w w' := by
  obtain ⟨p, cap, rfl⟩ := hr.slice
  obtain ⟨p2, cap2, rfl⟩ := hr2.slice
  have KA := Lib.hid (fun w1 h h2 => checkboth_any a b l m (.slice p l.length cap) (.slice p2 m.length cap2) w1 hs hs2 h h2)
  rw [show bothE (.mk a l) (.mk b m) = 0 by unfold bothE; rw [h1, h2]; rfl] at KA
  have z0 : ((a.k : Int) != b.k) = false := by simp [bne]; exact hk
  have z1 : ((a.k : Int) == 2) = true := by rw [hk2]; rfl
  have HB : Hid (∀ o1 o2 o3 : Obj, Below w.heap.size w (((w.alloc o1).alloc o2).alloc o3)) := Lib.hid fun o1 o2 o3 => (((Below.refl _ _).alloc (Nat.le_refl _) _).alloc (by simp) _).alloc (by simp; omega) _
  have S1 : Hid (∀ o2 o3 : Obj, Six (((w.alloc (.cells #[.int .u8 a.k, .int .i64 a.n, .int .i64 a.d, .bool a.t, .string a.s, .slice p l.length cap] 28)).alloc o2).alloc o3) w.heap.size a (.slice p l.length cap)) := Lib.hid fun o2 o3 => (Six.new w a (.slice p l.length cap)).later (((Below.refl _ _).alloc (Nat.le_refl _) _).alloc (by simp) _)
  have S2 : Hid (∀ o1 o3 : Obj, Six (((w.alloc o1).alloc (.cells #[.int .u8 b.k, .int .i64 b.n, .int .i64 b.d, .bool b.t, .string b.s, .slice p2 m.length cap2] 28)).alloc o3) (w.heap.size + 1) b (.slice p2 m.length cap2)) := Lib.hid fun o1 o3 => by
    have := (Six.new (w.alloc o1) b (.slice p2 m.length cap2)).later ((Below.refl _ _).alloc (Nat.le_refl _) o3)
    rwa [World.size_alloc] at this
  have S3 : Hid (∀ o1 o2 : Obj, Six (((w.alloc o1).alloc o2).alloc (.cells #[.int .u8 0, .int .i64 0, .int .i64 0, .bool false, .string ⟨#[]⟩, .slice none 0 0] 28)) (w.heap.size + 1 + 1) ⟨0, 0, 0, false, ⟨#[]⟩⟩ (.slice none 0 0)) := Lib.hid fun o1 o2 => by
    have := Six.new ((w.alloc o1).alloc o2) ⟨0, 0, 0, false, ⟨#[]⟩⟩ (.slice none 0 0)
    rwa [World.size_alloc, World.size_alloc] at this
  have R1 := Lib.hid (fun o1 o2 o3 => hr.later (HB.out o1 o2 o3))
  have R2 := Lib.hid (fun o1 o2 o3 => hr2.later (HB.out o1 o2 o3))
  clear h1 h2 hk hk2 hr hr2 hs hs2
  go_enter Tryz.func16, Tryz.ntmps16
  go_wp2_with fail
  refine (KA.out _ (R1.out _ _ _).bound (R2.out _ _ _).bound).mono ?_
  rintro e w1 ⟨rfl, hb⟩
  have S4 := Lib.hid ((S1.out _ _).later hb)
  have S5 := Lib.hid ((S2.out _ _).later hb)
  have S6 := Lib.hid ((S3.out _ _).later hb)
  have B1 := Lib.hid ((HB.out _ _ _).trans (hb.mono (HB.out _ _ _).size))
  clear hb
  have l1 := S4.out.lt
  have q0 := S4.out.row.c0
  have q1 := S4.out.row.c1
  have q2 := S4.out.row.c2
  have q3 := S4.out.row.c3
  have q4 := S4.out.row.c4
  have q5 := S4.out.row.c5
  simp only [Nat.zero_add] at q1 q2 q3 q4 q5
  have l2 := S5.out.lt
  have g0 := S5.out.row.c0
  have g1 := S5.out.row.c1
  have g2 := S5.out.row.c2
  have g3 := S5.out.row.c3
  have g4 := S5.out.row.c4
  have g5 := S5.out.row.c5
  simp only [Nat.zero_add] at g1 g2 g3 g4 g5
  have l3 := S6.out.lt
  have h0 := S6.out.row.c0
  have h1 := S6.out.row.c1
  have h2 := S6.out.row.c2
  have h3 := S6.out.row.c3
  have h4 := S6.out.row.c4
  have h5 := S6.out.row.c5
  have f0 := S6.out.free 0
  have f1 := S6.out.free 1
  have f2 := S6.out.free 2
  have f3 := S6.out.free 3
  have f4 := S6.out.free 4
  have f5 := S6.out.free 5
  simp only [Nat.zero_add] at h1 h2 h3 h4 h5
  go_wp2_with fail
  have H6 := sixSet_six S6.out ⟨0, 0, 0, false, ⟨#[]⟩⟩ (.slice none 0 0)
  have HBw := sixSet_below (a := ⟨0, 0, 0, false, ⟨#[]⟩⟩) (sl := (.slice none 0 0)) B1.out (by omega : w.heap.size ≤ w.heap.size + 1 + 1)
  unfold sixSet at H6 HBw
  have e0 := H6.row.c0
  have e1 := H6.row.c1
  have e2 := H6.row.c2
  have e3 := H6.row.c3
  have e4 := H6.row.c4
  have e5 := H6.row.c5
  simp only [Nat.zero_add] at e1 e2 e3 e4 e5
  exact bodyPost_ret (v := .tuple #[.agg #[.int .u8 0, .int .i64 0, .int .i64 0, .bool false, .string ⟨#[]⟩, .slice none 0 0], .int .i64 20]) (by simp [results, Tryz.results16, go_sem, h0, h1, h2, h3, h4, h5, l3, e0, e1, e2, e3, e4, e5] <;> rfl) rfl ⟨rfl, HBw⟩
set_option maxHeartbeats 2000000 in
set_option maxRecDepth 100000 in
theorem add_long (s1 s2 : ByteArray) (w : World) (hz1 : s1.size ≤ 1000) (hz2 : s2.size ≤ 1000) (h1 : vchk (.mk ⟨3, 0, 0, false, s1⟩ []) = 0) (h2 : vchk (.mk ⟨3, 0, 0, false, s2⟩ []) = 0) (c : Int) (h3 : vchk (.mk ⟨3, 0, 0, false, s1 ++ s2⟩ []) = c) (hc : (c != 0) = true) :
    Calls Tryz.prog 16 #[.agg #[.int .u8 3, .int .i64 0, .int .i64 0, .bool false, .string s1, .slice none 0 0], .agg #[.int .u8 3, .int .i64 0, .int .i64 0, .bool false, .string s2, .slice none 0 0]] w fun e w' => e = .returned (.tuple #[.agg #[.int .u8 0, .int .i64 0, .int .i64 0, .bool false, .string ⟨#[]⟩, .slice none 0 0], .int .i64 4]) ∧ Below w.heap.size w w' := by
  have small : ∀ s : ByteArray, s.size ≤ 2000 → Small (.mk ⟨3, 0, 0, false, s⟩ []) := fun s h => ⟨.mk _ _ (nd_wf (by simp) (by simp) (by simp) (by simp) (by simp) (by simp) (by show s.size ≤ 20000; omega)) (by simp) (by simp), by rw [show hgt (V.mk ⟨3, 0, 0, false, s⟩ []) = 1 from (sz_leaf (by simp)).2]; omega⟩
  have hsz : (s1 ++ s2).size ≤ 2000 := by rw [ByteArray.size_append]; omega
  have KA := Lib.hid (fun w1 h h2 => checkboth_any ⟨3, 0, 0, false, s1⟩ ⟨3, 0, 0, false, s2⟩ [] [] (.slice none 0 0) (.slice none 0 0) w1 (small s1 (by omega)) (small s2 (by omega)) h h2)
  rw [show bothE (.mk ⟨3, 0, 0, false, s1⟩ []) (.mk ⟨3, 0, 0, false, s2⟩ []) = 0 by unfold bothE; rw [h1, h2]; rfl] at KA
  have KC := Lib.hid (fun w1 h => vcheck_any ⟨3, 0, 0, false, s1 ++ s2⟩ [] none 0 w1 (small _ hsz) h)
  rw [h3] at KC
  have HB : Hid (∀ o1 o2 o3 : Obj, Below w.heap.size w (((w.alloc o1).alloc o2).alloc o3)) := Lib.hid fun o1 o2 o3 => (((Below.refl _ _).alloc (Nat.le_refl _) _).alloc (by simp) _).alloc (by simp; omega) _
  have S1 : Hid (∀ o2 o3 : Obj, Six (((w.alloc (.cells #[.int .u8 (Nd.mk 3 0 0 false s1).k, .int .i64 (Nd.mk 3 0 0 false s1).n, .int .i64 (Nd.mk 3 0 0 false s1).d, .bool (Nd.mk 3 0 0 false s1).t, .string (Nd.mk 3 0 0 false s1).s, .slice none 0 0] 28)).alloc o2).alloc o3) w.heap.size ⟨3, 0, 0, false, s1⟩ (.slice none 0 0)) := Lib.hid fun o2 o3 => (Six.new w ⟨3, 0, 0, false, s1⟩ (.slice none 0 0)).later (((Below.refl _ _).alloc (Nat.le_refl _) _).alloc (by simp) _)
  have S2 : Hid (∀ o1 o3 : Obj, Six (((w.alloc o1).alloc (.cells #[.int .u8 (Nd.mk 3 0 0 false s2).k, .int .i64 (Nd.mk 3 0 0 false s2).n, .int .i64 (Nd.mk 3 0 0 false s2).d, .bool (Nd.mk 3 0 0 false s2).t, .string (Nd.mk 3 0 0 false s2).s, .slice none 0 0] 28)).alloc o3) (w.heap.size + 1) ⟨3, 0, 0, false, s2⟩ (.slice none 0 0)) := Lib.hid fun o1 o3 => by
    have := (Six.new (w.alloc o1) ⟨3, 0, 0, false, s2⟩ (.slice none 0 0)).later ((Below.refl _ _).alloc (Nat.le_refl _) o3)
    rwa [World.size_alloc] at this
  have S3 : Hid (∀ o1 o2 : Obj, Six (((w.alloc o1).alloc o2).alloc (.cells #[.int .u8 0, .int .i64 0, .int .i64 0, .bool false, .string ⟨#[]⟩, .slice none 0 0] 28)) (w.heap.size + 1 + 1) ⟨0, 0, 0, false, ⟨#[]⟩⟩ (.slice none 0 0)) := Lib.hid fun o1 o2 => by
    have := Six.new ((w.alloc o1).alloc o2) ⟨0, 0, 0, false, ⟨#[]⟩⟩ (.slice none 0 0)
    rwa [World.size_alloc, World.size_alloc] at this
  have hm : s1.size + s2.size ≤ 9223372036854775807 := by omega
  have hm2 : (s1.size : Int) + (s2.size : Int) ≤ 9223372036854775807 := by omega
  have hcat : ∀ w2 : World, (Op.stringOp .add s1 s2).run Tryz.prog w2 = .ok (.string (s1 ++ s2)) w2 := fun w2 => by apply run_string_add_sum; exact hm
  dsimp only at KA KC S1 S2
  clear h1 h2 h3 small
  go_enter Tryz.func16, Tryz.ntmps16
  go_wp2_with fail
  refine (KA.out _ (RepL.nil _ _ _ _) (RepL.nil _ _ _ _)).mono ?_
  rintro e w1 ⟨rfl, hb⟩
  have S4 := Lib.hid ((S1.out _ _).later hb)
  have S5 := Lib.hid ((S2.out _ _).later hb)
  have S6 := Lib.hid ((S3.out _ _).later hb)
  have B1 := Lib.hid ((HB.out _ _ _).trans (hb.mono (HB.out _ _ _).size))
  clear hb S1 S2 S3 HB
  have l1 := S4.out.lt
  have q0 := S4.out.row.c0
  have q1 := S4.out.row.c1
  have q2 := S4.out.row.c2
  have q3 := S4.out.row.c3
  have q4 := S4.out.row.c4
  have q5 := S4.out.row.c5
  simp only [Nat.zero_add] at q1 q2 q3 q4 q5
  have l2 := S5.out.lt
  have g0 := S5.out.row.c0
  have g1 := S5.out.row.c1
  have g2 := S5.out.row.c2
  have g3 := S5.out.row.c3
  have g4 := S5.out.row.c4
  have g5 := S5.out.row.c5
  simp only [Nat.zero_add] at g1 g2 g3 g4 g5
  dsimp only at q0 q1 q2 q3 q4 q5 g0 g1 g2 g3 g4 g5
  go_wp2_with fail
  go_region_held3 (fun w' => w'.cell? ⟨w.heap.size, 0, none⟩ = some (.int .u8 3) ∧ w'.cell? ⟨w.heap.size, 4, none⟩ = some (.string s1) ∧ w'.cell? ⟨w.heap.size, 5, none⟩ = some (.slice none 0 0) ∧ w'.cell? ⟨w.heap.size + 1, 4, none⟩ = some (.string s2) ∧ w'.cell? ⟨w.heap.size + 1, 5, none⟩ = some (.slice none 0 0)) (go_keep) (first | (go_at_call 38; refine (concat_nil _ _ (by (simp only [drew_cell, drew_size, World.size_alloc]; first | (rw [World.cell?_alloc_at _ _ _ _ (by simp [drew_size])]; rfl) | (rw [World.cell?_alloc_past _ _ _ (by simp [drew_size]), drew_cell, World.cell?_alloc_at _ _ _ _ (by simp [drew_size])]; rfl) | (rw [World.cell?_alloc_past _ _ _ (by simp [drew_size]), World.cell?_alloc_at _ _ _ _ (by simp [drew_size])]; rfl))) (by (simp only [drew_cell, drew_size, World.size_alloc]; first | (rw [World.cell?_alloc_at _ _ _ _ (by simp [drew_size])]; rfl) | (rw [World.cell?_alloc_past _ _ _ (by simp [drew_size]), drew_cell, World.cell?_alloc_at _ _ _ _ (by simp [drew_size])]; rfl) | (rw [World.cell?_alloc_past _ _ _ (by simp [drew_size]), World.cell?_alloc_at _ _ _ _ (by simp [drew_size])]; rfl)))).mono ?_; rintro e w' ⟨rfl, rfl⟩))
  all_goals go_wp2_with fail
  all_goals
    refine (KC.out _ (RepL.nil _ _ _ _)).mono ?_
    rintro e w2 ⟨rfl, hb⟩
    have HW : Hid (Below w1.heap.size w1 w2) := Lib.hid (by repeat (first | exact Below.refl _ _ | refine below_chain ?_ hb | refine below_chain ?_ ((Below.refl _ _).alloc (Nat.le_refl _) _) | refine below_chain ?_ (Below.refl _ _).drew))
    first
    | have S7 := Lib.hid (Six.later (six_a w1 ⟨3, 0, 0, false, s1 ++ s2⟩ (.slice none 0 0) _) hb)
    | have S7 := Lib.hid (Six.later (six_b w1 ⟨3, 0, 0, false, s1 ++ s2⟩ (.slice none 0 0) _) hb)
    have B2 := Lib.hid (B1.out.trans (HW.out.mono B1.out.size))
    have S8 := Lib.hid (S6.out.later HW.out)
    clear hb l1 q0 q1 q2 q3 q4 q5 l2 g0 g1 g2 g3 g4 g5
    have l1 := S7.out.lt
    have q0 := S7.out.row.c0
    have q1 := S7.out.row.c1
    have q2 := S7.out.row.c2
    have q3 := S7.out.row.c3
    have q4 := S7.out.row.c4
    have q5 := S7.out.row.c5
    simp only [Nat.zero_add] at q1 q2 q3 q4 q5
    have S9 := Lib.hid S8.out
    have B3 := Lib.hid B2.out
    have l3 := S9.out.lt
    have h0 := S9.out.row.c0
    have h1 := S9.out.row.c1
    have h2 := S9.out.row.c2
    have h3 := S9.out.row.c3
    have h4 := S9.out.row.c4
    have h5 := S9.out.row.c5
    have f0 := S9.out.free 0
    have f1 := S9.out.free 1
    have f2 := S9.out.free 2
    have f3 := S9.out.free 3
    have f4 := S9.out.free 4
    have f5 := S9.out.free 5
    simp only [Nat.zero_add] at h1 h2 h3 h4 h5
    go_wp2_with fail
    have H6 := sixSet_six S9.out ⟨0, 0, 0, false, ⟨#[]⟩⟩ (.slice none 0 0)
    have HBw := sixSet_below (a := ⟨0, 0, 0, false, ⟨#[]⟩⟩) (sl := (.slice none 0 0)) B3.out (by omega : w.heap.size ≤ w.heap.size + 1 + 1)
    unfold sixSet at H6 HBw
    have e0 := H6.row.c0
    have e1 := H6.row.c1
    have e2 := H6.row.c2
    have e3 := H6.row.c3
    have e4 := H6.row.c4
    have e5 := H6.row.c5
    simp only [Nat.zero_add] at e1 e2 e3 e4 e5
    exact bodyPost_ret (v := .tuple #[.agg #[.int .u8 0, .int .i64 0, .int .i64 0, .bool false, .string ⟨#[]⟩, .slice none 0 0], .int .i64 4]) (by simp [results, Tryz.results16, go_sem, h0, h1, h2, h3, h4, h5, l3, e0, e1, e2, e3, e4, e5] <;> rfl) rfl ⟨rfl, HBw⟩
end Go.Proofs.YtakjgjhjndiggaaGreatDoor
namespace Go.Proofs.YtakjgjhjndiggaaGreatDoor
open Go.RowKit Go.Shelf
open VM
set_option linter.unusedVariables false
set_option linter.unusedSimpArgs false

theorem rep_leaf {Q : Nat → Prop} {w : World} {L : List V} {v : Value} (h : RepL Q w L v) (hl : ∀ x ∈ L, x.list = []) : RepL (fun b => v.ownBlock = some b) w L v := by
  cases h with
  | mk p cap l S hp hr =>
    refine .mk p cap L S (fun hne => ?_) (fun i hi => ?_)
    · obtain ⟨b, off, rfl, -, hz, hrow⟩ := hp hne
      exact ⟨b, off, rfl, rfl, hz, hrow⟩
    · have h1 := hr i hi
      have e := hl L[i] (List.getElem_mem hi)
      rw [e] at h1 ⊢
      obtain ⟨p2, cap2, e2⟩ := h1.slice
      rw [e2]; exact RepL.nil _ _ _ _
theorem six_z1 {w w' : World} {o : Obj} (hb : Below ((w.alloc (.cells #[.int .u8 0, .int .i64 0, .int .i64 0, .bool false, .string ⟨#[]⟩, .slice none 0 0] 28)).alloc o).drew.heap.size ((w.alloc (.cells #[.int .u8 0, .int .i64 0, .int .i64 0, .bool false, .string ⟨#[]⟩, .slice none 0 0] 28)).alloc o).drew w') : Six w' w.heap.size ⟨0, 0, 0, false, ⟨#[]⟩⟩ (.slice none 0 0) :=
  Six.later (six_b w ⟨0, 0, 0, false, ⟨#[]⟩⟩ (.slice none 0 0) o) hb
theorem six_z2 {w w' : World} {o : Obj} (hb : Below ((w.alloc o).alloc (.cells #[.int .u8 0, .int .i64 0, .int .i64 0, .bool false, .string ⟨#[]⟩, .slice none 0 0] 28)).drew.heap.size ((w.alloc o).alloc (.cells #[.int .u8 0, .int .i64 0, .int .i64 0, .bool false, .string ⟨#[]⟩, .slice none 0 0] 28)).drew w') : Six w' (w.heap.size + 1) ⟨0, 0, 0, false, ⟨#[]⟩⟩ (.slice none 0 0) :=
  Six.later (six_a w ⟨0, 0, 0, false, ⟨#[]⟩⟩ (.slice none 0 0) o) hb
theorem six_below {B : Nat} {w0 w : World} {g : Nat} {a b c d e f : Value} (h : Below B w0 w) (hg : B ≤ g) : Below B w0 ((((((w.setCell ⟨g, 0, none⟩ a).setCell ⟨g, 1, none⟩ b).setCell ⟨g, 2, none⟩ c).setCell ⟨g, 3, none⟩ d).setCell ⟨g, 4, none⟩ e).setCell ⟨g, 5, none⟩ f) :=
  (((((h.setCell (p := ⟨g, 0, none⟩) hg _).setCell (p := ⟨g, 1, none⟩) hg _).setCell (p := ⟨g, 2, none⟩) hg _).setCell (p := ⟨g, 3, none⟩) hg _).setCell (p := ⟨g, 4, none⟩) hg _).setCell (p := ⟨g, 5, none⟩) hg _
theorem hcat_nil (w2 : World) : (Op.stringOp .add ⟨#[]⟩ ⟨#[]⟩).run Tryz.prog w2 = .ok (.string ⟨#[]⟩) w2 := by
  have h := run_string_add_sum (P := Tryz.prog) (w := w2) ⟨#[]⟩ ⟨#[]⟩ (by decide)
  rw [show (⟨#[]⟩ ++ ⟨#[]⟩ : ByteArray) = ⟨#[]⟩ by decide +kernel] at h
  exact h
set_option maxHeartbeats 4000000 in
set_option maxRecDepth 100000 in
theorem add_many (l m : List V) (p q : Option Addr) (cap cap2 : Nat) (c : Int) (w : World) (hs : Small (.mk ⟨4, 0, 0, false, ⟨#[]⟩⟩ l)) (hs2 : Small (.mk ⟨4, 0, 0, false, ⟨#[]⟩⟩ m)) (hs3 : Small (.mk ⟨4, 0, 0, false, ⟨#[]⟩⟩ (l ++ m))) (h1 : vchk (.mk ⟨4, 0, 0, false, ⟨#[]⟩⟩ l) = 0) (h2 : vchk (.mk ⟨4, 0, 0, false, ⟨#[]⟩⟩ m) = 0) (h3 : vchk (.mk ⟨4, 0, 0, false, ⟨#[]⟩⟩ (l ++ m)) = c) (hc : (c != 0) = true) (hleaf : ∀ x ∈ l ++ m, x.list = []) (n1 : 0 < l.length) (n2 : 0 < m.length) (hn : l.length + m.length ≤ 1000000) (hr : RepL (· < w.heap.size) w l (.slice p l.length cap)) (hr2 : RepL (· < w.heap.size) w m (.slice q m.length cap2)) :
    Calls Tryz.prog 16 #[.agg #[.int .u8 4, .int .i64 0, .int .i64 0, .bool false, .string ⟨#[]⟩, .slice p l.length cap], .agg #[.int .u8 4, .int .i64 0, .int .i64 0, .bool false, .string ⟨#[]⟩, .slice q m.length cap2]] w fun e w' => e = .returned (.tuple #[.agg #[.int .u8 0, .int .i64 0, .int .i64 0, .bool false, .string ⟨#[]⟩, .slice none 0 0], .int .i64 4]) ∧ Below w.heap.size w w' := by
  have KA := Lib.hid (fun w1 h h2 => checkboth_any ⟨4, 0, 0, false, ⟨#[]⟩⟩ ⟨4, 0, 0, false, ⟨#[]⟩⟩ l m (.slice p l.length cap) (.slice q m.length cap2) w1 hs hs2 h h2)
  rw [show bothE (.mk ⟨4, 0, 0, false, ⟨#[]⟩⟩ l) (.mk ⟨4, 0, 0, false, ⟨#[]⟩⟩ m) = 0 by unfold bothE; rw [h1, h2]; rfl] at KA
  have KC := Lib.hid (fun (p : Option Addr) (cap : Nat) w1 h => vcheck_any ⟨4, 0, 0, false, ⟨#[]⟩⟩ (l ++ m) p cap w1 hs3 h)
  rw [h3] at KC
  have HB : Hid (∀ o1 o2 o3 : Obj, Below w.heap.size w (((w.alloc o1).alloc o2).alloc o3)) := Lib.hid fun o1 o2 o3 => (((Below.refl _ _).alloc (Nat.le_refl _) _).alloc (by simp) _).alloc (by simp; omega) _
  have S1 : Hid (∀ o2 o3 : Obj, Six (((w.alloc (.cells #[.int .u8 (Nd.mk 4 0 0 false ⟨#[]⟩).k, .int .i64 (Nd.mk 4 0 0 false ⟨#[]⟩).n, .int .i64 (Nd.mk 4 0 0 false ⟨#[]⟩).d, .bool (Nd.mk 4 0 0 false ⟨#[]⟩).t, .string (Nd.mk 4 0 0 false ⟨#[]⟩).s, .slice p l.length cap] 28)).alloc o2).alloc o3) w.heap.size ⟨4, 0, 0, false, ⟨#[]⟩⟩ (.slice p l.length cap)) := Lib.hid fun o2 o3 => (Six.new w ⟨4, 0, 0, false, ⟨#[]⟩⟩ (.slice p l.length cap)).later (((Below.refl _ _).alloc (Nat.le_refl _) _).alloc (by simp) _)
  have S2 : Hid (∀ o1 o3 : Obj, Six (((w.alloc o1).alloc (.cells #[.int .u8 (Nd.mk 4 0 0 false ⟨#[]⟩).k, .int .i64 (Nd.mk 4 0 0 false ⟨#[]⟩).n, .int .i64 (Nd.mk 4 0 0 false ⟨#[]⟩).d, .bool (Nd.mk 4 0 0 false ⟨#[]⟩).t, .string (Nd.mk 4 0 0 false ⟨#[]⟩).s, .slice q m.length cap2] 28)).alloc o3) (w.heap.size + 1) ⟨4, 0, 0, false, ⟨#[]⟩⟩ (.slice q m.length cap2)) := Lib.hid fun o1 o3 => by
    have := (Six.new (w.alloc o1) ⟨4, 0, 0, false, ⟨#[]⟩⟩ (.slice q m.length cap2)).later ((Below.refl _ _).alloc (Nat.le_refl _) o3)
    rwa [World.size_alloc] at this
  have S3 : Hid (∀ o1 o2 : Obj, Six (((w.alloc o1).alloc o2).alloc (.cells #[.int .u8 0, .int .i64 0, .int .i64 0, .bool false, .string ⟨#[]⟩, .slice none 0 0] 28)) (w.heap.size + 1 + 1) ⟨0, 0, 0, false, ⟨#[]⟩⟩ (.slice none 0 0)) := Lib.hid fun o1 o2 => by
    have := Six.new ((w.alloc o1).alloc o2) ⟨0, 0, 0, false, ⟨#[]⟩⟩ (.slice none 0 0)
    rwa [World.size_alloc, World.size_alloc] at this
  have R1 := Lib.hid (fun o1 o2 o3 => hr.later (HB.out o1 o2 o3))
  have R2 := Lib.hid (fun o1 o2 o3 => hr2.later (HB.out o1 o2 o3))
  have hcat := fun w2 => hcat_nil w2
  have HLf := Lib.hid hleaf
  have HN1 := Lib.hid n1
  have HN2 := Lib.hid n2
  have HN := Lib.hid hn
  dsimp only at KA KC S1 S2
  clear h1 h2 h3 hs hs2 hs3 hr hr2 hleaf n1 n2 hn
  go_enter Tryz.func16, Tryz.ntmps16
  go_wp2_with fail
  refine (KA.out _ (R1.out _ _ _).bound (R2.out _ _ _).bound).mono ?_
  rintro e w1 ⟨rfl, hb⟩
  have S4 := Lib.hid ((S1.out _ _).later hb)
  have S5 := Lib.hid ((S2.out _ _).later hb)
  have S6 := Lib.hid ((S3.out _ _).later hb)
  have R4 := Lib.hid ((R1.out _ _ _).later hb)
  have R5 := Lib.hid ((R2.out _ _ _).later hb)
  have B1 := Lib.hid ((HB.out _ _ _).trans (hb.mono (HB.out _ _ _).size))
  clear hb S1 S2 S3 HB R1 R2 KA
  have q0 := S4.out.row.c0
  have q1 := S4.out.row.c1
  have q2 := S4.out.row.c2
  have q3 := S4.out.row.c3
  have q4 := S4.out.row.c4
  have q5 := S4.out.row.c5
  have l1 := S4.out.lt
  simp only [Nat.zero_add] at q1 q2 q3 q4 q5
  have g0 := S5.out.row.c0
  have g1 := S5.out.row.c1
  have g2 := S5.out.row.c2
  have g3 := S5.out.row.c3
  have g4 := S5.out.row.c4
  have g5 := S5.out.row.c5
  have l2 := S5.out.lt
  simp only [Nat.zero_add] at g1 g2 g3 g4 g5
  dsimp only at q0 q1 q2 q3 q4 q5 g0 g1 g2 g3 g4 g5
  have RL : Hid (∀ W, Below w1.heap.size w1 W → RepL (· < W.heap.size) W l (.slice p l.length cap)) := Lib.hid fun W hb => (R4.out.later hb).bound
  have RM : Hid (∀ W, Below w1.heap.size w1 W → RepL (· < W.heap.size) W m (.slice q m.length cap2)) := Lib.hid fun W hb => (R5.out.later hb).bound
  go_upto_region 9 with fail
  go_cut [7] from 40 to 53 (fun s7 wx => ∃ G pv n cv, s7 = .pointer (some ⟨G, 0, none⟩) ∧ w1.heap.size ≤ G ∧ Six wx G ⟨4, 0, 0, false, ⟨#[]⟩⟩ (.slice pv n cv) ∧ RepL (· < wx.heap.size) wx (l ++ m) (.slice pv n cv) ∧ Below w1.heap.size w1 wx)
  case first =>
    go_region_held3 (fun w' => (∀ o, w'.cell? ⟨w.heap.size, o, none⟩ = w1.cell? ⟨w.heap.size, o, none⟩) ∧ (∀ o, w'.cell? ⟨w.heap.size + 1, o, none⟩ = w1.cell? ⟨w.heap.size + 1, o, none⟩)) ((refine keep2 l1 l2 ?_; first | ((with_reducible apply six_below); (focus (with_reducible (repeat (first | exact Below.refl _ _ | refine below_chain ?_ (Hid.out (by assumption)) | refine below_chain ?_ ((Below.refl _ _).alloc (Nat.le_refl _) _) | refine below_chain ?_ (Below.refl _ _).drew)); done)); omega) | (focus (with_reducible (repeat (first | exact Below.refl _ _ | refine below_chain ?_ (Hid.out (by assumption)) | refine below_chain ?_ ((Below.refl _ _).alloc (Nat.le_refl _) _) | refine below_chain ?_ (Below.refl _ _).drew)); done)))) (first
      | (go_at_call 38
         with_reducible refine (concat_any _ l m p q cap cap2 _ ?_ ?_ (RL.out _ (by with_reducible (repeat (first | exact Below.refl _ _ | refine below_chain ?_ (Hid.out (by assumption)) | refine below_chain ?_ ((Below.refl _ _).alloc (Nat.le_refl _) _) | refine below_chain ?_ (Below.refl _ _).drew)))) (RM.out _ (by with_reducible (repeat (first | exact Below.refl _ _ | refine below_chain ?_ (Hid.out (by assumption)) | refine below_chain ?_ ((Below.refl _ _).alloc (Nat.le_refl _) _) | refine below_chain ?_ (Below.refl _ _).drew)))) HN1.out HN2.out HN.out).mono ?_
         (focus ((simp only [drew_cell, drew_size, World.size_alloc]; first | (rw [World.cell?_alloc_at _ _ _ _ (by simp [drew_size])]; rfl) | (rw [World.cell?_alloc_past _ _ _ (by simp [drew_size]), drew_cell, World.cell?_alloc_at _ _ _ _ (by simp [drew_size])]; rfl) | (rw [World.cell?_alloc_past _ _ _ (by simp [drew_size]), World.cell?_alloc_at _ _ _ _ (by simp [drew_size])]; rfl)); done))
         (focus ((simp only [drew_cell, drew_size, World.size_alloc]; first | (rw [World.cell?_alloc_at _ _ _ _ (by simp [drew_size])]; rfl) | (rw [World.cell?_alloc_past _ _ _ (by simp [drew_size]), drew_cell, World.cell?_alloc_at _ _ _ _ (by simp [drew_size])]; rfl) | (rw [World.cell?_alloc_past _ _ _ (by simp [drew_size]), World.cell?_alloc_at _ _ _ _ (by simp [drew_size])]; rfl)); done))
         rintro e w' ⟨⟨v, rfl, hv, b', hvb, hge⟩, hb⟩
         obtain ⟨pv, cv, rfl⟩ := hv.slice
         obtain ⟨n, hn⟩ : ∃ n, n = (l ++ m).length := ⟨_, rfl⟩
         rw [← hn] at hv hvb ⊢
         have RV : Hid (RepL (· = b') w' (l ++ m) (.slice pv n cv)) := Lib.hid ((rep_leaf hv HLf.out).weaken fun b _ h => by rw [hvb] at h; injection h with h; exact h.symm)
         have hz : w1.heap.size ≤ w'.heap.size := (by have := hb.size; (try simp only [World.size_alloc, World.size_drew] at this); omega)
         (try simp only [World.size_alloc, World.size_drew] at hge)
         (first
           | (have N : Six w' w1.heap.size ⟨0, 0, 0, false, ⟨#[]⟩⟩ (.slice none 0 0) := ?_; rotate_left; (focus (with_reducible (apply six_z1 (w := w1); assumption); done)); have N' := Lib.hid N; have z0 := N.row.c0; have z1 := N.row.c1; have z2 := N.row.c2; have z3 := N.row.c3; have z4 := N.row.c4; have z5 := N.row.c5; have f0 := N.free 0; have f1 := N.free 1; have f2 := N.free 2; have f3 := N.free 3; have f4 := N.free 4; have f5 := N.free 5; have zl := N.lt; (simp only [Nat.zero_add] at z1 z2 z3 z4 z5); clear N)
           | (have N : Six w' (w1.heap.size + 1) ⟨0, 0, 0, false, ⟨#[]⟩⟩ (.slice none 0 0) := ?_; rotate_left; (focus (with_reducible (apply six_z2 (w := w1); assumption); done)); have N' := Lib.hid N; have z0 := N.row.c0; have z1 := N.row.c1; have z2 := N.row.c2; have z3 := N.row.c3; have z4 := N.row.c4; have z5 := N.row.c5; have f0 := N.free 0; have f1 := N.free 1; have f2 := N.free 2; have f3 := N.free 3; have f4 := N.free 4; have f5 := N.free 5; have zl := N.lt; (simp only [Nat.zero_add] at z1 z2 z3 z4 z5); clear N)
           | skip)
         replace hb := Lib.hid hb
         replace hge := Lib.hid hge
         clear hv hvb hn))
    all_goals go_wp2_with fail
    all_goals go_meet
    · exact ⟨_, pv, n, cv, rfl, hz, Six.new w' ⟨4, 0, 0, false, ⟨#[]⟩⟩ (.slice pv n cv), (RV.out.later ((Below.refl _ _).alloc (Nat.le_refl _) _)).bound, (by with_reducible (repeat (first | exact Below.refl _ _ | refine below_chain ?_ (Hid.out (by assumption)) | refine below_chain ?_ ((Below.refl _ _).alloc (Nat.le_refl _) _) | refine below_chain ?_ (Below.refl _ _).drew)))⟩
    · exact ⟨_, pv, n, cv, rfl, by omega, sixSet_six (Hid.out (by assumption)) ⟨4, 0, 0, false, ⟨#[]⟩⟩ (.slice pv n cv), (RV.out.carry (Q' := Any) fun b hb hq => ⟨trivial, sixSet_heap ⟨4, 0, 0, false, ⟨#[]⟩⟩ (.slice pv n cv) (by have := hge.out; omega)⟩).bound, six_below (by with_reducible (repeat (first | exact Below.refl _ _ | refine below_chain ?_ (Hid.out (by assumption)) | refine below_chain ?_ ((Below.refl _ _).alloc (Nat.le_refl _) _) | refine below_chain ?_ (Below.refl _ _).drew))) (by omega)⟩
    · exact ⟨_, pv, n, cv, rfl, by omega, sixSet_six (Hid.out (by assumption)) ⟨4, 0, 0, false, ⟨#[]⟩⟩ (.slice pv n cv), (RV.out.carry (Q' := Any) fun b hb hq => ⟨trivial, sixSet_heap ⟨4, 0, 0, false, ⟨#[]⟩⟩ (.slice pv n cv) (by have := hge.out; omega)⟩).bound, six_below (by with_reducible (repeat (first | exact Below.refl _ _ | refine below_chain ?_ (Hid.out (by assumption)) | refine below_chain ?_ ((Below.refl _ _).alloc (Nat.le_refl _) _) | refine below_chain ?_ (Below.refl _ _).drew))) (by omega)⟩
  case rest =>
    obtain ⟨G, pv, n, cv, rfl, hG, hF, hRp, hb⟩ := hcut
    obtain rfl := hRp.len
    have SF := Lib.hid hF
    have SR := Lib.hid hRp
    have S7 := Lib.hid (S6.out.later hb)
    have B2 := Lib.hid (B1.out.trans (hb.mono B1.out.size))
    have HC := Lib.hid (KC.out pv cv wc hRp)
    clear hF hRp hb q0 q1 q2 q3 q4 q5 g0 g1 g2 g3 g4 g5 l1 l2 RL RM S4 S5 R4 R5 KC
    generalize (l ++ m).length = n at *
    have q0 := SF.out.row.c0
    have q1 := SF.out.row.c1
    have q2 := SF.out.row.c2
    have q3 := SF.out.row.c3
    have q4 := SF.out.row.c4
    have q5 := SF.out.row.c5
    have l1 := SF.out.lt
    simp only [Nat.zero_add] at q1 q2 q3 q4 q5
    dsimp only at q0 q1 q2 q3 q4 q5
    go_wp2_with fail
    refine HC.out.mono ?_
    rintro e w2 ⟨rfl, hb2⟩
    have S9 := Lib.hid (S7.out.later hb2)
    have B3 := Lib.hid (B2.out.trans (hb2.mono B2.out.size))
    clear hb2 q0 q1 q2 q3 q4 q5 l1
    have h0 := S9.out.row.c0
    have h1 := S9.out.row.c1
    have h2 := S9.out.row.c2
    have h3 := S9.out.row.c3
    have h4 := S9.out.row.c4
    have h5 := S9.out.row.c5
    have l3 := S9.out.lt
    simp only [Nat.zero_add] at h1 h2 h3 h4 h5
    have f0 := S9.out.free 0
    have f1 := S9.out.free 1
    have f2 := S9.out.free 2
    have f3 := S9.out.free 3
    have f4 := S9.out.free 4
    have f5 := S9.out.free 5
    go_wp2_with fail
    have H6 := sixSet_six S9.out ⟨0, 0, 0, false, ⟨#[]⟩⟩ (.slice none 0 0)
    have HBw := sixSet_below (a := ⟨0, 0, 0, false, ⟨#[]⟩⟩) (sl := (.slice none 0 0)) B3.out (by omega : w.heap.size ≤ w.heap.size + 1 + 1)
    unfold sixSet at H6 HBw
    have e0 := H6.row.c0
    have e1 := H6.row.c1
    have e2 := H6.row.c2
    have e3 := H6.row.c3
    have e4 := H6.row.c4
    have e5 := H6.row.c5
    simp only [Nat.zero_add] at e1 e2 e3 e4 e5
    exact bodyPost_ret (v := .tuple #[.agg #[.int .u8 0, .int .i64 0, .int .i64 0, .bool false, .string ⟨#[]⟩, .slice none 0 0], .int .i64 4]) (by simp [results, Tryz.results16, go_sem, h0, h1, h2, h3, h4, h5, l3, e0, e1, e2, e3, e4, e5] <;> rfl) rfl ⟨rfl, HBw⟩
end Go.Proofs.YtakjgjhjndiggaaGreatDoor
namespace Go.Proofs.YtakjgjhjndiggaaGreatDoor
open Go.RowKit Go.Shelf
open VM
set_option linter.unusedVariables false
set_option linter.unusedSimpArgs false

def manyL (j : Nat) : List V := List.replicate j (numV' 0 1)
theorem ref_l12 (w : World) (ht : Tab w) (hl : Len w) : Calls Tryz.prog 9 #[.string ⟨#[91, 49, 44, 50, 93]⟩] w fun e w' => e = .returned (.bool true) ∧ Below w.heap.size w w' := refused_any ⟨#[91, 49, 44, 50, 93]⟩ no_l12 w ht hl
theorem ref_01 (w : World) (ht : Tab w) (hl : Len w) : Calls Tryz.prog 9 #[.string ⟨#[48, 49]⟩] w fun e w' => e = .returned (.bool true) ∧ Below w.heap.size w w' := refused_any ⟨#[48, 49]⟩ no_01 w ht hl
theorem ref_qa (w : World) (ht : Tab w) (hl : Len w) : Calls Tryz.prog 9 #[.string ⟨#[34, 97]⟩] w fun e w' => e = .returned (.bool true) ∧ Below w.heap.size w w' := refused_any ⟨#[34, 97]⟩ no_qa w ht hl
theorem ref_0 (w : World) (ht : Tab w) (hl : Len w) : Calls Tryz.prog 9 #[.string ⟨#[]⟩] w fun e w' => e = .returned (.bool true) ∧ Below w.heap.size w w' := refused_any ⟨#[]⟩ no_0 w ht hl
theorem ref_True (w : World) (ht : Tab w) (hl : Len w) : Calls Tryz.prog 9 #[.string ⟨#[84, 114, 117, 101]⟩] w fun e w' => e = .returned (.bool true) ∧ Below w.heap.size w w' := refused_any ⟨#[84, 114, 117, 101]⟩ no_True w ht hl
theorem ref_l1c (w : World) (ht : Tab w) (hl : Len w) : Calls Tryz.prog 9 #[.string ⟨#[91, 49, 44, 32, 93]⟩] w fun e w' => e = .returned (.bool true) ∧ Below w.heap.size w w' := refused_any ⟨#[91, 49, 44, 32, 93]⟩ no_l1c w ht hl
theorem ref_lsp (w : World) (ht : Tab w) (hl : Len w) : Calls Tryz.prog 9 #[.string ⟨#[91, 32, 93]⟩] w fun e w' => e = .returned (.bool true) ∧ Below w.heap.size w w' := refused_any ⟨#[91, 32, 93]⟩ no_lsp w ht hl
theorem ref_qn (w : World) (ht : Tab w) (hl : Len w) : Calls Tryz.prog 9 #[.string ⟨#[34, 92, 110, 34]⟩] w fun e w' => e = .returned (.bool true) ∧ Below w.heap.size w w' := refused_any ⟨#[34, 92, 110, 34]⟩ no_qn w ht hl
theorem ref_qq (w : World) (ht : Tab w) (hl : Len w) : Calls Tryz.prog 9 #[.string ⟨#[34, 92, 34]⟩] w fun e w' => e = .returned (.bool true) ∧ Below w.heap.size w w' := refused_any ⟨#[34, 92, 34]⟩ no_qq w ht hl
theorem ref_sp1 (w : World) (ht : Tab w) (hl : Len w) : Calls Tryz.prog 9 #[.string ⟨#[32, 49]⟩] w fun e w' => e = .returned (.bool true) ∧ Below w.heap.size w w' := refused_any ⟨#[32, 49]⟩ no_sp1 w ht hl
theorem ref_1sp (w : World) (ht : Tab w) (hl : Len w) : Calls Tryz.prog 9 #[.string ⟨#[49, 32]⟩] w fun e w' => e = .returned (.bool true) ∧ Below w.heap.size w w' := refused_any ⟨#[49, 32]⟩ no_1sp w ht hl
theorem ref_seven (w : World) (ht : Tab w) (hl : Len w) : Calls Tryz.prog 9 #[.string ⟨#[91, 91, 91, 91, 91, 91, 91, 93, 93, 93, 93, 93, 93, 93]⟩] w fun e w' => e = .returned (.bool true) ∧ Below w.heap.size w w' := refused_any ⟨#[91, 91, 91, 91, 91, 91, 91, 93, 93, 93, 93, 93, 93, 93]⟩ no_seven w ht hl
theorem ref_24 (w : World) (ht : Tab w) (hl : Len w) : Calls Tryz.prog 9 #[.string ⟨#[50, 47, 52]⟩] w fun e w' => e = .returned (.bool true) ∧ Below w.heap.size w w' := refused_any ⟨#[50, 47, 52]⟩ no_24 w ht hl
theorem ref_l1 (w : World) (ht : Tab w) (hl : Len w) : Calls Tryz.prog 9 #[.string ⟨#[91, 49]⟩] w fun e w' => e = .returned (.bool true) ∧ Below w.heap.size w w' := refused_any ⟨#[91, 49]⟩ no_l1 w ht hl
theorem ref_nil (w : World) (ht : Tab w) (hl : Len w) : Calls Tryz.prog 9 #[.string ⟨#[110, 105, 108]⟩] w fun e w' => e = .returned (.bool true) ∧ Below w.heap.size w w' := refused_any ⟨#[110, 105, 108]⟩ no_nil w ht hl
theorem small_lf {a : Nd} (h : a.s.size ≤ 20000) (k0 : 0 ≤ a.k) (k1 : a.k ≤ 255) (n0 : -9223372036854775808 ≤ a.n) (n1 : a.n ≤ 9223372036854775807) (d0 : -9223372036854775808 ≤ a.d) (d1 : a.d ≤ 9223372036854775807) : Small (.mk a []) := ⟨.mk _ _ ⟨k0, k1, n0, n1, d0, d1, h⟩ (by simp) (by simp), by rw [hgt_eq]; simp [hgtL]⟩
theorem rd_neg (w : World) (ht : Tab w) (hl : Len w) : Calls Tryz.prog 10 #[.string ⟨#[45, 55, 47, 51]⟩, .agg #[.int .u8 1, .int .i64 (-7), .int .i64 3, .bool false, .string ⟨#[]⟩, .slice none 0 0]] w fun e w' => e = .returned (.bool true) ∧ Below w.heap.size w w' :=
  reads_any _ ⟨1, (-7), 3, false, ⟨#[]⟩⟩ [] (.slice none 0 0) w (by decide +kernel) (by decide +kernel) (by decide +kernel) (small_lf (by decide) (by decide) (by decide) (by decide) (by decide) (by decide) (by decide)) (RepL.nil _ _ _ _) ht hl
theorem rd_em (w : World) (ht : Tab w) (hl : Len w) : Calls Tryz.prog 10 #[.string ⟨#[34, 34]⟩, .agg #[.int .u8 3, .int .i64 0, .int .i64 0, .bool false, .string ⟨#[]⟩, .slice none 0 0]] w fun e w' => e = .returned (.bool true) ∧ Below w.heap.size w w' :=
  reads_any _ ⟨3, 0, 0, false, ⟨#[]⟩⟩ [] (.slice none 0 0) w (by decide +kernel) (by decide +kernel) (by decide +kernel) (small_lf (by decide) (by decide) (by decide) (by decide) (by decide) (by decide) (by decide)) (RepL.nil _ _ _ _) ht hl
theorem rd_bs (w : World) (ht : Tab w) (hl : Len w) : Calls Tryz.prog 10 #[.string ⟨#[34, 92, 92, 34]⟩, .agg #[.int .u8 3, .int .i64 0, .int .i64 0, .bool false, .string ⟨#[92]⟩, .slice none 0 0]] w fun e w' => e = .returned (.bool true) ∧ Below w.heap.size w w' :=
  reads_any _ ⟨3, 0, 0, false, ⟨#[92]⟩⟩ [] (.slice none 0 0) w (by decide +kernel) (by decide +kernel) (by decide +kernel) (small_lf (by decide) (by decide) (by decide) (by decide) (by decide) (by decide) (by decide)) (RepL.nil _ _ _ _) ht hl
theorem rd_fl (w : World) (ht : Tab w) (hl : Len w) : Calls Tryz.prog 10 #[.string ⟨#[102, 97, 108, 115, 101]⟩, .agg #[.int .u8 2, .int .i64 0, .int .i64 0, .bool false, .string ⟨#[]⟩, .slice none 0 0]] w fun e w' => e = .returned (.bool true) ∧ Below w.heap.size w w' :=
  reads_any _ ⟨2, 0, 0, false, ⟨#[]⟩⟩ [] (.slice none 0 0) w (by decide +kernel) (by decide +kernel) (by decide +kernel) (small_lf (by decide) (by decide) (by decide) (by decide) (by decide) (by decide) (by decide)) (RepL.nil _ _ _ _) ht hl
theorem rd_nl (w : World) (ht : Tab w) (hl : Len w) : Calls Tryz.prog 10 #[.string ⟨#[91, 93]⟩, .agg #[.int .u8 4, .int .i64 0, .int .i64 0, .bool false, .string ⟨#[]⟩, .slice none 0 0]] w fun e w' => e = .returned (.bool true) ∧ Below w.heap.size w w' :=
  reads_any _ ⟨4, 0, 0, false, ⟨#[]⟩⟩ [] (.slice none 0 0) w (by decide +kernel) (by decide +kernel) (by decide +kernel) (small_lf (by decide) (by decide) (by decide) (by decide) (by decide) (by decide) (by decide)) (RepL.nil _ _ _ _) ht hl
theorem wf_nst : ∀ k, Wf 20000 (.mk ⟨4, 0, 0, false, ⟨#[]⟩⟩ (nstL k))
  | 0 => .mk _ _ (nd_wf (by decide) (by decide) (by decide) (by decide) (by decide) (by decide) (by decide)) (by simp [nstL]) (by simp [nstL])
  | k + 1 => .mk _ _ (nd_wf (by decide) (by decide) (by decide) (by decide) (by decide) (by decide) (by decide)) (by simp [nstL]) (by simp only [nstL, List.mem_singleton]; rintro x rfl; exact wf_nst k)
theorem rd_n6 (sl : Value) (w : World) (hr : RepL Any w (nstL 5) sl) (ht : Tab w) (hl : Len w) : Calls Tryz.prog 10 #[.string ⟨#[91, 91, 91, 91, 91, 91, 93, 93, 93, 93, 93, 93]⟩, .agg #[.int .u8 4, .int .i64 0, .int .i64 0, .bool false, .string ⟨#[]⟩, sl]] w fun e w' => e = .returned (.bool true) ∧ Below w.heap.size w w' :=
  reads_any _ ⟨4, 0, 0, false, ⟨#[]⟩⟩ (nstL 5) sl w (by decide +kernel) (by decide +kernel) (by decide +kernel) ⟨wf_nst 5, by decide +kernel⟩ hr.bound ht hl
theorem nst_6 (w : World) : Calls Tryz.prog 12 #[.int .i64 6] w fun e w' => (∃ sl, e = .returned (.agg #[.int .u8 4, .int .i64 0, .int .i64 0, .bool false, .string ⟨#[]⟩, sl]) ∧ RepL Any w' (nstL 5) sl) ∧ Below w.heap.size w w' := nested_any 5 (by omega) w
theorem nst_7 (w : World) : Calls Tryz.prog 12 #[.int .i64 7] w fun e w' => (∃ sl, e = .returned (.agg #[.int .u8 4, .int .i64 0, .int .i64 0, .bool false, .string ⟨#[]⟩, sl]) ∧ RepL Any w' (nstL 6) sl) ∧ Below w.heap.size w w' := nested_any 6 (by omega) w
theorem ck_zero (w : World) : Calls Tryz.prog 20 #[.agg #[.int .u8 0, .int .i64 0, .int .i64 0, .bool false, .string ⟨#[]⟩, .slice none 0 0]] w fun e w' => e = .returned (.int .i64 8) ∧ Below w.heap.size w w' := by
  have h := vcheck_any ⟨0, 0, 0, false, ⟨#[]⟩⟩ [] none 0 w (small_lf (by decide) (by decide) (by decide) (by decide) (by decide) (by decide) (by decide)) (RepL.nil _ _ _ _)
  rw [show vchk (.mk ⟨0, 0, 0, false, ⟨#[]⟩⟩ []) = 8 by decide +kernel] at h
  exact h
theorem ck_x (w : World) : Calls Tryz.prog 20 #[.agg #[.int .u8 2, .int .i64 0, .int .i64 0, .bool false, .string ⟨#[120]⟩, .slice none 0 0]] w fun e w' => e = .returned (.int .i64 8) ∧ Below w.heap.size w w' := by
  have h := vcheck_any ⟨2, 0, 0, false, ⟨#[120]⟩⟩ [] none 0 w (small_lf (by decide) (by decide) (by decide) (by decide) (by decide) (by decide) (by decide)) (RepL.nil _ _ _ _)
  rw [show vchk (.mk ⟨2, 0, 0, false, ⟨#[120]⟩⟩ []) = 8 by decide +kernel] at h
  exact h
theorem ck_nl (w : World) : Calls Tryz.prog 20 #[.agg #[.int .u8 3, .int .i64 0, .int .i64 0, .bool false, .string ⟨#[97, 10]⟩, .slice none 0 0]] w fun e w' => e = .returned (.int .i64 8) ∧ Below w.heap.size w w' := by
  have h := vcheck_any ⟨3, 0, 0, false, ⟨#[97, 10]⟩⟩ [] none 0 w (small_lf (by decide) (by decide) (by decide) (by decide) (by decide) (by decide) (by decide)) (RepL.nil _ _ _ _)
  rw [show vchk (.mk ⟨3, 0, 0, false, ⟨#[97, 10]⟩⟩ []) = 8 by decide +kernel] at h
  exact h
theorem ck_24 (w : World) : Calls Tryz.prog 20 #[.agg #[.int .u8 1, .int .i64 2, .int .i64 4, .bool false, .string ⟨#[]⟩, .slice none 0 0]] w fun e w' => e = .returned (.int .i64 8) ∧ Below w.heap.size w w' := by
  have h := vcheck_any ⟨1, 2, 4, false, ⟨#[]⟩⟩ [] none 0 w (small_lf (by decide) (by decide) (by decide) (by decide) (by decide) (by decide) (by decide)) (RepL.nil _ _ _ _)
  rw [show vchk (.mk ⟨1, 2, 4, false, ⟨#[]⟩⟩ []) = 8 by decide +kernel] at h
  exact h
theorem ck_5 (w : World) : Calls Tryz.prog 20 #[.agg #[.int .u8 5, .int .i64 0, .int .i64 0, .bool false, .string ⟨#[]⟩, .slice none 0 0]] w fun e w' => e = .returned (.int .i64 8) ∧ Below w.heap.size w w' := by
  have h := vcheck_any ⟨5, 0, 0, false, ⟨#[]⟩⟩ [] none 0 w (small_lf (by decide) (by decide) (by decide) (by decide) (by decide) (by decide) (by decide)) (RepL.nil _ _ _ _)
  rw [show vchk (.mk ⟨5, 0, 0, false, ⟨#[]⟩⟩ []) = 8 by decide +kernel] at h
  exact h
theorem wf_01 : Wf 20000 (numV' 0 1) := wf_numV (by decide +kernel)
theorem wf_many (j : Nat) (hj : j ≤ 200) : Wf 20000 (.mk ⟨4, 0, 0, false, ⟨#[]⟩⟩ (manyL j)) := .mk _ _ (nd_wf (by decide) (by decide) (by decide) (by decide) (by decide) (by decide) (by decide)) (by unfold manyL; rw [List.length_replicate]; omega) (fun x hx => by unfold manyL at hx; rw [List.eq_of_mem_replicate hx]; exact wf_01)
theorem small_many : Small (.mk ⟨4, 0, 0, false, ⟨#[]⟩⟩ (manyL 99)) := ⟨wf_many 99 (by omega), by decide +kernel⟩
theorem small_lmany : Small (.mk ⟨4, 0, 0, false, ⟨#[]⟩⟩ [.mk ⟨4, 0, 0, false, ⟨#[]⟩⟩ (manyL 99)]) := ⟨.mk _ _ (nd_wf (by decide) (by decide) (by decide) (by decide) (by decide) (by decide) (by decide)) (by simp) (by simp only [List.mem_singleton]; rintro x rfl; exact wf_many 99 (by omega)), by decide +kernel⟩
theorem small_lzero : Small (.mk ⟨4, 0, 0, false, ⟨#[]⟩⟩ [.mk ⟨0, 0, 0, false, ⟨#[]⟩⟩ []]) := ⟨.mk _ _ (nd_wf (by decide) (by decide) (by decide) (by decide) (by decide) (by decide) (by decide)) (by simp) (by simp only [List.mem_singleton]; rintro x rfl; exact .mk _ _ (nd_wf (by decide) (by decide) (by decide) (by decide) (by decide) (by decide) (by decide)) (by simp) (by simp)), by decide +kernel⟩
theorem small_l01 : Small (.mk ⟨4, 0, 0, false, ⟨#[]⟩⟩ [numV' 0 1]) := ⟨.mk _ _ (nd_wf (by decide) (by decide) (by decide) (by decide) (by decide) (by decide) (by decide)) (by simp) (by simp only [List.mem_singleton]; rintro x rfl; exact wf_01), by decide +kernel⟩
theorem many_app : manyL 99 ++ [numV' 0 1] = manyL 100 := by decide +kernel
theorem ck_many (p : Option Addr) (cap : Nat) (w : World) (hr : RepL Any w (manyL 99) (.slice p 99 cap)) : Calls Tryz.prog 20 #[.agg #[.int .u8 4, .int .i64 0, .int .i64 0, .bool false, .string ⟨#[]⟩, .slice p 99 cap]] w fun e w' => e = .returned (.int .i64 0) ∧ Below w.heap.size w w' := by
  have hl : (manyL 99).length = 99 := by decide +kernel
  have h := vcheck_any ⟨4, 0, 0, false, ⟨#[]⟩⟩ (manyL 99) p cap w small_many (by rw [hl]; exact hr.bound)
  rw [show vchk (.mk ⟨4, 0, 0, false, ⟨#[]⟩⟩ (manyL 99)) = 0 by decide +kernel, hl] at h
  exact h
theorem ck_lmany (p : Option Addr) (cap : Nat) (w : World) (hr : RepL Any w ([V.mk ⟨4, 0, 0, false, ⟨#[]⟩⟩ (manyL 99)]) (.slice p 1 cap)) : Calls Tryz.prog 20 #[.agg #[.int .u8 4, .int .i64 0, .int .i64 0, .bool false, .string ⟨#[]⟩, .slice p 1 cap]] w fun e w' => e = .returned (.int .i64 4) ∧ Below w.heap.size w w' := by
  have hl : ([V.mk ⟨4, 0, 0, false, ⟨#[]⟩⟩ (manyL 99)]).length = 1 := by decide +kernel
  have h := vcheck_any ⟨4, 0, 0, false, ⟨#[]⟩⟩ ([V.mk ⟨4, 0, 0, false, ⟨#[]⟩⟩ (manyL 99)]) p cap w small_lmany (by rw [hl]; exact hr.bound)
  rw [show vchk (.mk ⟨4, 0, 0, false, ⟨#[]⟩⟩ ([V.mk ⟨4, 0, 0, false, ⟨#[]⟩⟩ (manyL 99)])) = 4 by decide +kernel, hl] at h
  exact h
theorem ck_lzero (p : Option Addr) (cap : Nat) (w : World) (hr : RepL Any w ([V.mk ⟨0, 0, 0, false, ⟨#[]⟩⟩ []]) (.slice p 1 cap)) : Calls Tryz.prog 20 #[.agg #[.int .u8 4, .int .i64 0, .int .i64 0, .bool false, .string ⟨#[]⟩, .slice p 1 cap]] w fun e w' => e = .returned (.int .i64 8) ∧ Below w.heap.size w w' := by
  have hl : ([V.mk ⟨0, 0, 0, false, ⟨#[]⟩⟩ []]).length = 1 := by decide +kernel
  have h := vcheck_any ⟨4, 0, 0, false, ⟨#[]⟩⟩ ([V.mk ⟨0, 0, 0, false, ⟨#[]⟩⟩ []]) p cap w small_lzero (by rw [hl]; exact hr.bound)
  rw [show vchk (.mk ⟨4, 0, 0, false, ⟨#[]⟩⟩ ([V.mk ⟨0, 0, 0, false, ⟨#[]⟩⟩ []])) = 8 by decide +kernel, hl] at h
  exact h
theorem ck_n7 (sl : Value) (w : World) (hr : RepL Any w (nstL 6) sl) : Calls Tryz.prog 20 #[.agg #[.int .u8 4, .int .i64 0, .int .i64 0, .bool false, .string ⟨#[]⟩, sl]] w fun e w' => e = .returned (.int .i64 4) ∧ Below w.heap.size w w' := by
  obtain ⟨p, cap, rfl⟩ := hr.slice
  have h := vcheck_any ⟨4, 0, 0, false, ⟨#[]⟩⟩ (nstL 6) p cap w ⟨wf_nst 6, by decide +kernel⟩ hr.bound
  rw [show vchk (.mk ⟨4, 0, 0, false, ⟨#[]⟩⟩ (nstL 6)) = 4 by decide +kernel] at h
  exact h
theorem ad_many (p q : Option Addr) (cap cap2 : Nat) (w : World) (hr : RepL Any w (manyL 99) (.slice p 99 cap)) (hr2 : RepL Any w [.mk ⟨1, 0, 1, false, ⟨#[]⟩⟩ []] (.slice q 1 cap2)) : Calls Tryz.prog 16 #[.agg #[.int .u8 4, .int .i64 0, .int .i64 0, .bool false, .string ⟨#[]⟩, .slice p 99 cap], .agg #[.int .u8 4, .int .i64 0, .int .i64 0, .bool false, .string ⟨#[]⟩, .slice q 1 cap2]] w fun e w' => e = .returned (.tuple #[.agg #[.int .u8 0, .int .i64 0, .int .i64 0, .bool false, .string ⟨#[]⟩, .slice none 0 0], .int .i64 4]) ∧ Below w.heap.size w w' := by
  have hl : (manyL 99).length = 99 := by decide +kernel
  have h := add_many (manyL 99) [numV' 0 1] p q cap cap2 4 w small_many small_l01 (by rw [many_app]; exact ⟨wf_many 100 (by omega), by decide +kernel⟩) (by decide +kernel) (by decide +kernel) (by rw [many_app]; decide +kernel) rfl (fun x hx => by rw [many_app] at hx; unfold manyL at hx; rw [List.eq_of_mem_replicate hx]; rfl) (by rw [hl]; omega) (by simp) (by rw [hl]; simp) (by rw [hl]; exact hr.bound) hr2.bound
  rw [hl] at h
  exact h
theorem ad_long (w : World) : Calls Tryz.prog 16 #[.agg #[.int .u8 3, .int .i64 0, .int .i64 0, .bool false, .string ⟨#[48, 49, 50, 51, 52, 53, 54, 55, 56, 57, 48, 49, 50, 51, 52, 53, 54, 55, 56, 57, 48, 49, 50, 51, 52, 53, 54, 55, 56, 57, 48, 49, 50, 51, 52, 53, 54, 55, 56, 57, 48, 49, 50, 51, 52, 53, 54, 55, 56, 57, 48, 49, 50, 51, 52, 53, 54, 55, 56, 57]⟩, .slice none 0 0], .agg #[.int .u8 3, .int .i64 0, .int .i64 0, .bool false, .string ⟨#[48]⟩, .slice none 0 0]] w fun e w' => e = .returned (.tuple #[.agg #[.int .u8 0, .int .i64 0, .int .i64 0, .bool false, .string ⟨#[]⟩, .slice none 0 0], .int .i64 4]) ∧ Below w.heap.size w w' :=
  add_long _ _ w (by decide +kernel) (by decide +kernel) (by decide +kernel) (by decide +kernel) 8 (by decide +kernel) rfl
theorem ad_truth (w : World) : Calls Tryz.prog 16 #[.agg #[.int .u8 2, .int .i64 0, .int .i64 0, .bool true, .string ⟨#[]⟩, .slice none 0 0], .agg #[.int .u8 2, .int .i64 0, .int .i64 0, .bool true, .string ⟨#[]⟩, .slice none 0 0]] w fun e w' => e = .returned (.tuple #[.agg #[.int .u8 0, .int .i64 0, .int .i64 0, .bool false, .string ⟨#[]⟩, .slice none 0 0], .int .i64 20]) ∧ Below w.heap.size w w' :=
  add_truth ⟨2, 0, 0, true, ⟨#[]⟩⟩ ⟨2, 0, 0, true, ⟨#[]⟩⟩ [] [] (.slice none 0 0) (.slice none 0 0) w (small_lf (by decide) (by decide) (by decide) (by decide) (by decide) (by decide) (by decide)) (small_lf (by decide) (by decide) (by decide) (by decide) (by decide) (by decide) (by decide)) (by decide +kernel) (by decide +kernel) rfl rfl (RepL.nil _ _ _ _) (RepL.nil _ _ _ _)
theorem at_1 (w : World) : Calls Tryz.prog 17 #[.agg #[.int .u8 1, .int .i64 1, .int .i64 1, .bool false, .string ⟨#[]⟩, .slice none 0 0], .int .i64 (-1)] w fun e w' => e = .returned (.tuple #[.agg #[.int .u8 0, .int .i64 0, .int .i64 0, .bool false, .string ⟨#[]⟩, .slice none 0 0], .int .i64 20]) ∧ Below w.heap.size w w' :=
  at_err ⟨1, 1, 1, false, ⟨#[]⟩⟩ [] none 0 (-1) 0 20 20 w (by decide +kernel) (.inl ⟨rfl, rfl⟩) (small_lf (by decide) (by decide) (by decide) (by decide) (by decide) (by decide) (by decide)) (RepL.nil _ _ _ _)
theorem at_2 (w : World) : Calls Tryz.prog 17 #[.agg #[.int .u8 4, .int .i64 0, .int .i64 0, .bool false, .string ⟨#[]⟩, .slice none 0 0], .int .i64 0] w fun e w' => e = .returned (.tuple #[.agg #[.int .u8 0, .int .i64 0, .int .i64 0, .bool false, .string ⟨#[]⟩, .slice none 0 0], .int .i64 2]) ∧ Below w.heap.size w w' :=
  at_err ⟨4, 0, 0, false, ⟨#[]⟩⟩ [] none 0 0 0 0 2 w (by decide +kernel) (.inr ⟨rfl, rfl, .inr (by omega)⟩) (small_lf (by decide) (by decide) (by decide) (by decide) (by decide) (by decide) (by decide)) (RepL.nil _ _ _ _)
theorem len_t (w : World) : Calls Tryz.prog 18 #[.agg #[.int .u8 2, .int .i64 0, .int .i64 0, .bool true, .string ⟨#[]⟩, .slice none 0 0]] w fun e w' => e = .returned (.tuple #[.int .i64 0, .int .i64 20]) ∧ Below w.heap.size w w' := by
  have h := vlen_any ⟨2, 0, 0, true, ⟨#[]⟩⟩ [] none 0 w (small_lf (by decide) (by decide) (by decide) (by decide) (by decide) (by decide) (by decide)) (RepL.nil _ _ _ _)
  rw [show lenC (.mk ⟨2, 0, 0, true, ⟨#[]⟩⟩ []) = (0, 20) by decide +kernel] at h
  exact h
theorem num_10 (w : World) : Calls Tryz.prog 19 #[.int .i64 1, .int .i64 0] w fun e w' => e = .returned (.tuple #[.agg #[.int .u8 0, .int .i64 0, .int .i64 0, .bool false, .string ⟨#[]⟩, .slice none 0 0], .int .i64 18]) ∧ Below w.heap.size w w' := by
  have h := number_api 1 0 (by omega) (by omega) (by omega) (by omega) w
  rw [show RM.mkN 1 0 = 0 by decide +kernel, show RM.mkD 1 0 = 0 by decide +kernel, show RM.mkE 1 0 = 18 by decide +kernel] at h
  exact h
theorem cmp_t (w : World) : Calls Tryz.prog 21 #[.agg #[.int .u8 2, .int .i64 0, .int .i64 0, .bool false, .string ⟨#[]⟩, .slice none 0 0], .agg #[.int .u8 2, .int .i64 0, .int .i64 0, .bool true, .string ⟨#[]⟩, .slice none 0 0], .int .i64 (-1), .int .i64 0] w fun e w' => e = .returned (.bool true) ∧ Below w.heap.size w w' :=
  compares_any ⟨2, 0, 0, false, ⟨#[]⟩⟩ ⟨2, 0, 0, true, ⟨#[]⟩⟩ [] [] (.slice none 0 0) (.slice none 0 0) (-1) 0 w (by omega) (by omega) (by decide +kernel) (by decide +kernel) (small_lf (by decide) (by decide) (by decide) (by decide) (by decide) (by decide) (by decide)) (small_lf (by decide) (by decide) (by decide) (by decide) (by decide) (by decide) (by decide)) (RepL.nil _ _ _ _) (RepL.nil _ _ _ _)
end Go.Proofs.YtakjgjhjndiggaaGreatDoor
namespace Go.Proofs.YtakjgjhjndiggaaGreatDoor
open Go.RowKit Go.Shelf
open VM
set_option linter.unusedVariables false
set_option linter.unusedSimpArgs false

theorem manyL_succ (j : Nat) : manyL j ++ [numV' 0 1] = manyL (j + 1) := List.replicate_succ'.symm
theorem manyL_len (j : Nat) : (manyL j).length = j := List.length_replicate
set_option maxHeartbeats 8000000 in
set_option maxRecDepth 100000 in
theorem names_any (w0 : World) (ht : Tab w0) (hl : Len w0) : Calls Tryz.prog 3 #[] w0 fun e w' => e = .returned (.bool true) ∧ Below w0.heap.size w0 w' := by
  have T0 := Lib.hid ht
  have L0 := Lib.hid hl
  have HT0 := Lib.hid ht
  have HL0 := Lib.hid hl
  have B0 := Lib.hid (Below.refl w0.heap.size w0)
  clear ht hl
  go_enter Tryz.func3, Tryz.ntmps3
  go_wp2_with fail
  refine (ref_l12 _ (by with_reducible (repeat (first | exact T0.out | refine Tab.later ?_ (Hid.out (by assumption)) | refine Tab.later ?_ ((Below.refl _ _).alloc (Nat.le_refl _) _) | refine Tab.later ?_ (Below.refl _ _).drew))) (by with_reducible (repeat (first | exact L0.out | refine Len.later ?_ (Hid.out (by assumption)) | refine Len.later ?_ ((Below.refl _ _).alloc (Nat.le_refl _) _) | refine Len.later ?_ (Below.refl _ _).drew)))).mono ?_
  rintro e w1 ⟨rfl, hb⟩
  replace hb := Lib.hid hb
  have HB : Below w0.heap.size w0 w1 := (by with_reducible (repeat (first | exact Below.refl _ _ | refine below_chain ?_ (Hid.out (by assumption)) | refine below_chain ?_ ((Below.refl _ _).alloc (Nat.le_refl _) _) | refine below_chain ?_ (Below.refl _ _).drew)))
  have T1 := Lib.hid (T0.out.later HB)
  have L1 := Lib.hid (L0.out.later HB)
  have B1 := Lib.hid (B0.out.trans (HB.mono B0.out.size))
  clear hb HB T0 L0 B0
  go_wp2_with fail
  refine (ref_01 _ (by with_reducible (repeat (first | exact T1.out | refine Tab.later ?_ (Hid.out (by assumption)) | refine Tab.later ?_ ((Below.refl _ _).alloc (Nat.le_refl _) _) | refine Tab.later ?_ (Below.refl _ _).drew))) (by with_reducible (repeat (first | exact L1.out | refine Len.later ?_ (Hid.out (by assumption)) | refine Len.later ?_ ((Below.refl _ _).alloc (Nat.le_refl _) _) | refine Len.later ?_ (Below.refl _ _).drew)))).mono ?_
  rintro e w2 ⟨rfl, hb⟩
  replace hb := Lib.hid hb
  have HB : Below w1.heap.size w1 w2 := (by with_reducible (repeat (first | exact Below.refl _ _ | refine below_chain ?_ (Hid.out (by assumption)) | refine below_chain ?_ ((Below.refl _ _).alloc (Nat.le_refl _) _) | refine below_chain ?_ (Below.refl _ _).drew)))
  have T2 := Lib.hid (T1.out.later HB)
  have L2 := Lib.hid (L1.out.later HB)
  have B2 := Lib.hid (B1.out.trans (HB.mono B1.out.size))
  clear hb HB T1 L1 B1
  go_wp2_with fail
  refine (ref_qa _ (by with_reducible (repeat (first | exact T2.out | refine Tab.later ?_ (Hid.out (by assumption)) | refine Tab.later ?_ ((Below.refl _ _).alloc (Nat.le_refl _) _) | refine Tab.later ?_ (Below.refl _ _).drew))) (by with_reducible (repeat (first | exact L2.out | refine Len.later ?_ (Hid.out (by assumption)) | refine Len.later ?_ ((Below.refl _ _).alloc (Nat.le_refl _) _) | refine Len.later ?_ (Below.refl _ _).drew)))).mono ?_
  rintro e w3 ⟨rfl, hb⟩
  replace hb := Lib.hid hb
  have HB : Below w2.heap.size w2 w3 := (by with_reducible (repeat (first | exact Below.refl _ _ | refine below_chain ?_ (Hid.out (by assumption)) | refine below_chain ?_ ((Below.refl _ _).alloc (Nat.le_refl _) _) | refine below_chain ?_ (Below.refl _ _).drew)))
  have T3 := Lib.hid (T2.out.later HB)
  have L3 := Lib.hid (L2.out.later HB)
  have B3 := Lib.hid (B2.out.trans (HB.mono B2.out.size))
  clear hb HB T2 L2 B2
  go_wp2_with fail
  refine (ref_0 _ (by with_reducible (repeat (first | exact T3.out | refine Tab.later ?_ (Hid.out (by assumption)) | refine Tab.later ?_ ((Below.refl _ _).alloc (Nat.le_refl _) _) | refine Tab.later ?_ (Below.refl _ _).drew))) (by with_reducible (repeat (first | exact L3.out | refine Len.later ?_ (Hid.out (by assumption)) | refine Len.later ?_ ((Below.refl _ _).alloc (Nat.le_refl _) _) | refine Len.later ?_ (Below.refl _ _).drew)))).mono ?_
  rintro e w4 ⟨rfl, hb⟩
  replace hb := Lib.hid hb
  have HB : Below w3.heap.size w3 w4 := (by with_reducible (repeat (first | exact Below.refl _ _ | refine below_chain ?_ (Hid.out (by assumption)) | refine below_chain ?_ ((Below.refl _ _).alloc (Nat.le_refl _) _) | refine below_chain ?_ (Below.refl _ _).drew)))
  have T4 := Lib.hid (T3.out.later HB)
  have L4 := Lib.hid (L3.out.later HB)
  have B4 := Lib.hid (B3.out.trans (HB.mono B3.out.size))
  clear hb HB T3 L3 B3
  go_wp2_with fail
  refine (ref_True _ (by with_reducible (repeat (first | exact T4.out | refine Tab.later ?_ (Hid.out (by assumption)) | refine Tab.later ?_ ((Below.refl _ _).alloc (Nat.le_refl _) _) | refine Tab.later ?_ (Below.refl _ _).drew))) (by with_reducible (repeat (first | exact L4.out | refine Len.later ?_ (Hid.out (by assumption)) | refine Len.later ?_ ((Below.refl _ _).alloc (Nat.le_refl _) _) | refine Len.later ?_ (Below.refl _ _).drew)))).mono ?_
  rintro e w5 ⟨rfl, hb⟩
  replace hb := Lib.hid hb
  have HB : Below w4.heap.size w4 w5 := (by with_reducible (repeat (first | exact Below.refl _ _ | refine below_chain ?_ (Hid.out (by assumption)) | refine below_chain ?_ ((Below.refl _ _).alloc (Nat.le_refl _) _) | refine below_chain ?_ (Below.refl _ _).drew)))
  have T5 := Lib.hid (T4.out.later HB)
  have L5 := Lib.hid (L4.out.later HB)
  have B5 := Lib.hid (B4.out.trans (HB.mono B4.out.size))
  clear hb HB T4 L4 B4
  go_wp2_with fail
  refine (ref_l1c _ (by with_reducible (repeat (first | exact T5.out | refine Tab.later ?_ (Hid.out (by assumption)) | refine Tab.later ?_ ((Below.refl _ _).alloc (Nat.le_refl _) _) | refine Tab.later ?_ (Below.refl _ _).drew))) (by with_reducible (repeat (first | exact L5.out | refine Len.later ?_ (Hid.out (by assumption)) | refine Len.later ?_ ((Below.refl _ _).alloc (Nat.le_refl _) _) | refine Len.later ?_ (Below.refl _ _).drew)))).mono ?_
  rintro e w6 ⟨rfl, hb⟩
  replace hb := Lib.hid hb
  have HB : Below w5.heap.size w5 w6 := (by with_reducible (repeat (first | exact Below.refl _ _ | refine below_chain ?_ (Hid.out (by assumption)) | refine below_chain ?_ ((Below.refl _ _).alloc (Nat.le_refl _) _) | refine below_chain ?_ (Below.refl _ _).drew)))
  have T6 := Lib.hid (T5.out.later HB)
  have L6 := Lib.hid (L5.out.later HB)
  have B6 := Lib.hid (B5.out.trans (HB.mono B5.out.size))
  clear hb HB T5 L5 B5
  go_wp2_with fail
  refine (ref_lsp _ (by with_reducible (repeat (first | exact T6.out | refine Tab.later ?_ (Hid.out (by assumption)) | refine Tab.later ?_ ((Below.refl _ _).alloc (Nat.le_refl _) _) | refine Tab.later ?_ (Below.refl _ _).drew))) (by with_reducible (repeat (first | exact L6.out | refine Len.later ?_ (Hid.out (by assumption)) | refine Len.later ?_ ((Below.refl _ _).alloc (Nat.le_refl _) _) | refine Len.later ?_ (Below.refl _ _).drew)))).mono ?_
  rintro e w7 ⟨rfl, hb⟩
  replace hb := Lib.hid hb
  have HB : Below w6.heap.size w6 w7 := (by with_reducible (repeat (first | exact Below.refl _ _ | refine below_chain ?_ (Hid.out (by assumption)) | refine below_chain ?_ ((Below.refl _ _).alloc (Nat.le_refl _) _) | refine below_chain ?_ (Below.refl _ _).drew)))
  have T7 := Lib.hid (T6.out.later HB)
  have L7 := Lib.hid (L6.out.later HB)
  have B7 := Lib.hid (B6.out.trans (HB.mono B6.out.size))
  clear hb HB T6 L6 B6
  go_wp2_with fail
  refine (ref_qn _ (by with_reducible (repeat (first | exact T7.out | refine Tab.later ?_ (Hid.out (by assumption)) | refine Tab.later ?_ ((Below.refl _ _).alloc (Nat.le_refl _) _) | refine Tab.later ?_ (Below.refl _ _).drew))) (by with_reducible (repeat (first | exact L7.out | refine Len.later ?_ (Hid.out (by assumption)) | refine Len.later ?_ ((Below.refl _ _).alloc (Nat.le_refl _) _) | refine Len.later ?_ (Below.refl _ _).drew)))).mono ?_
  rintro e w8 ⟨rfl, hb⟩
  replace hb := Lib.hid hb
  have HB : Below w7.heap.size w7 w8 := (by with_reducible (repeat (first | exact Below.refl _ _ | refine below_chain ?_ (Hid.out (by assumption)) | refine below_chain ?_ ((Below.refl _ _).alloc (Nat.le_refl _) _) | refine below_chain ?_ (Below.refl _ _).drew)))
  have T8 := Lib.hid (T7.out.later HB)
  have L8 := Lib.hid (L7.out.later HB)
  have B8 := Lib.hid (B7.out.trans (HB.mono B7.out.size))
  clear hb HB T7 L7 B7
  go_wp2_with fail
  refine (ref_qq _ (by with_reducible (repeat (first | exact T8.out | refine Tab.later ?_ (Hid.out (by assumption)) | refine Tab.later ?_ ((Below.refl _ _).alloc (Nat.le_refl _) _) | refine Tab.later ?_ (Below.refl _ _).drew))) (by with_reducible (repeat (first | exact L8.out | refine Len.later ?_ (Hid.out (by assumption)) | refine Len.later ?_ ((Below.refl _ _).alloc (Nat.le_refl _) _) | refine Len.later ?_ (Below.refl _ _).drew)))).mono ?_
  rintro e w9 ⟨rfl, hb⟩
  replace hb := Lib.hid hb
  have HB : Below w8.heap.size w8 w9 := (by with_reducible (repeat (first | exact Below.refl _ _ | refine below_chain ?_ (Hid.out (by assumption)) | refine below_chain ?_ ((Below.refl _ _).alloc (Nat.le_refl _) _) | refine below_chain ?_ (Below.refl _ _).drew)))
  have T9 := Lib.hid (T8.out.later HB)
  have L9 := Lib.hid (L8.out.later HB)
  have B9 := Lib.hid (B8.out.trans (HB.mono B8.out.size))
  clear hb HB T8 L8 B8
  go_wp2_with fail
  refine (ref_sp1 _ (by with_reducible (repeat (first | exact T9.out | refine Tab.later ?_ (Hid.out (by assumption)) | refine Tab.later ?_ ((Below.refl _ _).alloc (Nat.le_refl _) _) | refine Tab.later ?_ (Below.refl _ _).drew))) (by with_reducible (repeat (first | exact L9.out | refine Len.later ?_ (Hid.out (by assumption)) | refine Len.later ?_ ((Below.refl _ _).alloc (Nat.le_refl _) _) | refine Len.later ?_ (Below.refl _ _).drew)))).mono ?_
  rintro e w10 ⟨rfl, hb⟩
  replace hb := Lib.hid hb
  have HB : Below w9.heap.size w9 w10 := (by with_reducible (repeat (first | exact Below.refl _ _ | refine below_chain ?_ (Hid.out (by assumption)) | refine below_chain ?_ ((Below.refl _ _).alloc (Nat.le_refl _) _) | refine below_chain ?_ (Below.refl _ _).drew)))
  have T10 := Lib.hid (T9.out.later HB)
  have L10 := Lib.hid (L9.out.later HB)
  have B10 := Lib.hid (B9.out.trans (HB.mono B9.out.size))
  clear hb HB T9 L9 B9
  go_wp2_with fail
  refine (ref_1sp _ (by with_reducible (repeat (first | exact T10.out | refine Tab.later ?_ (Hid.out (by assumption)) | refine Tab.later ?_ ((Below.refl _ _).alloc (Nat.le_refl _) _) | refine Tab.later ?_ (Below.refl _ _).drew))) (by with_reducible (repeat (first | exact L10.out | refine Len.later ?_ (Hid.out (by assumption)) | refine Len.later ?_ ((Below.refl _ _).alloc (Nat.le_refl _) _) | refine Len.later ?_ (Below.refl _ _).drew)))).mono ?_
  rintro e w11 ⟨rfl, hb⟩
  replace hb := Lib.hid hb
  have HB : Below w10.heap.size w10 w11 := (by with_reducible (repeat (first | exact Below.refl _ _ | refine below_chain ?_ (Hid.out (by assumption)) | refine below_chain ?_ ((Below.refl _ _).alloc (Nat.le_refl _) _) | refine below_chain ?_ (Below.refl _ _).drew)))
  have T11 := Lib.hid (T10.out.later HB)
  have L11 := Lib.hid (L10.out.later HB)
  have B11 := Lib.hid (B10.out.trans (HB.mono B10.out.size))
  clear hb HB T10 L10 B10
  go_wp2_with fail
  refine (ref_seven _ (by with_reducible (repeat (first | exact T11.out | refine Tab.later ?_ (Hid.out (by assumption)) | refine Tab.later ?_ ((Below.refl _ _).alloc (Nat.le_refl _) _) | refine Tab.later ?_ (Below.refl _ _).drew))) (by with_reducible (repeat (first | exact L11.out | refine Len.later ?_ (Hid.out (by assumption)) | refine Len.later ?_ ((Below.refl _ _).alloc (Nat.le_refl _) _) | refine Len.later ?_ (Below.refl _ _).drew)))).mono ?_
  rintro e w12 ⟨rfl, hb⟩
  replace hb := Lib.hid hb
  have HB : Below w11.heap.size w11 w12 := (by with_reducible (repeat (first | exact Below.refl _ _ | refine below_chain ?_ (Hid.out (by assumption)) | refine below_chain ?_ ((Below.refl _ _).alloc (Nat.le_refl _) _) | refine below_chain ?_ (Below.refl _ _).drew)))
  have T12 := Lib.hid (T11.out.later HB)
  have L12 := Lib.hid (L11.out.later HB)
  have B12 := Lib.hid (B11.out.trans (HB.mono B11.out.size))
  clear hb HB T11 L11 B11
  go_wp2_with fail
  refine (ref_24 _ (by with_reducible (repeat (first | exact T12.out | refine Tab.later ?_ (Hid.out (by assumption)) | refine Tab.later ?_ ((Below.refl _ _).alloc (Nat.le_refl _) _) | refine Tab.later ?_ (Below.refl _ _).drew))) (by with_reducible (repeat (first | exact L12.out | refine Len.later ?_ (Hid.out (by assumption)) | refine Len.later ?_ ((Below.refl _ _).alloc (Nat.le_refl _) _) | refine Len.later ?_ (Below.refl _ _).drew)))).mono ?_
  rintro e w13 ⟨rfl, hb⟩
  replace hb := Lib.hid hb
  have HB : Below w12.heap.size w12 w13 := (by with_reducible (repeat (first | exact Below.refl _ _ | refine below_chain ?_ (Hid.out (by assumption)) | refine below_chain ?_ ((Below.refl _ _).alloc (Nat.le_refl _) _) | refine below_chain ?_ (Below.refl _ _).drew)))
  have T13 := Lib.hid (T12.out.later HB)
  have L13 := Lib.hid (L12.out.later HB)
  have B13 := Lib.hid (B12.out.trans (HB.mono B12.out.size))
  clear hb HB T12 L12 B12
  go_wp2_with fail
  refine (ref_l1 _ (by with_reducible (repeat (first | exact T13.out | refine Tab.later ?_ (Hid.out (by assumption)) | refine Tab.later ?_ ((Below.refl _ _).alloc (Nat.le_refl _) _) | refine Tab.later ?_ (Below.refl _ _).drew))) (by with_reducible (repeat (first | exact L13.out | refine Len.later ?_ (Hid.out (by assumption)) | refine Len.later ?_ ((Below.refl _ _).alloc (Nat.le_refl _) _) | refine Len.later ?_ (Below.refl _ _).drew)))).mono ?_
  rintro e w14 ⟨rfl, hb⟩
  replace hb := Lib.hid hb
  have HB : Below w13.heap.size w13 w14 := (by with_reducible (repeat (first | exact Below.refl _ _ | refine below_chain ?_ (Hid.out (by assumption)) | refine below_chain ?_ ((Below.refl _ _).alloc (Nat.le_refl _) _) | refine below_chain ?_ (Below.refl _ _).drew)))
  have T14 := Lib.hid (T13.out.later HB)
  have L14 := Lib.hid (L13.out.later HB)
  have B14 := Lib.hid (B13.out.trans (HB.mono B13.out.size))
  clear hb HB T13 L13 B13
  go_wp2_with fail
  refine (ref_nil _ (by with_reducible (repeat (first | exact T14.out | refine Tab.later ?_ (Hid.out (by assumption)) | refine Tab.later ?_ ((Below.refl _ _).alloc (Nat.le_refl _) _) | refine Tab.later ?_ (Below.refl _ _).drew))) (by with_reducible (repeat (first | exact L14.out | refine Len.later ?_ (Hid.out (by assumption)) | refine Len.later ?_ ((Below.refl _ _).alloc (Nat.le_refl _) _) | refine Len.later ?_ (Below.refl _ _).drew)))).mono ?_
  rintro e w15 ⟨rfl, hb⟩
  replace hb := Lib.hid hb
  have HB : Below w14.heap.size w14 w15 := (by with_reducible (repeat (first | exact Below.refl _ _ | refine below_chain ?_ (Hid.out (by assumption)) | refine below_chain ?_ ((Below.refl _ _).alloc (Nat.le_refl _) _) | refine below_chain ?_ (Below.refl _ _).drew)))
  have T15 := Lib.hid (T14.out.later HB)
  have L15 := Lib.hid (L14.out.later HB)
  have B15 := Lib.hid (B14.out.trans (HB.mono B14.out.size))
  clear hb HB T14 L14 B14
  go_wp2_with fail
  refine (list_law _ _ _ _).mono ?_
  rintro e w16 ⟨rfl, hb⟩
  replace hb := Lib.hid hb
  have HB : Below w15.heap.size w15 w16 := (by with_reducible (repeat (first | exact Below.refl _ _ | refine below_chain ?_ (Hid.out (by assumption)) | refine below_chain ?_ ((Below.refl _ _).alloc (Nat.le_refl _) _) | refine below_chain ?_ (Below.refl _ _).drew)))
  have T16 := Lib.hid (T15.out.later HB)
  have L16 := Lib.hid (L15.out.later HB)
  have B16 := Lib.hid (B15.out.trans (HB.mono B15.out.size))
  clear hb HB T15 L15 B15
  go_wp2_with fail
  refine (rd_nl _ (by with_reducible (repeat (first | exact T16.out | refine Tab.later ?_ (Hid.out (by assumption)) | refine Tab.later ?_ ((Below.refl _ _).alloc (Nat.le_refl _) _) | refine Tab.later ?_ (Below.refl _ _).drew))) (by with_reducible (repeat (first | exact L16.out | refine Len.later ?_ (Hid.out (by assumption)) | refine Len.later ?_ ((Below.refl _ _).alloc (Nat.le_refl _) _) | refine Len.later ?_ (Below.refl _ _).drew)))).mono ?_
  rintro e w17 ⟨rfl, hb⟩
  replace hb := Lib.hid hb
  have HB : Below w16.heap.size w16 w17 := (by with_reducible (repeat (first | exact Below.refl _ _ | refine below_chain ?_ (Hid.out (by assumption)) | refine below_chain ?_ ((Below.refl _ _).alloc (Nat.le_refl _) _) | refine below_chain ?_ (Below.refl _ _).drew)))
  have T17 := Lib.hid (T16.out.later HB)
  have L17 := Lib.hid (L16.out.later HB)
  have B17 := Lib.hid (B16.out.trans (HB.mono B16.out.size))
  clear hb HB T16 L16 B16
  go_wp2_with fail
  refine (nst_6 _).mono ?_
  rintro e w18 ⟨⟨sl6, rfl, hr⟩, hb⟩
  replace hb := Lib.hid hb
  have HB : Below w17.heap.size w17 w18 := (by with_reducible (repeat (first | exact Below.refl _ _ | refine below_chain ?_ (Hid.out (by assumption)) | refine below_chain ?_ ((Below.refl _ _).alloc (Nat.le_refl _) _) | refine below_chain ?_ (Below.refl _ _).drew)))
  have T18 := Lib.hid (T17.out.later HB)
  have L18 := Lib.hid (L17.out.later HB)
  have B18 := Lib.hid (B17.out.trans (HB.mono B17.out.size))
  have RX := Lib.hid hr
  clear hr
  clear hb HB T17 L17 B17
  go_wp2_with fail
  refine (rd_n6 _ _ RX.out (by with_reducible (repeat (first | exact T18.out | refine Tab.later ?_ (Hid.out (by assumption)) | refine Tab.later ?_ ((Below.refl _ _).alloc (Nat.le_refl _) _) | refine Tab.later ?_ (Below.refl _ _).drew))) (by with_reducible (repeat (first | exact L18.out | refine Len.later ?_ (Hid.out (by assumption)) | refine Len.later ?_ ((Below.refl _ _).alloc (Nat.le_refl _) _) | refine Len.later ?_ (Below.refl _ _).drew)))).mono ?_
  rintro e w19 ⟨rfl, hb⟩
  replace hb := Lib.hid hb
  have HB : Below w18.heap.size w18 w19 := (by with_reducible (repeat (first | exact Below.refl _ _ | refine below_chain ?_ (Hid.out (by assumption)) | refine below_chain ?_ ((Below.refl _ _).alloc (Nat.le_refl _) _) | refine below_chain ?_ (Below.refl _ _).drew)))
  have T19 := Lib.hid (T18.out.later HB)
  have L19 := Lib.hid (L18.out.later HB)
  have B19 := Lib.hid (B18.out.trans (HB.mono B18.out.size))
  clear RX
  clear hb HB T18 L18 B18
  go_wp2_with fail
  refine (of_law _ _ _).mono ?_
  rintro e w20 ⟨rfl, hb⟩
  replace hb := Lib.hid hb
  have HB : Below w19.heap.size w19 w20 := (by with_reducible (repeat (first | exact Below.refl _ _ | refine below_chain ?_ (Hid.out (by assumption)) | refine below_chain ?_ ((Below.refl _ _).alloc (Nat.le_refl _) _) | refine below_chain ?_ (Below.refl _ _).drew)))
  have T20 := Lib.hid (T19.out.later HB)
  have L20 := Lib.hid (L19.out.later HB)
  have B20 := Lib.hid (B19.out.trans (HB.mono B19.out.size))
  clear hb HB T19 L19 B19
  go_wp2_with fail
  refine (rd_neg _ (by with_reducible (repeat (first | exact T20.out | refine Tab.later ?_ (Hid.out (by assumption)) | refine Tab.later ?_ ((Below.refl _ _).alloc (Nat.le_refl _) _) | refine Tab.later ?_ (Below.refl _ _).drew))) (by with_reducible (repeat (first | exact L20.out | refine Len.later ?_ (Hid.out (by assumption)) | refine Len.later ?_ ((Below.refl _ _).alloc (Nat.le_refl _) _) | refine Len.later ?_ (Below.refl _ _).drew)))).mono ?_
  rintro e w21 ⟨rfl, hb⟩
  replace hb := Lib.hid hb
  have HB : Below w20.heap.size w20 w21 := (by with_reducible (repeat (first | exact Below.refl _ _ | refine below_chain ?_ (Hid.out (by assumption)) | refine below_chain ?_ ((Below.refl _ _).alloc (Nat.le_refl _) _) | refine below_chain ?_ (Below.refl _ _).drew)))
  have T21 := Lib.hid (T20.out.later HB)
  have L21 := Lib.hid (L20.out.later HB)
  have B21 := Lib.hid (B20.out.trans (HB.mono B20.out.size))
  clear hb HB T20 L20 B20
  go_wp2_with fail
  refine (str_law _ _).mono ?_
  rintro e w22 ⟨rfl, hb⟩
  replace hb := Lib.hid hb
  have HB : Below w21.heap.size w21 w22 := (by with_reducible (repeat (first | exact Below.refl _ _ | refine below_chain ?_ (Hid.out (by assumption)) | refine below_chain ?_ ((Below.refl _ _).alloc (Nat.le_refl _) _) | refine below_chain ?_ (Below.refl _ _).drew)))
  have T22 := Lib.hid (T21.out.later HB)
  have L22 := Lib.hid (L21.out.later HB)
  have B22 := Lib.hid (B21.out.trans (HB.mono B21.out.size))
  clear hb HB T21 L21 B21
  go_wp2_with fail
  refine (rd_em _ (by with_reducible (repeat (first | exact T22.out | refine Tab.later ?_ (Hid.out (by assumption)) | refine Tab.later ?_ ((Below.refl _ _).alloc (Nat.le_refl _) _) | refine Tab.later ?_ (Below.refl _ _).drew))) (by with_reducible (repeat (first | exact L22.out | refine Len.later ?_ (Hid.out (by assumption)) | refine Len.later ?_ ((Below.refl _ _).alloc (Nat.le_refl _) _) | refine Len.later ?_ (Below.refl _ _).drew)))).mono ?_
  rintro e w23 ⟨rfl, hb⟩
  replace hb := Lib.hid hb
  have HB : Below w22.heap.size w22 w23 := (by with_reducible (repeat (first | exact Below.refl _ _ | refine below_chain ?_ (Hid.out (by assumption)) | refine below_chain ?_ ((Below.refl _ _).alloc (Nat.le_refl _) _) | refine below_chain ?_ (Below.refl _ _).drew)))
  have T23 := Lib.hid (T22.out.later HB)
  have L23 := Lib.hid (L22.out.later HB)
  have B23 := Lib.hid (B22.out.trans (HB.mono B22.out.size))
  clear hb HB T22 L22 B22
  go_wp2_with fail
  refine (str_law _ _).mono ?_
  rintro e w24 ⟨rfl, hb⟩
  replace hb := Lib.hid hb
  have HB : Below w23.heap.size w23 w24 := (by with_reducible (repeat (first | exact Below.refl _ _ | refine below_chain ?_ (Hid.out (by assumption)) | refine below_chain ?_ ((Below.refl _ _).alloc (Nat.le_refl _) _) | refine below_chain ?_ (Below.refl _ _).drew)))
  have T24 := Lib.hid (T23.out.later HB)
  have L24 := Lib.hid (L23.out.later HB)
  have B24 := Lib.hid (B23.out.trans (HB.mono B23.out.size))
  clear hb HB T23 L23 B23
  go_wp2_with fail
  refine (rd_bs _ (by with_reducible (repeat (first | exact T24.out | refine Tab.later ?_ (Hid.out (by assumption)) | refine Tab.later ?_ ((Below.refl _ _).alloc (Nat.le_refl _) _) | refine Tab.later ?_ (Below.refl _ _).drew))) (by with_reducible (repeat (first | exact L24.out | refine Len.later ?_ (Hid.out (by assumption)) | refine Len.later ?_ ((Below.refl _ _).alloc (Nat.le_refl _) _) | refine Len.later ?_ (Below.refl _ _).drew)))).mono ?_
  rintro e w25 ⟨rfl, hb⟩
  replace hb := Lib.hid hb
  have HB : Below w24.heap.size w24 w25 := (by with_reducible (repeat (first | exact Below.refl _ _ | refine below_chain ?_ (Hid.out (by assumption)) | refine below_chain ?_ ((Below.refl _ _).alloc (Nat.le_refl _) _) | refine below_chain ?_ (Below.refl _ _).drew)))
  have T25 := Lib.hid (T24.out.later HB)
  have L25 := Lib.hid (L24.out.later HB)
  have B25 := Lib.hid (B24.out.trans (HB.mono B24.out.size))
  clear hb HB T24 L24 B24
  go_wp2_with fail
  refine (is_any _ _).mono ?_
  rintro e w26 ⟨rfl, hb⟩
  replace hb := Lib.hid hb
  have HB : Below w25.heap.size w25 w26 := (by with_reducible (repeat (first | exact Below.refl _ _ | refine below_chain ?_ (Hid.out (by assumption)) | refine below_chain ?_ ((Below.refl _ _).alloc (Nat.le_refl _) _) | refine below_chain ?_ (Below.refl _ _).drew)))
  have T26 := Lib.hid (T25.out.later HB)
  have L26 := Lib.hid (L25.out.later HB)
  have B26 := Lib.hid (B25.out.trans (HB.mono B25.out.size))
  clear hb HB T25 L25 B25
  go_wp2_with fail
  refine (rd_fl _ (by with_reducible (repeat (first | exact T26.out | refine Tab.later ?_ (Hid.out (by assumption)) | refine Tab.later ?_ ((Below.refl _ _).alloc (Nat.le_refl _) _) | refine Tab.later ?_ (Below.refl _ _).drew))) (by with_reducible (repeat (first | exact L26.out | refine Len.later ?_ (Hid.out (by assumption)) | refine Len.later ?_ ((Below.refl _ _).alloc (Nat.le_refl _) _) | refine Len.later ?_ (Below.refl _ _).drew)))).mono ?_
  rintro e w27 ⟨rfl, hb⟩
  replace hb := Lib.hid hb
  have HB : Below w26.heap.size w26 w27 := (by with_reducible (repeat (first | exact Below.refl _ _ | refine below_chain ?_ (Hid.out (by assumption)) | refine below_chain ?_ ((Below.refl _ _).alloc (Nat.le_refl _) _) | refine below_chain ?_ (Below.refl _ _).drew)))
  have T27 := Lib.hid (T26.out.later HB)
  have L27 := Lib.hid (L26.out.later HB)
  have B27 := Lib.hid (B26.out.trans (HB.mono B26.out.size))
  clear hb HB T26 L26 B26
  go_wp2_with fail
  go_loopw [3, 4] (fun mv iv wx => ∃ (j : Nat) (v : Value), v = mv ∧ iv = .int .i64 j ∧ j ≤ 99 ∧ OwnL w0.heap.size wx (manyL j) v ∧ Below w0.heap.size w0 wx) (fun _ iv _ => 99 - (intOf iv).toNat)
  case atStart => exact ⟨0, _, rfl, rfl, by omega, OwnL.nil _ _, B27.out⟩
  case round =>
    obtain ⟨j, v, rfl, rfl, hj, hO, hB⟩ := hrel
    have HO := Lib.hid hO
    have T100 := Lib.hid (HT0.out.later hB)
    have L100 := Lib.hid (HL0.out.later hB)
    have B100 := Lib.hid hB
    clear hO hB T27 L27 B27
    obtain ⟨w100, hw⟩ : ∃ W, W = wr := ⟨_, rfl⟩
    subst hw
    by_cases hlt : j < 99
    · have i1 : (j : Int) < 99 := by omega
      go_wp2_with fail
      refine (of_law _ _ _).mono ?_
      rintro e w101 ⟨rfl, hb⟩
      have hO1 := HO.out.later hb
      have B1 := B100.out.trans (hb.mono B100.out.size)
      have hal : Below w101.heap.size w101 (w101.alloc (.cells #[.int .u8 1, .int .i64 0, .int .i64 1, .bool false, .string ⟨#[]⟩, .slice none 0 0] 28)) := (Below.refl _ _).alloc (Nat.le_refl _) _
      have HO2 := Lib.hid (hO1.later hal)
      have HB2 := Lib.hid (B1.trans (hal.mono B1.size))
      have HSn : Hid (∀ j u, (rowL (⟨1, 0, 1, false, ⟨#[]⟩⟩ : Nd) (.slice none 0 0))[j]? = some u → (w101.alloc (.cells #[.int .u8 1, .int .i64 0, .int .i64 1, .bool false, .string ⟨#[]⟩, .slice none 0 0] 28)).cell? ((⟨w101.heap.size, 0, none⟩ : Addr).add j) = some u) := Lib.hid (six_new w101 ⟨1, 0, 1, false, ⟨#[]⟩⟩ (.slice none 0 0) 28)
      have hln : (manyL j).length < 1000000 := by rw [manyL_len]; omega
      clear hb hO1 B1 hal HO T100 L100 B100
      go_wp2_with (at_builtin; refine wpList_append_one rfl _ _ rfl w0.heap.size (manyL j) v rfl HO2.out HB2.out.size (fun _ => False) (fun _ _ h => h.elim) (numV' 0 1) (.slice none 0 0) (RepL.nil _ _ _ _) ⟨w101.heap.size, 0, none⟩ 1 rfl HSn.out hln ?_; intro v' w' hO' hg' ho')
      rw [manyL_succ] at hO'
      have HO3 := Lib.hid hO'
      have HB3 := Lib.hid (below_grown hg' HO2.out (Nat.le_refl _) HB2.out.size HB2.out)
      clear hO' hg' ho'
      go_wp2_with fail
      go_roundw
      case rel => exact ⟨j + 1, v', rfl, by go_num, by omega, HO3.out, HB3.out⟩
      case measure => simp [intOf]; omega
    · obtain rfl : j = 99 := by omega
      have hR := HO.out.rep
      obtain ⟨pm, cm, hv⟩ := hR.slice
      rw [manyL_len] at hv
      subst hv
      have R100 : Hid (RepL Any w100 (manyL 99) (.slice pm 99 cm)) := Lib.hid (hR.weaken fun _ _ _ => trivial)
      clear hR HO hlt hj
      go_wp2_with fail
      refine (list_law _ _ _ _).mono ?_
      rintro e w101 ⟨rfl, hb⟩
      replace hb := Lib.hid hb
      have HB : Below w100.heap.size w100 w101 := (by with_reducible (repeat (first | exact Below.refl _ _ | refine below_chain ?_ (Hid.out (by assumption)) | refine below_chain ?_ ((Below.refl _ _).alloc (Nat.le_refl _) _) | refine below_chain ?_ (Below.refl _ _).drew)))
      have T101 := Lib.hid (T100.out.later HB)
      have L101 := Lib.hid (L100.out.later HB)
      have B101 := Lib.hid (B100.out.trans (HB.mono B100.out.size))
      have R101 := Lib.hid (R100.out.later HB)
      clear hb HB T100 L100 B100 R100
      go_wp2_with fail
      refine (of_law _ _ _).mono ?_
      rintro e w102 ⟨rfl, hb⟩
      replace hb := Lib.hid hb
      have HB : Below w101.heap.size w101 w102 := (by with_reducible (repeat (first | exact Below.refl _ _ | refine below_chain ?_ (Hid.out (by assumption)) | refine below_chain ?_ ((Below.refl _ _).alloc (Nat.le_refl _) _) | refine below_chain ?_ (Below.refl _ _).drew)))
      have T102 := Lib.hid (T101.out.later HB)
      have L102 := Lib.hid (L101.out.later HB)
      have B102 := Lib.hid (B101.out.trans (HB.mono B101.out.size))
      have R102 := Lib.hid (R101.out.later HB)
      clear hb HB T101 L101 B101 R101
      go_wp2_with fail
      refine (list_law _ _ _ _).mono ?_
      rintro e w103 ⟨rfl, hb⟩
      replace hb := Lib.hid hb
      have HB : Below w102.heap.size w102 w103 := (by with_reducible (repeat (first | exact Below.refl _ _ | refine below_chain ?_ (Hid.out (by assumption)) | refine below_chain ?_ ((Below.refl _ _).alloc (Nat.le_refl _) _) | refine below_chain ?_ (Below.refl _ _).drew)))
      have T103 := Lib.hid (T102.out.later HB)
      have L103 := Lib.hid (L102.out.later HB)
      have B103 := Lib.hid (B102.out.trans (HB.mono B102.out.size))
      have R103 := Lib.hid (R102.out.later HB)
      have HX := hb
      clear hb HB T102 L102 B102 R102
      go_wp2_with fail
      refine (ad_many _ _ _ _ _ (by with_reducible (repeat (first | exact RepL.nil _ _ _ _ | exact R103.out | refine rep_one ?_ | refine RepL.later ?_ (Hid.out (by assumption)) | refine RepL.later ?_ ((Below.refl _ _).alloc (Nat.le_refl _) _) | refine RepL.later ?_ (Below.refl _ _).drew))) (by with_reducible (repeat (first | exact RepL.nil _ _ _ _ | exact R103.out | refine rep_one ?_ | refine RepL.later ?_ (Hid.out (by assumption)) | refine RepL.later ?_ ((Below.refl _ _).alloc (Nat.le_refl _) _) | refine RepL.later ?_ (Below.refl _ _).drew)))).mono ?_
      rintro e w104 ⟨rfl, hb⟩
      replace hb := Lib.hid hb
      have HB : Below w103.heap.size w103 w104 := (by with_reducible (repeat (first | exact Below.refl _ _ | refine below_chain ?_ (Hid.out (by assumption)) | refine below_chain ?_ ((Below.refl _ _).alloc (Nat.le_refl _) _) | refine below_chain ?_ (Below.refl _ _).drew)))
      have T104 := Lib.hid (T103.out.later HB)
      have L104 := Lib.hid (L103.out.later HB)
      have B104 := Lib.hid (B103.out.trans (HB.mono B103.out.size))
      have R104 := Lib.hid (R103.out.later HB)
      clear HX
      clear hb HB T103 L103 B103 R103
      go_wp2_with fail
      refine (str_law _ _).mono ?_
      rintro e w105 ⟨rfl, hb⟩
      replace hb := Lib.hid hb
      have HB : Below w104.heap.size w104 w105 := (by with_reducible (repeat (first | exact Below.refl _ _ | refine below_chain ?_ (Hid.out (by assumption)) | refine below_chain ?_ ((Below.refl _ _).alloc (Nat.le_refl _) _) | refine below_chain ?_ (Below.refl _ _).drew)))
      have T105 := Lib.hid (T104.out.later HB)
      have L105 := Lib.hid (L104.out.later HB)
      have B105 := Lib.hid (B104.out.trans (HB.mono B104.out.size))
      have R105 := Lib.hid (R104.out.later HB)
      clear hb HB T104 L104 B104 R104
      go_wp2_with fail
      refine (str_law _ _).mono ?_
      rintro e w106 ⟨rfl, hb⟩
      replace hb := Lib.hid hb
      have HB : Below w105.heap.size w105 w106 := (by with_reducible (repeat (first | exact Below.refl _ _ | refine below_chain ?_ (Hid.out (by assumption)) | refine below_chain ?_ ((Below.refl _ _).alloc (Nat.le_refl _) _) | refine below_chain ?_ (Below.refl _ _).drew)))
      have T106 := Lib.hid (T105.out.later HB)
      have L106 := Lib.hid (L105.out.later HB)
      have B106 := Lib.hid (B105.out.trans (HB.mono B105.out.size))
      have R106 := Lib.hid (R105.out.later HB)
      clear hb HB T105 L105 B105 R105
      go_wp2_with fail
      refine (ad_long _).mono ?_
      rintro e w107 ⟨rfl, hb⟩
      replace hb := Lib.hid hb
      have HB : Below w106.heap.size w106 w107 := (by with_reducible (repeat (first | exact Below.refl _ _ | refine below_chain ?_ (Hid.out (by assumption)) | refine below_chain ?_ ((Below.refl _ _).alloc (Nat.le_refl _) _) | refine below_chain ?_ (Below.refl _ _).drew)))
      have T107 := Lib.hid (T106.out.later HB)
      have L107 := Lib.hid (L106.out.later HB)
      have B107 := Lib.hid (B106.out.trans (HB.mono B106.out.size))
      have R107 := Lib.hid (R106.out.later HB)
      clear hb HB T106 L106 B106 R106
      go_wp2_with fail
      refine (is_any _ _).mono ?_
      rintro e w108 ⟨rfl, hb⟩
      replace hb := Lib.hid hb
      have HB : Below w107.heap.size w107 w108 := (by with_reducible (repeat (first | exact Below.refl _ _ | refine below_chain ?_ (Hid.out (by assumption)) | refine below_chain ?_ ((Below.refl _ _).alloc (Nat.le_refl _) _) | refine below_chain ?_ (Below.refl _ _).drew)))
      have T108 := Lib.hid (T107.out.later HB)
      have L108 := Lib.hid (L107.out.later HB)
      have B108 := Lib.hid (B107.out.trans (HB.mono B107.out.size))
      have R108 := Lib.hid (R107.out.later HB)
      clear hb HB T107 L107 B107 R107
      go_wp2_with fail
      refine (is_any _ _).mono ?_
      rintro e w109 ⟨rfl, hb⟩
      replace hb := Lib.hid hb
      have HB : Below w108.heap.size w108 w109 := (by with_reducible (repeat (first | exact Below.refl _ _ | refine below_chain ?_ (Hid.out (by assumption)) | refine below_chain ?_ ((Below.refl _ _).alloc (Nat.le_refl _) _) | refine below_chain ?_ (Below.refl _ _).drew)))
      have T109 := Lib.hid (T108.out.later HB)
      have L109 := Lib.hid (L108.out.later HB)
      have B109 := Lib.hid (B108.out.trans (HB.mono B108.out.size))
      have R109 := Lib.hid (R108.out.later HB)
      clear hb HB T108 L108 B108 R108
      go_wp2_with fail
      refine (ad_truth _).mono ?_
      rintro e w110 ⟨rfl, hb⟩
      replace hb := Lib.hid hb
      have HB : Below w109.heap.size w109 w110 := (by with_reducible (repeat (first | exact Below.refl _ _ | refine below_chain ?_ (Hid.out (by assumption)) | refine below_chain ?_ ((Below.refl _ _).alloc (Nat.le_refl _) _) | refine below_chain ?_ (Below.refl _ _).drew)))
      have T110 := Lib.hid (T109.out.later HB)
      have L110 := Lib.hid (L109.out.later HB)
      have B110 := Lib.hid (B109.out.trans (HB.mono B109.out.size))
      have R110 := Lib.hid (R109.out.later HB)
      clear hb HB T109 L109 B109 R109
      go_wp2_with fail
      refine (of_law _ _ _).mono ?_
      rintro e w111 ⟨rfl, hb⟩
      replace hb := Lib.hid hb
      have HB : Below w110.heap.size w110 w111 := (by with_reducible (repeat (first | exact Below.refl _ _ | refine below_chain ?_ (Hid.out (by assumption)) | refine below_chain ?_ ((Below.refl _ _).alloc (Nat.le_refl _) _) | refine below_chain ?_ (Below.refl _ _).drew)))
      have T111 := Lib.hid (T110.out.later HB)
      have L111 := Lib.hid (L110.out.later HB)
      have B111 := Lib.hid (B110.out.trans (HB.mono B110.out.size))
      have R111 := Lib.hid (R110.out.later HB)
      clear hb HB T110 L110 B110 R110
      go_wp2_with fail
      refine (at_1 _).mono ?_
      rintro e w112 ⟨rfl, hb⟩
      replace hb := Lib.hid hb
      have HB : Below w111.heap.size w111 w112 := (by with_reducible (repeat (first | exact Below.refl _ _ | refine below_chain ?_ (Hid.out (by assumption)) | refine below_chain ?_ ((Below.refl _ _).alloc (Nat.le_refl _) _) | refine below_chain ?_ (Below.refl _ _).drew)))
      have T112 := Lib.hid (T111.out.later HB)
      have L112 := Lib.hid (L111.out.later HB)
      have B112 := Lib.hid (B111.out.trans (HB.mono B111.out.size))
      have R112 := Lib.hid (R111.out.later HB)
      clear hb HB T111 L111 B111 R111
      go_wp2_with fail
      refine (list_law _ _ _ _).mono ?_
      rintro e w113 ⟨rfl, hb⟩
      replace hb := Lib.hid hb
      have HB : Below w112.heap.size w112 w113 := (by with_reducible (repeat (first | exact Below.refl _ _ | refine below_chain ?_ (Hid.out (by assumption)) | refine below_chain ?_ ((Below.refl _ _).alloc (Nat.le_refl _) _) | refine below_chain ?_ (Below.refl _ _).drew)))
      have T113 := Lib.hid (T112.out.later HB)
      have L113 := Lib.hid (L112.out.later HB)
      have B113 := Lib.hid (B112.out.trans (HB.mono B112.out.size))
      have R113 := Lib.hid (R112.out.later HB)
      clear hb HB T112 L112 B112 R112
      go_wp2_with fail
      refine (at_2 _).mono ?_
      rintro e w114 ⟨rfl, hb⟩
      replace hb := Lib.hid hb
      have HB : Below w113.heap.size w113 w114 := (by with_reducible (repeat (first | exact Below.refl _ _ | refine below_chain ?_ (Hid.out (by assumption)) | refine below_chain ?_ ((Below.refl _ _).alloc (Nat.le_refl _) _) | refine below_chain ?_ (Below.refl _ _).drew)))
      have T114 := Lib.hid (T113.out.later HB)
      have L114 := Lib.hid (L113.out.later HB)
      have B114 := Lib.hid (B113.out.trans (HB.mono B113.out.size))
      have R114 := Lib.hid (R113.out.later HB)
      clear hb HB T113 L113 B113 R113
      go_wp2_with fail
      refine (str_law _ _).mono ?_
      rintro e w115 ⟨rfl, hb⟩
      replace hb := Lib.hid hb
      have HB : Below w114.heap.size w114 w115 := (by with_reducible (repeat (first | exact Below.refl _ _ | refine below_chain ?_ (Hid.out (by assumption)) | refine below_chain ?_ ((Below.refl _ _).alloc (Nat.le_refl _) _) | refine below_chain ?_ (Below.refl _ _).drew)))
      have T115 := Lib.hid (T114.out.later HB)
      have L115 := Lib.hid (L114.out.later HB)
      have B115 := Lib.hid (B114.out.trans (HB.mono B114.out.size))
      have R115 := Lib.hid (R114.out.later HB)
      clear hb HB T114 L114 B114 R114
      go_wp2_with fail
      refine (at_abc _).mono ?_
      rintro e w116 ⟨rfl, hb⟩
      replace hb := Lib.hid hb
      have HB : Below w115.heap.size w115 w116 := (by with_reducible (repeat (first | exact Below.refl _ _ | refine below_chain ?_ (Hid.out (by assumption)) | refine below_chain ?_ ((Below.refl _ _).alloc (Nat.le_refl _) _) | refine below_chain ?_ (Below.refl _ _).drew)))
      have T116 := Lib.hid (T115.out.later HB)
      have L116 := Lib.hid (L115.out.later HB)
      have B116 := Lib.hid (B115.out.trans (HB.mono B115.out.size))
      have R116 := Lib.hid (R115.out.later HB)
      clear hb HB T115 L115 B115 R115
      go_wp2_with fail
      refine (is_any _ _).mono ?_
      rintro e w117 ⟨rfl, hb⟩
      replace hb := Lib.hid hb
      have HB : Below w116.heap.size w116 w117 := (by with_reducible (repeat (first | exact Below.refl _ _ | refine below_chain ?_ (Hid.out (by assumption)) | refine below_chain ?_ ((Below.refl _ _).alloc (Nat.le_refl _) _) | refine below_chain ?_ (Below.refl _ _).drew)))
      have T117 := Lib.hid (T116.out.later HB)
      have L117 := Lib.hid (L116.out.later HB)
      have B117 := Lib.hid (B116.out.trans (HB.mono B116.out.size))
      have R117 := Lib.hid (R116.out.later HB)
      have C117 : Hid (w117.cell? ⟨w116.heap.size, 4, none⟩ = some (.string ⟨#[99]⟩)) := Lib.hid (cell_later (World.cell?_alloc_at _ _ _ _ rfl) hb.out)
      clear hb HB T116 L116 B116 R116
      go_wp2_with fail
      refine (len_t _).mono ?_
      rintro e w118 ⟨rfl, hb⟩
      replace hb := Lib.hid hb
      have HB : Below w117.heap.size w117 w118 := (by with_reducible (repeat (first | exact Below.refl _ _ | refine below_chain ?_ (Hid.out (by assumption)) | refine below_chain ?_ ((Below.refl _ _).alloc (Nat.le_refl _) _) | refine below_chain ?_ (Below.refl _ _).drew)))
      have T118 := Lib.hid (T117.out.later HB)
      have L118 := Lib.hid (L117.out.later HB)
      have B118 := Lib.hid (B117.out.trans (HB.mono B117.out.size))
      have R118 := Lib.hid (R117.out.later HB)
      have C118 := Lib.hid (cell_later C117.out HB)
      clear hb HB T117 L117 B117 R117 C117
      go_wp2_with fail
      refine (num_10 _).mono ?_
      rintro e w119 ⟨rfl, hb⟩
      replace hb := Lib.hid hb
      have HB : Below w118.heap.size w118 w119 := (by with_reducible (repeat (first | exact Below.refl _ _ | refine below_chain ?_ (Hid.out (by assumption)) | refine below_chain ?_ ((Below.refl _ _).alloc (Nat.le_refl _) _) | refine below_chain ?_ (Below.refl _ _).drew)))
      have T119 := Lib.hid (T118.out.later HB)
      have L119 := Lib.hid (L118.out.later HB)
      have B119 := Lib.hid (B118.out.trans (HB.mono B118.out.size))
      have R119 := Lib.hid (R118.out.later HB)
      have C119 := Lib.hid (cell_later C118.out HB)
      clear hb HB T118 L118 B118 R118 C118
      go_wp2_with fail
      refine (nst_7 _).mono ?_
      rintro e w120 ⟨⟨sl7, rfl, hr⟩, hb⟩
      replace hb := Lib.hid hb
      have HB : Below w119.heap.size w119 w120 := (by with_reducible (repeat (first | exact Below.refl _ _ | refine below_chain ?_ (Hid.out (by assumption)) | refine below_chain ?_ ((Below.refl _ _).alloc (Nat.le_refl _) _) | refine below_chain ?_ (Below.refl _ _).drew)))
      have T120 := Lib.hid (T119.out.later HB)
      have L120 := Lib.hid (L119.out.later HB)
      have B120 := Lib.hid (B119.out.trans (HB.mono B119.out.size))
      have R120 := Lib.hid (R119.out.later HB)
      have C120 := Lib.hid (cell_later C119.out HB)
      have RX := Lib.hid hr
      clear hr
      clear hb HB T119 L119 B119 R119 C119
      go_wp2_with fail
      refine (ck_n7 _ _ RX.out).mono ?_
      rintro e w121 ⟨rfl, hb⟩
      replace hb := Lib.hid hb
      have HB : Below w120.heap.size w120 w121 := (by with_reducible (repeat (first | exact Below.refl _ _ | refine below_chain ?_ (Hid.out (by assumption)) | refine below_chain ?_ ((Below.refl _ _).alloc (Nat.le_refl _) _) | refine below_chain ?_ (Below.refl _ _).drew)))
      have T121 := Lib.hid (T120.out.later HB)
      have L121 := Lib.hid (L120.out.later HB)
      have B121 := Lib.hid (B120.out.trans (HB.mono B120.out.size))
      have R121 := Lib.hid (R120.out.later HB)
      have C121 := Lib.hid (cell_later C120.out HB)
      clear RX
      clear hb HB T120 L120 B120 R120 C120
      go_wp2_with fail
      refine (list_law _ _ _ _).mono ?_
      rintro e w122 ⟨rfl, hb⟩
      replace hb := Lib.hid hb
      have HB : Below w121.heap.size w121 w122 := (by with_reducible (repeat (first | exact Below.refl _ _ | refine below_chain ?_ (Hid.out (by assumption)) | refine below_chain ?_ ((Below.refl _ _).alloc (Nat.le_refl _) _) | refine below_chain ?_ (Below.refl _ _).drew)))
      have T122 := Lib.hid (T121.out.later HB)
      have L122 := Lib.hid (L121.out.later HB)
      have B122 := Lib.hid (B121.out.trans (HB.mono B121.out.size))
      have R122 := Lib.hid (R121.out.later HB)
      have C122 := Lib.hid (cell_later C121.out HB)
      clear hb HB T121 L121 B121 R121 C121
      go_wp2_with fail
      refine (ck_many _ _ _ (by with_reducible (repeat (first | exact RepL.nil _ _ _ _ | exact R122.out | refine rep_one ?_ | refine RepL.later ?_ (Hid.out (by assumption)) | refine RepL.later ?_ ((Below.refl _ _).alloc (Nat.le_refl _) _) | refine RepL.later ?_ (Below.refl _ _).drew)))).mono ?_
      rintro e w123 ⟨rfl, hb⟩
      replace hb := Lib.hid hb
      have HB : Below w122.heap.size w122 w123 := (by with_reducible (repeat (first | exact Below.refl _ _ | refine below_chain ?_ (Hid.out (by assumption)) | refine below_chain ?_ ((Below.refl _ _).alloc (Nat.le_refl _) _) | refine below_chain ?_ (Below.refl _ _).drew)))
      have T123 := Lib.hid (T122.out.later HB)
      have L123 := Lib.hid (L122.out.later HB)
      have B123 := Lib.hid (B122.out.trans (HB.mono B122.out.size))
      have R123 := Lib.hid (R122.out.later HB)
      have C123 := Lib.hid (cell_later C122.out HB)
      clear hb HB T122 L122 B122 R122 C122
      go_wp2_with fail
      refine (list_law _ _ _ _).mono ?_
      rintro e w124 ⟨rfl, hb⟩
      replace hb := Lib.hid hb
      have HB : Below w123.heap.size w123 w124 := (by with_reducible (repeat (first | exact Below.refl _ _ | refine below_chain ?_ (Hid.out (by assumption)) | refine below_chain ?_ ((Below.refl _ _).alloc (Nat.le_refl _) _) | refine below_chain ?_ (Below.refl _ _).drew)))
      have T124 := Lib.hid (T123.out.later HB)
      have L124 := Lib.hid (L123.out.later HB)
      have B124 := Lib.hid (B123.out.trans (HB.mono B123.out.size))
      have R124 := Lib.hid (R123.out.later HB)
      have C124 := Lib.hid (cell_later C123.out HB)
      clear hb HB T123 L123 B123 R123 C123
      go_wp2_with fail
      refine (list_law _ _ _ _).mono ?_
      rintro e w125 ⟨rfl, hb⟩
      replace hb := Lib.hid hb
      have HB : Below w124.heap.size w124 w125 := (by with_reducible (repeat (first | exact Below.refl _ _ | refine below_chain ?_ (Hid.out (by assumption)) | refine below_chain ?_ ((Below.refl _ _).alloc (Nat.le_refl _) _) | refine below_chain ?_ (Below.refl _ _).drew)))
      have T125 := Lib.hid (T124.out.later HB)
      have L125 := Lib.hid (L124.out.later HB)
      have B125 := Lib.hid (B124.out.trans (HB.mono B124.out.size))
      have R125 := Lib.hid (R124.out.later HB)
      have C125 := Lib.hid (cell_later C124.out HB)
      have HX := hb
      have RY := R124
      clear hb HB T124 L124 B124 R124 C124
      go_wp2_with fail
      refine (ck_lmany _ _ _ (by with_reducible (repeat (first | exact RepL.nil _ _ _ _ | exact RY.out | exact R125.out | refine rep_one ?_ | refine RepL.later ?_ (Hid.out (by assumption)) | refine RepL.later ?_ ((Below.refl _ _).alloc (Nat.le_refl _) _) | refine RepL.later ?_ (Below.refl _ _).drew)))).mono ?_
      rintro e w126 ⟨rfl, hb⟩
      replace hb := Lib.hid hb
      have HB : Below w125.heap.size w125 w126 := (by with_reducible (repeat (first | exact Below.refl _ _ | refine below_chain ?_ (Hid.out (by assumption)) | refine below_chain ?_ ((Below.refl _ _).alloc (Nat.le_refl _) _) | refine below_chain ?_ (Below.refl _ _).drew)))
      have T126 := Lib.hid (T125.out.later HB)
      have L126 := Lib.hid (L125.out.later HB)
      have B126 := Lib.hid (B125.out.trans (HB.mono B125.out.size))
      have R126 := Lib.hid (R125.out.later HB)
      have C126 := Lib.hid (cell_later C125.out HB)
      clear HX RY
      clear hb HB T125 L125 B125 R125 C125
      go_wp2_with fail
      refine (ck_zero _).mono ?_
      rintro e w127 ⟨rfl, hb⟩
      replace hb := Lib.hid hb
      have HB : Below w126.heap.size w126 w127 := (by with_reducible (repeat (first | exact Below.refl _ _ | refine below_chain ?_ (Hid.out (by assumption)) | refine below_chain ?_ ((Below.refl _ _).alloc (Nat.le_refl _) _) | refine below_chain ?_ (Below.refl _ _).drew)))
      have T127 := Lib.hid (T126.out.later HB)
      have L127 := Lib.hid (L126.out.later HB)
      have B127 := Lib.hid (B126.out.trans (HB.mono B126.out.size))
      have R127 := Lib.hid (R126.out.later HB)
      have C127 := Lib.hid (cell_later C126.out HB)
      clear hb HB T126 L126 B126 R126 C126
      go_wp2_with fail
      refine (ck_x _).mono ?_
      rintro e w128 ⟨rfl, hb⟩
      replace hb := Lib.hid hb
      have HB : Below w127.heap.size w127 w128 := (by with_reducible (repeat (first | exact Below.refl _ _ | refine below_chain ?_ (Hid.out (by assumption)) | refine below_chain ?_ ((Below.refl _ _).alloc (Nat.le_refl _) _) | refine below_chain ?_ (Below.refl _ _).drew)))
      have T128 := Lib.hid (T127.out.later HB)
      have L128 := Lib.hid (L127.out.later HB)
      have B128 := Lib.hid (B127.out.trans (HB.mono B127.out.size))
      have R128 := Lib.hid (R127.out.later HB)
      have C128 := Lib.hid (cell_later C127.out HB)
      clear hb HB T127 L127 B127 R127 C127
      go_wp2_with fail
      refine (str_law _ _).mono ?_
      rintro e w129 ⟨rfl, hb⟩
      replace hb := Lib.hid hb
      have HB : Below w128.heap.size w128 w129 := (by with_reducible (repeat (first | exact Below.refl _ _ | refine below_chain ?_ (Hid.out (by assumption)) | refine below_chain ?_ ((Below.refl _ _).alloc (Nat.le_refl _) _) | refine below_chain ?_ (Below.refl _ _).drew)))
      have T129 := Lib.hid (T128.out.later HB)
      have L129 := Lib.hid (L128.out.later HB)
      have B129 := Lib.hid (B128.out.trans (HB.mono B128.out.size))
      have R129 := Lib.hid (R128.out.later HB)
      have C129 := Lib.hid (cell_later C128.out HB)
      clear hb HB T128 L128 B128 R128 C128
      go_wp2_with fail
      refine (ck_nl _).mono ?_
      rintro e w130 ⟨rfl, hb⟩
      replace hb := Lib.hid hb
      have HB : Below w129.heap.size w129 w130 := (by with_reducible (repeat (first | exact Below.refl _ _ | refine below_chain ?_ (Hid.out (by assumption)) | refine below_chain ?_ ((Below.refl _ _).alloc (Nat.le_refl _) _) | refine below_chain ?_ (Below.refl _ _).drew)))
      have T130 := Lib.hid (T129.out.later HB)
      have L130 := Lib.hid (L129.out.later HB)
      have B130 := Lib.hid (B129.out.trans (HB.mono B129.out.size))
      have R130 := Lib.hid (R129.out.later HB)
      have C130 := Lib.hid (cell_later C129.out HB)
      clear hb HB T129 L129 B129 R129 C129
      go_wp2_with fail
      refine (of_law _ _ _).mono ?_
      rintro e w131 ⟨rfl, hb⟩
      replace hb := Lib.hid hb
      have HB : Below w130.heap.size w130 w131 := (by with_reducible (repeat (first | exact Below.refl _ _ | refine below_chain ?_ (Hid.out (by assumption)) | refine below_chain ?_ ((Below.refl _ _).alloc (Nat.le_refl _) _) | refine below_chain ?_ (Below.refl _ _).drew)))
      have T131 := Lib.hid (T130.out.later HB)
      have L131 := Lib.hid (L130.out.later HB)
      have B131 := Lib.hid (B130.out.trans (HB.mono B130.out.size))
      have R131 := Lib.hid (R130.out.later HB)
      have C131 := Lib.hid (cell_later C130.out HB)
      clear hb HB T130 L130 B130 R130 C130
      go_wp2_with fail
      refine (ck_24 _).mono ?_
      rintro e w132 ⟨rfl, hb⟩
      replace hb := Lib.hid hb
      have HB : Below w131.heap.size w131 w132 := (by with_reducible (repeat (first | exact Below.refl _ _ | refine below_chain ?_ (Hid.out (by assumption)) | refine below_chain ?_ ((Below.refl _ _).alloc (Nat.le_refl _) _) | refine below_chain ?_ (Below.refl _ _).drew)))
      have T132 := Lib.hid (T131.out.later HB)
      have L132 := Lib.hid (L131.out.later HB)
      have B132 := Lib.hid (B131.out.trans (HB.mono B131.out.size))
      have R132 := Lib.hid (R131.out.later HB)
      have C132 := Lib.hid (cell_later C131.out HB)
      clear hb HB T131 L131 B131 R131 C131
      go_wp2_with fail
      refine (ck_5 _).mono ?_
      rintro e w133 ⟨rfl, hb⟩
      replace hb := Lib.hid hb
      have HB : Below w132.heap.size w132 w133 := (by with_reducible (repeat (first | exact Below.refl _ _ | refine below_chain ?_ (Hid.out (by assumption)) | refine below_chain ?_ ((Below.refl _ _).alloc (Nat.le_refl _) _) | refine below_chain ?_ (Below.refl _ _).drew)))
      have T133 := Lib.hid (T132.out.later HB)
      have L133 := Lib.hid (L132.out.later HB)
      have B133 := Lib.hid (B132.out.trans (HB.mono B132.out.size))
      have R133 := Lib.hid (R132.out.later HB)
      have C133 := Lib.hid (cell_later C132.out HB)
      clear hb HB T132 L132 B132 R132 C132
      go_wp2_with fail
      refine (list_law _ _ _ _).mono ?_
      rintro e w134 ⟨rfl, hb⟩
      replace hb := Lib.hid hb
      have HB : Below w133.heap.size w133 w134 := (by with_reducible (repeat (first | exact Below.refl _ _ | refine below_chain ?_ (Hid.out (by assumption)) | refine below_chain ?_ ((Below.refl _ _).alloc (Nat.le_refl _) _) | refine below_chain ?_ (Below.refl _ _).drew)))
      have T134 := Lib.hid (T133.out.later HB)
      have L134 := Lib.hid (L133.out.later HB)
      have B134 := Lib.hid (B133.out.trans (HB.mono B133.out.size))
      have R134 := Lib.hid (R133.out.later HB)
      have C134 := Lib.hid (cell_later C133.out HB)
      have HX := hb
      clear hb HB T133 L133 B133 R133 C133
      go_wp2_with fail
      refine (ck_lzero _ _ _ (by with_reducible (repeat (first | exact RepL.nil _ _ _ _ | exact R134.out | refine rep_one ?_ | refine RepL.later ?_ (Hid.out (by assumption)) | refine RepL.later ?_ ((Below.refl _ _).alloc (Nat.le_refl _) _) | refine RepL.later ?_ (Below.refl _ _).drew)))).mono ?_
      rintro e w135 ⟨rfl, hb⟩
      replace hb := Lib.hid hb
      have HB : Below w134.heap.size w134 w135 := (by with_reducible (repeat (first | exact Below.refl _ _ | refine below_chain ?_ (Hid.out (by assumption)) | refine below_chain ?_ ((Below.refl _ _).alloc (Nat.le_refl _) _) | refine below_chain ?_ (Below.refl _ _).drew)))
      have T135 := Lib.hid (T134.out.later HB)
      have L135 := Lib.hid (L134.out.later HB)
      have B135 := Lib.hid (B134.out.trans (HB.mono B134.out.size))
      have R135 := Lib.hid (R134.out.later HB)
      have C135 := Lib.hid (cell_later C134.out HB)
      clear HX
      clear hb HB T134 L134 B134 R134 C134
      have c4 := C135.out
      go_wp2_with fail
      refine (is_any _ _).mono ?_
      rintro e w136 ⟨rfl, hb⟩
      replace hb := Lib.hid hb
      have HB : Below w135.heap.size w135 w136 := (by with_reducible (repeat (first | exact Below.refl _ _ | refine below_chain ?_ (Hid.out (by assumption)) | refine below_chain ?_ ((Below.refl _ _).alloc (Nat.le_refl _) _) | refine below_chain ?_ (Below.refl _ _).drew)))
      have T136 := Lib.hid (T135.out.later HB)
      have L136 := Lib.hid (L135.out.later HB)
      have B136 := Lib.hid (B135.out.trans (HB.mono B135.out.size))
      have R136 := Lib.hid (R135.out.later HB)
      have C136 := Lib.hid (cell_later C135.out HB)
      clear hb HB T135 L135 B135 R135 C135
      clear c4
      go_wp2_with fail
      refine (is_any _ _).mono ?_
      rintro e w137 ⟨rfl, hb⟩
      replace hb := Lib.hid hb
      have HB : Below w136.heap.size w136 w137 := (by with_reducible (repeat (first | exact Below.refl _ _ | refine below_chain ?_ (Hid.out (by assumption)) | refine below_chain ?_ ((Below.refl _ _).alloc (Nat.le_refl _) _) | refine below_chain ?_ (Below.refl _ _).drew)))
      have T137 := Lib.hid (T136.out.later HB)
      have L137 := Lib.hid (L136.out.later HB)
      have B137 := Lib.hid (B136.out.trans (HB.mono B136.out.size))
      have R137 := Lib.hid (R136.out.later HB)
      have C137 := Lib.hid (cell_later C136.out HB)
      clear hb HB T136 L136 B136 R136 C136
      go_wp2_with fail
      refine (cmp_t _).mono ?_
      rintro e w138 ⟨rfl, hb⟩
      replace hb := Lib.hid hb
      have HB : Below w137.heap.size w137 w138 := (by with_reducible (repeat (first | exact Below.refl _ _ | refine below_chain ?_ (Hid.out (by assumption)) | refine below_chain ?_ ((Below.refl _ _).alloc (Nat.le_refl _) _) | refine below_chain ?_ (Below.refl _ _).drew)))
      have T138 := Lib.hid (T137.out.later HB)
      have L138 := Lib.hid (L137.out.later HB)
      have B138 := Lib.hid (B137.out.trans (HB.mono B137.out.size))
      have R138 := Lib.hid (R137.out.later HB)
      have C138 := Lib.hid (cell_later C137.out HB)
      clear hb HB T137 L137 B137 R137 C137
      go_wp2_with fail
      refine (alive_any _ (by with_reducible (repeat (first | exact T138.out | refine Tab.later ?_ (Hid.out (by assumption)) | refine Tab.later ?_ ((Below.refl _ _).alloc (Nat.le_refl _) _) | refine Tab.later ?_ (Below.refl _ _).drew))) (by with_reducible (repeat (first | exact L138.out | refine Len.later ?_ (Hid.out (by assumption)) | refine Len.later ?_ ((Below.refl _ _).alloc (Nat.le_refl _) _) | refine Len.later ?_ (Below.refl _ _).drew)))).mono ?_
      rintro e w139 ⟨rfl, hb⟩
      replace hb := Lib.hid hb
      have HB : Below w138.heap.size w138 w139 := (by with_reducible (repeat (first | exact Below.refl _ _ | refine below_chain ?_ (Hid.out (by assumption)) | refine below_chain ?_ ((Below.refl _ _).alloc (Nat.le_refl _) _) | refine below_chain ?_ (Below.refl _ _).drew)))
      have T139 := Lib.hid (T138.out.later HB)
      have L139 := Lib.hid (L138.out.later HB)
      have B139 := Lib.hid (B138.out.trans (HB.mono B138.out.size))
      have R139 := Lib.hid (R138.out.later HB)
      have C139 := Lib.hid (cell_later C138.out HB)
      clear hb HB T138 L138 B138 R138 C138
      go_wp2_with fail
      go_ret
      exact ⟨rfl, B139.out⟩
end Go.Proofs.YtakjgjhjndiggaaGreatDoor
