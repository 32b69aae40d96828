/-
  What Same hands back of a value and its like. What valid and ValueBack hand back.
-/
import Derived.Test.YtakjgjhjndiggaaGreatDoorValKeysAll
import Derived.Test.YtakjgjhjndiggaaGreatDoorValTwin
import Derived.Test.YtakjgjhjndiggaaGreatDoorValMk
import Derived.Deep.RegionHeld3
import Derived.Deep.Cut
import Derived.Deep.CutRange
import Derived.Test.YtakjgjhjndiggaaGreatDoorValAlTwo
import Derived.Test.YtakjgjhjndiggaaGreatDoorValRefCheck
import Derived.Test.YtakjgjhjndiggaaGreatDoorValTextB
namespace Go.Proofs.YtakjgjhjndiggaaGreatDoor
open Go.RowKit Go.Shelf
open VM
set_option linter.unusedVariables false
set_option linter.unusedSimpArgs false

theorem cells_of_cell {w : World} {b o : Nat} {v : Value} (h : w.cell? ⟨b, o, none⟩ = some v) : ∃ cs t f, w.heap[b]? = some (.cells cs t f) := by
  unfold World.cell? at h
  dsimp only at h
  split at h
  · rename_i c t f e; exact ⟨c, t, f, e⟩
  · cases h
/-- Where a list's extent lies. -/
def extP (l : List V) (p : Option Addr) : Option Addr := if l.length = 0 then none else p
theorem ext_ptr {B : Nat} {w : World} {l : List V} {p : Option Addr} {cap : Nat} (h : RepL (· < B) w l (.slice p l.length cap)) : PtrOk B w (.pointer (extP l p)) := by
  unfold extP
  split
  · exact .inl rfl
  · rename_i hl
    obtain ⟨b, off, rfl, hq, hlt, hz⟩ := h.free (fun e => hl (by rw [e]; rfl))
    obtain ⟨b', off', S, e, -, -, hrow, -⟩ := h.at (Nat.pos_of_ne_zero hl)
    cases e
    obtain ⟨cs, t, f, hc⟩ := cells_of_cell hrow.c0
    exact .inr ⟨b, off, cs, t, f, hq, rfl, hc, hz⟩
theorem ext_any {B : Nat} {l : List V} {p : Option Addr} {cap : Nat} {w : World} (h : RepL (· < B) w l (.slice p l.length cap)) (hlen : l.length ≤ 1000000) :
    Calls Tryz.prog 52 #[.slice p l.length cap] w fun e w' => e = .returned (.agg #[.pointer (extP l p), .int .i64 l.length]) ∧ Below w.heap.size w w' := by
  by_cases hl : l.length = 0
  · have he : extP l p = none := by unfold extP; rw [if_pos hl]
    rw [he, hl]
    clear h
    go_enter Tryz.func52, Tryz.ntmps52
    go_wp2_with fail
    exact bodyPost_ret (v := .agg #[.pointer none, .int .i64 0]) (by simp [results, Tryz.results52, go_sem] <;> rfl) rfl ⟨rfl, (Below.refl _ _).alloc (Nat.le_refl _) _⟩
  · have he : extP l p = p := by unfold extP; rw [if_neg hl]
    rw [he]
    obtain ⟨b, off, rfl, hq, hlt, hz⟩ := h.free (fun e => hl (by rw [e]; rfl))
    have h1 : ((l.length : Int) == 0) = false := by rw [beq_eq_false_iff_ne]; omega
    have h2 : (0 : Int) < (l.length : Int) := by omega
    clear h he
    go_enter Tryz.func52, Tryz.ntmps52
    go_wp2_with fail
    exact bodyPost_ret (v := .agg #[.pointer (some ⟨b, off, none⟩), .int .i64 l.length]) (by simp [results, Tryz.results52, go_sem] <;> rfl) rfl ⟨rfl, (Below.refl _ _).alloc (Nat.le_refl _) _⟩
/-- Where Same's walk stands: its two variables and its map. -/
structure SamAt (B c1 c2 m : Nat) (w : World) : Prop where
  b1 : B ≤ c1
  b2 : B ≤ c2
  bm : B ≤ m
  x1 : w.heap[c1]? = some (.cells #[.map (some m)] 79 (0, 0))
  x2 : w.heap[c2]? = some (.cells #[.func (.func 51) #[] #[.pointer (some ⟨c1, 0, none⟩), .pointer (some ⟨c2, 0, none⟩)]] 53 (0, 0))
  mp : Mapped B m w
theorem SamAt.size {B c1 c2 m : Nat} {w : World} (h : SamAt B c1 c2 m w) : B ≤ w.heap.size := Nat.le_of_lt (Nat.lt_of_le_of_lt h.b1 (lt_of_block h.x1))
theorem SamAt.kept {B c1 c2 m : Nat} {w w1 : World} (h : SamAt B c1 c2 m w) (k : KpC B B w w1) (hm : Mapped B m w1) : SamAt B c1 c2 m w1 :=
  ⟨h.b1, h.b2, h.bm, k.2 _ _ _ _ h.b1 h.x1, k.2 _ _ _ _ h.b2 h.x2, hm⟩
theorem SamAt.later {B c1 c2 m : Nat} {w w1 : World} (h : SamAt B c1 c2 m w) (k : Below w.heap.size w w1) : SamAt B c1 c2 m w1 := by
  obtain ⟨es, c, hm, -⟩ := id h.mp
  exact h.kept (KpC.of k h.size) (h.mp.of_heap (k.block m (lt_of_block hm)) fun b hb => k.block b (Nat.lt_of_lt_of_le hb h.size))
theorem RepL.kpc {n B : Nat} {w w' : World} {l : List V} {sl : Value} (h : RepL (· < n) w l sl) (hb : KpC n B w w') : RepL (· < n) w' l sl := h.kept hb.1
theorem KpC.undrew {n B k : Nat} {w w' : World} (h : KpC n B (w.drewN k) w') : KpC n B w w' := ⟨⟨h.1.os, h.1.tape, h.1.output, h.1.size, h.1.block⟩, h.2⟩
theorem KpC.drewN {n B k : Nat} {w w' : World} (h : KpC n B w w') : KpC n B w (w'.drewN k) := ⟨⟨h.1.os, h.1.tape, h.1.output, h.1.size, h.1.block⟩, h.2⟩
theorem Six.kpc {n B g : Nat} {w w' : World} {a : Nd} {sl : Value} (h : Six w g a sl) (hg : B ≤ g) (hk : KpC n B w w') : Six w' g a sl := hk.2 _ _ _ _ hg h
/-- What Same's walk hands back. -/
def SamEnd (B m : Nat) (w : World) (e : Ending) (w' : World) : Prop := e = .returned (.bool true) ∧ KpC B B w w' ∧ Mapped B m w'
set_option maxHeartbeats 1000000 in
set_option maxRecDepth 100000 in
theorem eqf_any (B c1 c2 m : Nat) (l : List V) (hlen : l.length ≤ 1000000)
    (HI : ∀ x ∈ l, ∀ (S T : Value) (w : World), SamAt B c1 c2 m w → RepL (· < B) w x.list S → RepL (· < B) w x.list T →
      Calls Tryz.prog 51 #[.agg #[.int .u8 x.nd.k, .int .i64 x.nd.n, .int .i64 x.nd.d, .bool x.nd.t, .string x.nd.s, S], .agg #[.int .u8 x.nd.k, .int .i64 x.nd.n, .int .i64 x.nd.d, .bool x.nd.t, .string x.nd.s, T], .pointer (some ⟨c1, 0, none⟩), .pointer (some ⟨c2, 0, none⟩)] w (SamEnd B m w))
    (p q : Option Addr) (cp cq : Nat) (w : World) (hS : SamAt B c1 c2 m w) (hr : RepL (· < B) w l (.slice p l.length cp)) (hs : RepL (· < B) w l (.slice q l.length cq)) :
    Calls Tryz.prog 53 #[.slice p l.length cp, .slice q l.length cq, .func (.func 51) #[] #[.pointer (some ⟨c1, 0, none⟩), .pointer (some ⟨c2, 0, none⟩)]] w (SamEnd B m w) := by
  have HI := Lib.hid HI
  have HR := Lib.hid hr
  have HT := Lib.hid hs
  have HS := Lib.hid hS
  clear hS hr hs
  go_enter Tryz.func53, Tryz.ntmps53
  go_wp2_with fail
  go_loopw [17] (fun i wr => ∃ j : Nat, j ≤ l.length ∧ i = .int .i64 j ∧ KpC B B w wr ∧ SamAt B c1 c2 m wr) (fun i _ => l.length - (intOf i).toNat)
  case atStart => exact ⟨0, Nat.zero_le _, rfl, KpC.refl _ _ _, HS.out⟩
  case round =>
    obtain ⟨j, hj, rfl, hk, hS⟩ := hrel
    have HK := Lib.hid hk
    have HSj := Lib.hid hS
    clear hk hS
    by_cases hlt : j < l.length
    · obtain ⟨b, off, S, rfl, hq, hb, R, hR⟩ := (HR.out.kpc HK.out).at hlt
      obtain ⟨b2, off2, S2, rfl, hq2, hb2, R2, hR2⟩ := (HT.out.kpc HK.out).at hlt
      obtain ⟨pS, cS, rfl⟩ := hR.slice
      obtain ⟨pT, cT, rfl⟩ := hR2.slice
      have r0 := R.c0
      have r1 := R.c1
      have r2 := R.c2
      have r3 := R.c3
      have r4 := R.c4
      have r5 := R.c5
      have s0 := R2.c0
      have s1 := R2.c1
      have s2 := R2.c2
      have s3 := R2.c3
      have s4 := R2.c4
      have s5 := R2.c5
      have HB : Hid (∀ o1 o2 : Obj, Below wr.heap.size wr ((wr.alloc o1).alloc o2)) := Lib.hid fun o1 o2 => ((Below.refl _ _).alloc (Nat.le_refl _) _).alloc (by simp) _
      have HC : Hid (∀ o1 o2 : Obj, Calls Tryz.prog 51 #[.agg #[.int .u8 l[j].nd.k, .int .i64 l[j].nd.n, .int .i64 l[j].nd.d, .bool l[j].nd.t, .string l[j].nd.s, .slice pS l[j].list.length cS], .agg #[.int .u8 l[j].nd.k, .int .i64 l[j].nd.n, .int .i64 l[j].nd.d, .bool l[j].nd.t, .string l[j].nd.s, .slice pT l[j].list.length cT], .pointer (some ⟨c1, 0, none⟩), .pointer (some ⟨c2, 0, none⟩)] ((wr.alloc o1).alloc o2) (SamEnd B m ((wr.alloc o1).alloc o2))) := Lib.hid fun o1 o2 =>
        HI.out l[j] (List.getElem_mem hlt) _ _ _ (HSj.out.later (HB.out o1 o2)) (hR.later (HB.out o1 o2)) (hR2.later (HB.out o1 o2))
      have i1 : (0 : Int) ≤ (j : Int) := by omega
      have i2 : (j : Int) < (l.length : Int) := by omega
      generalize l[j].list.length = nS at r5 s5 HC
      generalize l[j].nd = x at r0 r1 r2 r3 r4 s0 s1 s2 s3 s4 HC
      clear R hR R2 hR2 hq hq2
      go_wp2_with fail
      refine (HC.out _ _).mono ?_
      rintro e w1 ⟨rfl, hk1, hm1⟩
      have HK1 := Lib.hid ((KpC.of (HB.out _ _) HSj.out.size).trans hk1)
      have HS1 := Lib.hid (HSj.out.kept HK1.out hm1)
      clear hk1 hm1
      go_wp2_with fail
      go_roundw
      case rel => exact ⟨j + 1, by omega, by go_num, HK.out.trans HK1.out, HS1.out⟩
      case measure => simp [intOf]; omega
    · obtain rfl : j = l.length := by omega
      go_wp2_with fail
      go_ret
      exact ⟨rfl, HK.out, HSj.out.mp⟩
theorem cell_swap {w : World} {x y : Obj} {b o : Nat} {v : Value} (h : (w.alloc x).cell? ⟨b, o, none⟩ = some v) (hb : b < w.heap.size) : (w.alloc y).cell? ⟨b, o, none⟩ = some v := by
  have h1 : ∀ z, (w.alloc z).heap[b]? = w.heap[b]? := fun z => ((Below.refl w.heap.size w).alloc (Nat.le_refl _) z).block b hb
  rw [cell_of_heap (h1 x)] at h
  rw [cell_of_heap (h1 y)]; exact h
theorem cell_put {w : World} {b o g k : Nat} {v x : Value} (h : w.cell? ⟨b, o, none⟩ = some v) (hb : b ≠ g) : (w.setCell ⟨g, k, none⟩ x).cell? ⟨b, o, none⟩ = some v :=
  (cell_of_heap (Below.heap_setCell _ _ _ _ hb) o).trans h
theorem World.size_drew (w : World) : w.drew.heap.size = w.heap.size := rfl
/-- Four cells in a block of their own. -/
structure Four (w : World) (g : Nat) (x y z u : Value) : Prop where
  blk : w.heap[g]? = some (.cells #[x, y, z, u] 84 (0, 0))
theorem Four.lt {w : World} {g : Nat} {x y z u : Value} (h : Four w g x y z u) : g < w.heap.size := lt_of_block h.blk
theorem Four.c0 {w : World} {g : Nat} {x y z u : Value} (h : Four w g x y z u) : w.cell? ⟨g, 0, none⟩ = some x := by simp [World.cell?, h.blk]
theorem Four.c1 {w : World} {g : Nat} {x y z u : Value} (h : Four w g x y z u) : w.cell? ⟨g, 1, none⟩ = some y := by simp [World.cell?, h.blk]
theorem Four.c2 {w : World} {g : Nat} {x y z u : Value} (h : Four w g x y z u) : w.cell? ⟨g, 2, none⟩ = some z := by simp [World.cell?, h.blk]
theorem Four.c3 {w : World} {g : Nat} {x y z u : Value} (h : Four w g x y z u) : w.cell? ⟨g, 3, none⟩ = some u := by simp [World.cell?, h.blk]
theorem Four.free {w : World} {g : Nat} {x y z u : Value} (h : Four w g x y z u) (o : Nat) : w.frozen? ⟨g, o, none⟩ = false := by simp [World.frozen?, h.blk]
theorem Four.then {w w' : World} {x y z u : Value} (hb : Below (w.alloc (.cells #[x, y, z, u] 84)).heap.size (w.alloc (.cells #[x, y, z, u] 84)) w') : Four w' w.heap.size x y z u :=
  ⟨(hb.block _ (by simp)).trans (heap_alloc_new _ _)⟩
theorem Four.thenD {w w' : World} {x y z u : Value} (hb : Below (w.alloc (.cells #[x, y, z, u] 84)).drew.heap.size (w.alloc (.cells #[x, y, z, u] 84)).drew w') : Four w' w.heap.size x y z u :=
  ⟨(hb.block _ (by simp [World.drew])).trans (heap_alloc_new _ _)⟩
theorem Four.later {w w' : World} {g : Nat} {x y z u : Value} (h : Four w g x y z u) (hb : Below w.heap.size w w') : Four w' g x y z u :=
  ⟨(hb.block _ (lt_of_block h.blk)).trans h.blk⟩
theorem Four.new (w : World) (x y z u : Value) : Four (w.alloc (.cells #[x, y, z, u] 84)) w.heap.size x y z u := ⟨heap_alloc_new _ _⟩
theorem Four.set {w : World} {g : Nat} {x y z u : Value} (h : Four w g x y z u) (x' y' z' u' : Value) : Four ((((w.setCell ⟨g, 0, none⟩ x').setCell ⟨g, 1, none⟩ y').setCell ⟨g, 2, none⟩ z').setCell ⟨g, 3, none⟩ u') g x' y' z' u' := by
  have h := h.blk
  constructor
  simp only [World.setCell, Array.getElem?_modify, if_true, h]
  rfl
theorem four_below {B : Nat} {w w0 : World} {g : Nat} {x y z u : Value} (h : Below B w0 w) (hg : B ≤ g) : Below B w0 ((((w.setCell ⟨g, 0, none⟩ x).setCell ⟨g, 1, none⟩ y).setCell ⟨g, 2, none⟩ z).setCell ⟨g, 3, none⟩ u) :=
  (((h.setCell (p := ⟨g, 0, none⟩) hg _).setCell (p := ⟨g, 1, none⟩) hg _).setCell (p := ⟨g, 2, none⟩) hg _).setCell (p := ⟨g, 3, none⟩) hg _
set_option maxHeartbeats 20000000 in
set_option maxRecDepth 100000 in
theorem same1_v (B c1 c2 m : Nat) (v : V) : ∀ (S T : Value) (w : World), Wf 1000000 v → SamAt B c1 c2 m w → RepL (· < B) w v.list S → RepL (· < B) w v.list T →
    Calls Tryz.prog 51 #[.agg #[.int .u8 v.nd.k, .int .i64 v.nd.n, .int .i64 v.nd.d, .bool v.nd.t, .string v.nd.s, S], .agg #[.int .u8 v.nd.k, .int .i64 v.nd.n, .int .i64 v.nd.d, .bool v.nd.t, .string v.nd.s, T], .pointer (some ⟨c1, 0, none⟩), .pointer (some ⟨c2, 0, none⟩)] w (SamEnd B m w) := by
  induction v using V.ind with
  | h a l ih =>
    intro S T w hl hS hr hs
    obtain ⟨p, cp, rfl⟩ := hr.slice
    obtain ⟨q, cq, rfl⟩ := hs.slice
    dsimp only [V.nd_mk, V.list_mk] at hr hs ⊢
    have hlen : l.length ≤ 1000000 := hl.len
    have KE := Lib.hid (fun p q cp cq w hS hr hs => eqf_any B c1 c2 m l hlen (fun x hx S T w => ih x hx S T w (hl.mem hx)) p q cp cq w hS hr hs)
    have hb1 : Below w.heap.size w (w.alloc (.cells #[.int .u8 a.k, .int .i64 a.n, .int .i64 a.d, .bool a.t, .string a.s, .slice p l.length cp] 28)) := (Below.refl _ _).alloc (Nat.le_refl _) _
    have hb3 : Below (w.alloc (.cells #[.int .u8 a.k, .int .i64 a.n, .int .i64 a.d, .bool a.t, .string a.s, .slice p l.length cp] 28)).heap.size (w.alloc (.cells #[.int .u8 a.k, .int .i64 a.n, .int .i64 a.d, .bool a.t, .string a.s, .slice p l.length cp] 28)) ((w.alloc (.cells #[.int .u8 a.k, .int .i64 a.n, .int .i64 a.d, .bool a.t, .string a.s, .slice p l.length cp] 28)).alloc (.cells #[.int .u8 a.k, .int .i64 a.n, .int .i64 a.d, .bool a.t, .string a.s, .slice q l.length cq] 28)) := (Below.refl _ _).alloc (Nat.le_refl _) _
    have S1 := Lib.hid ((Six.new w a (.slice p l.length cp)).later hb3)
    have S2 := Lib.hid (Six.new (w.alloc (.cells #[.int .u8 a.k, .int .i64 a.n, .int .i64 a.d, .bool a.t, .string a.s, .slice p l.length cp] 28)) a (.slice q l.length cq))
    rw [World.size_alloc] at S2
    have B0 := Lib.hid (hb1.trans (hb3.mono hb1.size))
    have H0 := Lib.hid (hS.later B0.out)
    have R0 := Lib.hid (hr.later B0.out)
    have T0 := Lib.hid (hs.later B0.out)
    have hB := hS.size
    clear hb1 hb3 hS hr hs ih hl
    obtain ⟨W0, hW0⟩ : ∃ W, W = (w.alloc (.cells #[.int .u8 a.k, .int .i64 a.n, .int .i64 a.d, .bool a.t, .string a.s, .slice p l.length cp] 28)).alloc (.cells #[.int .u8 a.k, .int .i64 a.n, .int .i64 a.d, .bool a.t, .string a.s, .slice q l.length cq] 28) := ⟨_, rfl⟩
    have hle : w.heap.size + 1 < W0.heap.size := by rw [hW0]; simp
    rw [← hW0] at S1 S2 B0 H0 R0 T0
    have q0 := S1.out.row.c0
    have q1 := S1.out.row.c1
    have q2 := S1.out.row.c2
    have q3 := S1.out.row.c3
    have q4 := S1.out.row.c4
    have q5 := S1.out.row.c5
    have g0 := S2.out.row.c0
    have g1 := S2.out.row.c1
    have g2 := S2.out.row.c2
    have g3 := S2.out.row.c3
    have g4 := S2.out.row.c4
    have g5 := S2.out.row.c5
    simp only [Nat.zero_add] at q1 q2 q3 q4 q5 g1 g2 g3 g4 g5
    have q5' := q5
    have g5' := g5
    rw [hW0] at q0 q1 q2 q3 q4 q5 g0 g1 g2 g3 g4 g5
    have HE : Hid (∀ w1, Below W0.heap.size W0 w1 → RepL (· < B) w1 l (.slice p l.length cp) ∧ RepL (· < B) w1 l (.slice q l.length cq)) := Lib.hid fun w1 hb => ⟨R0.out.later hb, T0.out.later hb⟩
    go_enter Tryz.func51, Tryz.ntmps51
    go_upto_region 3 with fail
    rw [← hW0]
    clear hW0 q0 q1 q2 q3 q4 q5 g0 g1 g2 g3 g4 g5
    have q5 := q5'
    have g5 := g5'
    clear q5' g5'
    go_cut [7] from 34 to 40 (fun s7 wx => ∃ G, s7 = .pointer (some ⟨G, 0, none⟩) ∧ W0.heap.size ≤ G ∧ Four wx G (.pointer (extP l p)) (.int .i64 l.length) (.pointer (extP l q)) (.int .i64 l.length) ∧ Below W0.heap.size W0 wx)
    case first =>
      go_region_held3 (fun w' => w'.cell? ⟨w.heap.size, 5, none⟩ = some (.slice p l.length cp) ∧ w'.cell? ⟨w.heap.size + 1, 5, none⟩ = some (.slice q l.length cq)) ((go_split_ands; (repeat' apply And.intro) <;> with_reducible first | (first | assumption | (refine cell_later ?_ (Hid.out (by assumption)); first | assumption | (refine cell_later ?_ (Hid.out (by assumption)); first | assumption | (refine cell_later ?_ (Hid.out (by assumption)); first | assumption | (refine cell_later ?_ (Hid.out (by assumption)); assumption) | (refine cell_later ?_ ((Below.refl _ _).alloc (Nat.le_refl _) _); assumption) | (refine cell_later ?_ (Below.refl _ _).drew; assumption)) | (refine cell_later ?_ ((Below.refl _ _).alloc (Nat.le_refl _) _); first | assumption | (refine cell_later ?_ (Hid.out (by assumption)); assumption) | (refine cell_later ?_ ((Below.refl _ _).alloc (Nat.le_refl _) _); assumption) | (refine cell_later ?_ (Below.refl _ _).drew; assumption)) | (refine cell_later ?_ (Below.refl _ _).drew; first | assumption | (refine cell_later ?_ (Hid.out (by assumption)); assumption) | (refine cell_later ?_ ((Below.refl _ _).alloc (Nat.le_refl _) _); assumption) | (refine cell_later ?_ (Below.refl _ _).drew; assumption))) | (refine cell_later ?_ ((Below.refl _ _).alloc (Nat.le_refl _) _); first | assumption | (refine cell_later ?_ (Hid.out (by assumption)); first | assumption | (refine cell_later ?_ (Hid.out (by assumption)); assumption) | (refine cell_later ?_ ((Below.refl _ _).alloc (Nat.le_refl _) _); assumption) | (refine cell_later ?_ (Below.refl _ _).drew; assumption)) | (refine cell_later ?_ ((Below.refl _ _).alloc (Nat.le_refl _) _); first | assumption | (refine cell_later ?_ (Hid.out (by assumption)); assumption) | (refine cell_later ?_ ((Below.refl _ _).alloc (Nat.le_refl _) _); assumption) | (refine cell_later ?_ (Below.refl _ _).drew; assumption)) | (refine cell_later ?_ (Below.refl _ _).drew; first | assumption | (refine cell_later ?_ (Hid.out (by assumption)); assumption) | (refine cell_later ?_ ((Below.refl _ _).alloc (Nat.le_refl _) _); assumption) | (refine cell_later ?_ (Below.refl _ _).drew; assumption))) | (refine cell_later ?_ (Below.refl _ _).drew; first | assumption | (refine cell_later ?_ (Hid.out (by assumption)); first | assumption | (refine cell_later ?_ (Hid.out (by assumption)); assumption) | (refine cell_later ?_ ((Below.refl _ _).alloc (Nat.le_refl _) _); assumption) | (refine cell_later ?_ (Below.refl _ _).drew; assumption)) | (refine cell_later ?_ ((Below.refl _ _).alloc (Nat.le_refl _) _); first | assumption | (refine cell_later ?_ (Hid.out (by assumption)); assumption) | (refine cell_later ?_ ((Below.refl _ _).alloc (Nat.le_refl _) _); assumption) | (refine cell_later ?_ (Below.refl _ _).drew; assumption)) | (refine cell_later ?_ (Below.refl _ _).drew; first | assumption | (refine cell_later ?_ (Hid.out (by assumption)); assumption) | (refine cell_later ?_ ((Below.refl _ _).alloc (Nat.le_refl _) _); assumption) | (refine cell_later ?_ (Below.refl _ _).drew; assumption)))) | (refine cell_later ?_ ((Below.refl _ _).alloc (Nat.le_refl _) _); first | assumption | (refine cell_later ?_ (Hid.out (by assumption)); first | assumption | (refine cell_later ?_ (Hid.out (by assumption)); first | assumption | (refine cell_later ?_ (Hid.out (by assumption)); assumption) | (refine cell_later ?_ ((Below.refl _ _).alloc (Nat.le_refl _) _); assumption) | (refine cell_later ?_ (Below.refl _ _).drew; assumption)) | (refine cell_later ?_ ((Below.refl _ _).alloc (Nat.le_refl _) _); first | assumption | (refine cell_later ?_ (Hid.out (by assumption)); assumption) | (refine cell_later ?_ ((Below.refl _ _).alloc (Nat.le_refl _) _); assumption) | (refine cell_later ?_ (Below.refl _ _).drew; assumption)) | (refine cell_later ?_ (Below.refl _ _).drew; first | assumption | (refine cell_later ?_ (Hid.out (by assumption)); assumption) | (refine cell_later ?_ ((Below.refl _ _).alloc (Nat.le_refl _) _); assumption) | (refine cell_later ?_ (Below.refl _ _).drew; assumption))) | (refine cell_later ?_ ((Below.refl _ _).alloc (Nat.le_refl _) _); first | assumption | (refine cell_later ?_ (Hid.out (by assumption)); first | assumption | (refine cell_later ?_ (Hid.out (by assumption)); assumption) | (refine cell_later ?_ ((Below.refl _ _).alloc (Nat.le_refl _) _); assumption) | (refine cell_later ?_ (Below.refl _ _).drew; assumption)) | (refine cell_later ?_ ((Below.refl _ _).alloc (Nat.le_refl _) _); first | assumption | (refine cell_later ?_ (Hid.out (by assumption)); assumption) | (refine cell_later ?_ ((Below.refl _ _).alloc (Nat.le_refl _) _); assumption) | (refine cell_later ?_ (Below.refl _ _).drew; assumption)) | (refine cell_later ?_ (Below.refl _ _).drew; first | assumption | (refine cell_later ?_ (Hid.out (by assumption)); assumption) | (refine cell_later ?_ ((Below.refl _ _).alloc (Nat.le_refl _) _); assumption) | (refine cell_later ?_ (Below.refl _ _).drew; assumption))) | (refine cell_later ?_ (Below.refl _ _).drew; first | assumption | (refine cell_later ?_ (Hid.out (by assumption)); first | assumption | (refine cell_later ?_ (Hid.out (by assumption)); assumption) | (refine cell_later ?_ ((Below.refl _ _).alloc (Nat.le_refl _) _); assumption) | (refine cell_later ?_ (Below.refl _ _).drew; assumption)) | (refine cell_later ?_ ((Below.refl _ _).alloc (Nat.le_refl _) _); first | assumption | (refine cell_later ?_ (Hid.out (by assumption)); assumption) | (refine cell_later ?_ ((Below.refl _ _).alloc (Nat.le_refl _) _); assumption) | (refine cell_later ?_ (Below.refl _ _).drew; assumption)) | (refine cell_later ?_ (Below.refl _ _).drew; first | assumption | (refine cell_later ?_ (Hid.out (by assumption)); assumption) | (refine cell_later ?_ ((Below.refl _ _).alloc (Nat.le_refl _) _); assumption) | (refine cell_later ?_ (Below.refl _ _).drew; assumption)))) | (refine cell_later ?_ (Below.refl _ _).drew; first | assumption | (refine cell_later ?_ (Hid.out (by assumption)); first | assumption | (refine cell_later ?_ (Hid.out (by assumption)); first | assumption | (refine cell_later ?_ (Hid.out (by assumption)); assumption) | (refine cell_later ?_ ((Below.refl _ _).alloc (Nat.le_refl _) _); assumption) | (refine cell_later ?_ (Below.refl _ _).drew; assumption)) | (refine cell_later ?_ ((Below.refl _ _).alloc (Nat.le_refl _) _); first | assumption | (refine cell_later ?_ (Hid.out (by assumption)); assumption) | (refine cell_later ?_ ((Below.refl _ _).alloc (Nat.le_refl _) _); assumption) | (refine cell_later ?_ (Below.refl _ _).drew; assumption)) | (refine cell_later ?_ (Below.refl _ _).drew; first | assumption | (refine cell_later ?_ (Hid.out (by assumption)); assumption) | (refine cell_later ?_ ((Below.refl _ _).alloc (Nat.le_refl _) _); assumption) | (refine cell_later ?_ (Below.refl _ _).drew; assumption))) | (refine cell_later ?_ ((Below.refl _ _).alloc (Nat.le_refl _) _); first | assumption | (refine cell_later ?_ (Hid.out (by assumption)); first | assumption | (refine cell_later ?_ (Hid.out (by assumption)); assumption) | (refine cell_later ?_ ((Below.refl _ _).alloc (Nat.le_refl _) _); assumption) | (refine cell_later ?_ (Below.refl _ _).drew; assumption)) | (refine cell_later ?_ ((Below.refl _ _).alloc (Nat.le_refl _) _); first | assumption | (refine cell_later ?_ (Hid.out (by assumption)); assumption) | (refine cell_later ?_ ((Below.refl _ _).alloc (Nat.le_refl _) _); assumption) | (refine cell_later ?_ (Below.refl _ _).drew; assumption)) | (refine cell_later ?_ (Below.refl _ _).drew; first | assumption | (refine cell_later ?_ (Hid.out (by assumption)); assumption) | (refine cell_later ?_ ((Below.refl _ _).alloc (Nat.le_refl _) _); assumption) | (refine cell_later ?_ (Below.refl _ _).drew; assumption))) | (refine cell_later ?_ (Below.refl _ _).drew; first | assumption | (refine cell_later ?_ (Hid.out (by assumption)); first | assumption | (refine cell_later ?_ (Hid.out (by assumption)); assumption) | (refine cell_later ?_ ((Below.refl _ _).alloc (Nat.le_refl _) _); assumption) | (refine cell_later ?_ (Below.refl _ _).drew; assumption)) | (refine cell_later ?_ ((Below.refl _ _).alloc (Nat.le_refl _) _); first | assumption | (refine cell_later ?_ (Hid.out (by assumption)); assumption) | (refine cell_later ?_ ((Below.refl _ _).alloc (Nat.le_refl _) _); assumption) | (refine cell_later ?_ (Below.refl _ _).drew; assumption)) | (refine cell_later ?_ (Below.refl _ _).drew; first | assumption | (refine cell_later ?_ (Hid.out (by assumption)); assumption) | (refine cell_later ?_ ((Below.refl _ _).alloc (Nat.le_refl _) _); assumption) | (refine cell_later ?_ (Below.refl _ _).drew; assumption))))) | (exact cell_swap (by assumption) (by omega)) | (refine cell_put (cell_put (cell_put (cell_put ?_ (by omega)) (by omega)) (by omega)) (by omega); first | assumption | (refine cell_later ?_ (Hid.out (by assumption)); first | assumption | (refine cell_later ?_ (Hid.out (by assumption)); first | assumption | (refine cell_later ?_ (Hid.out (by assumption)); first | assumption | (refine cell_later ?_ (Hid.out (by assumption)); assumption) | (refine cell_later ?_ ((Below.refl _ _).alloc (Nat.le_refl _) _); assumption) | (refine cell_later ?_ (Below.refl _ _).drew; assumption)) | (refine cell_later ?_ ((Below.refl _ _).alloc (Nat.le_refl _) _); first | assumption | (refine cell_later ?_ (Hid.out (by assumption)); assumption) | (refine cell_later ?_ ((Below.refl _ _).alloc (Nat.le_refl _) _); assumption) | (refine cell_later ?_ (Below.refl _ _).drew; assumption)) | (refine cell_later ?_ (Below.refl _ _).drew; first | assumption | (refine cell_later ?_ (Hid.out (by assumption)); assumption) | (refine cell_later ?_ ((Below.refl _ _).alloc (Nat.le_refl _) _); assumption) | (refine cell_later ?_ (Below.refl _ _).drew; assumption))) | (refine cell_later ?_ ((Below.refl _ _).alloc (Nat.le_refl _) _); first | assumption | (refine cell_later ?_ (Hid.out (by assumption)); first | assumption | (refine cell_later ?_ (Hid.out (by assumption)); assumption) | (refine cell_later ?_ ((Below.refl _ _).alloc (Nat.le_refl _) _); assumption) | (refine cell_later ?_ (Below.refl _ _).drew; assumption)) | (refine cell_later ?_ ((Below.refl _ _).alloc (Nat.le_refl _) _); first | assumption | (refine cell_later ?_ (Hid.out (by assumption)); assumption) | (refine cell_later ?_ ((Below.refl _ _).alloc (Nat.le_refl _) _); assumption) | (refine cell_later ?_ (Below.refl _ _).drew; assumption)) | (refine cell_later ?_ (Below.refl _ _).drew; first | assumption | (refine cell_later ?_ (Hid.out (by assumption)); assumption) | (refine cell_later ?_ ((Below.refl _ _).alloc (Nat.le_refl _) _); assumption) | (refine cell_later ?_ (Below.refl _ _).drew; assumption))) | (refine cell_later ?_ (Below.refl _ _).drew; first | assumption | (refine cell_later ?_ (Hid.out (by assumption)); first | assumption | (refine cell_later ?_ (Hid.out (by assumption)); assumption) | (refine cell_later ?_ ((Below.refl _ _).alloc (Nat.le_refl _) _); assumption) | (refine cell_later ?_ (Below.refl _ _).drew; assumption)) | (refine cell_later ?_ ((Below.refl _ _).alloc (Nat.le_refl _) _); first | assumption | (refine cell_later ?_ (Hid.out (by assumption)); assumption) | (refine cell_later ?_ ((Below.refl _ _).alloc (Nat.le_refl _) _); assumption) | (refine cell_later ?_ (Below.refl _ _).drew; assumption)) | (refine cell_later ?_ (Below.refl _ _).drew; first | assumption | (refine cell_later ?_ (Hid.out (by assumption)); assumption) | (refine cell_later ?_ ((Below.refl _ _).alloc (Nat.le_refl _) _); assumption) | (refine cell_later ?_ (Below.refl _ _).drew; assumption)))) | (refine cell_later ?_ ((Below.refl _ _).alloc (Nat.le_refl _) _); first | assumption | (refine cell_later ?_ (Hid.out (by assumption)); first | assumption | (refine cell_later ?_ (Hid.out (by assumption)); first | assumption | (refine cell_later ?_ (Hid.out (by assumption)); assumption) | (refine cell_later ?_ ((Below.refl _ _).alloc (Nat.le_refl _) _); assumption) | (refine cell_later ?_ (Below.refl _ _).drew; assumption)) | (refine cell_later ?_ ((Below.refl _ _).alloc (Nat.le_refl _) _); first | assumption | (refine cell_later ?_ (Hid.out (by assumption)); assumption) | (refine cell_later ?_ ((Below.refl _ _).alloc (Nat.le_refl _) _); assumption) | (refine cell_later ?_ (Below.refl _ _).drew; assumption)) | (refine cell_later ?_ (Below.refl _ _).drew; first | assumption | (refine cell_later ?_ (Hid.out (by assumption)); assumption) | (refine cell_later ?_ ((Below.refl _ _).alloc (Nat.le_refl _) _); assumption) | (refine cell_later ?_ (Below.refl _ _).drew; assumption))) | (refine cell_later ?_ ((Below.refl _ _).alloc (Nat.le_refl _) _); first | assumption | (refine cell_later ?_ (Hid.out (by assumption)); first | assumption | (refine cell_later ?_ (Hid.out (by assumption)); assumption) | (refine cell_later ?_ ((Below.refl _ _).alloc (Nat.le_refl _) _); assumption) | (refine cell_later ?_ (Below.refl _ _).drew; assumption)) | (refine cell_later ?_ ((Below.refl _ _).alloc (Nat.le_refl _) _); first | assumption | (refine cell_later ?_ (Hid.out (by assumption)); assumption) | (refine cell_later ?_ ((Below.refl _ _).alloc (Nat.le_refl _) _); assumption) | (refine cell_later ?_ (Below.refl _ _).drew; assumption)) | (refine cell_later ?_ (Below.refl _ _).drew; first | assumption | (refine cell_later ?_ (Hid.out (by assumption)); assumption) | (refine cell_later ?_ ((Below.refl _ _).alloc (Nat.le_refl _) _); assumption) | (refine cell_later ?_ (Below.refl _ _).drew; assumption))) | (refine cell_later ?_ (Below.refl _ _).drew; first | assumption | (refine cell_later ?_ (Hid.out (by assumption)); first | assumption | (refine cell_later ?_ (Hid.out (by assumption)); assumption) | (refine cell_later ?_ ((Below.refl _ _).alloc (Nat.le_refl _) _); assumption) | (refine cell_later ?_ (Below.refl _ _).drew; assumption)) | (refine cell_later ?_ ((Below.refl _ _).alloc (Nat.le_refl _) _); first | assumption | (refine cell_later ?_ (Hid.out (by assumption)); assumption) | (refine cell_later ?_ ((Below.refl _ _).alloc (Nat.le_refl _) _); assumption) | (refine cell_later ?_ (Below.refl _ _).drew; assumption)) | (refine cell_later ?_ (Below.refl _ _).drew; first | assumption | (refine cell_later ?_ (Hid.out (by assumption)); assumption) | (refine cell_later ?_ ((Below.refl _ _).alloc (Nat.le_refl _) _); assumption) | (refine cell_later ?_ (Below.refl _ _).drew; assumption)))) | (refine cell_later ?_ (Below.refl _ _).drew; first | assumption | (refine cell_later ?_ (Hid.out (by assumption)); first | assumption | (refine cell_later ?_ (Hid.out (by assumption)); first | assumption | (refine cell_later ?_ (Hid.out (by assumption)); assumption) | (refine cell_later ?_ ((Below.refl _ _).alloc (Nat.le_refl _) _); assumption) | (refine cell_later ?_ (Below.refl _ _).drew; assumption)) | (refine cell_later ?_ ((Below.refl _ _).alloc (Nat.le_refl _) _); first | assumption | (refine cell_later ?_ (Hid.out (by assumption)); assumption) | (refine cell_later ?_ ((Below.refl _ _).alloc (Nat.le_refl _) _); assumption) | (refine cell_later ?_ (Below.refl _ _).drew; assumption)) | (refine cell_later ?_ (Below.refl _ _).drew; first | assumption | (refine cell_later ?_ (Hid.out (by assumption)); assumption) | (refine cell_later ?_ ((Below.refl _ _).alloc (Nat.le_refl _) _); assumption) | (refine cell_later ?_ (Below.refl _ _).drew; assumption))) | (refine cell_later ?_ ((Below.refl _ _).alloc (Nat.le_refl _) _); first | assumption | (refine cell_later ?_ (Hid.out (by assumption)); first | assumption | (refine cell_later ?_ (Hid.out (by assumption)); assumption) | (refine cell_later ?_ ((Below.refl _ _).alloc (Nat.le_refl _) _); assumption) | (refine cell_later ?_ (Below.refl _ _).drew; assumption)) | (refine cell_later ?_ ((Below.refl _ _).alloc (Nat.le_refl _) _); first | assumption | (refine cell_later ?_ (Hid.out (by assumption)); assumption) | (refine cell_later ?_ ((Below.refl _ _).alloc (Nat.le_refl _) _); assumption) | (refine cell_later ?_ (Below.refl _ _).drew; assumption)) | (refine cell_later ?_ (Below.refl _ _).drew; first | assumption | (refine cell_later ?_ (Hid.out (by assumption)); assumption) | (refine cell_later ?_ ((Below.refl _ _).alloc (Nat.le_refl _) _); assumption) | (refine cell_later ?_ (Below.refl _ _).drew; assumption))) | (refine cell_later ?_ (Below.refl _ _).drew; first | assumption | (refine cell_later ?_ (Hid.out (by assumption)); first | assumption | (refine cell_later ?_ (Hid.out (by assumption)); assumption) | (refine cell_later ?_ ((Below.refl _ _).alloc (Nat.le_refl _) _); assumption) | (refine cell_later ?_ (Below.refl _ _).drew; assumption)) | (refine cell_later ?_ ((Below.refl _ _).alloc (Nat.le_refl _) _); first | assumption | (refine cell_later ?_ (Hid.out (by assumption)); assumption) | (refine cell_later ?_ ((Below.refl _ _).alloc (Nat.le_refl _) _); assumption) | (refine cell_later ?_ (Below.refl _ _).drew; assumption)) | (refine cell_later ?_ (Below.refl _ _).drew; first | assumption | (refine cell_later ?_ (Hid.out (by assumption)); assumption) | (refine cell_later ?_ ((Below.refl _ _).alloc (Nat.le_refl _) _); assumption) | (refine cell_later ?_ (Below.refl _ _).drew; assumption))))))) (first
        | (go_at_call 52; (first | with_reducible refine (ext_any (p := p) (cap := cp) (HE.out _ ((by with_reducible (repeat (first | exact Below.refl _ _ | refine below_chain ?_ (Hid.out (by assumption)) | refine below_chain ?_ ((Below.refl _ _).alloc (Nat.le_refl _) _) | refine below_chain ?_ (Below.refl _ _).drew))))).1 hlen).mono ?_ | with_reducible refine (ext_any (p := q) (cap := cq) (HE.out _ ((by with_reducible (repeat (first | exact Below.refl _ _ | refine below_chain ?_ (Hid.out (by assumption)) | refine below_chain ?_ ((Below.refl _ _).alloc (Nat.le_refl _) _) | refine below_chain ?_ (Below.refl _ _).drew))))).2 hlen).mono ?_); rintro e w' ⟨rfl, hb⟩; have hz : W0.heap.size ≤ w'.heap.size := (by have := hb.size; (try simp only [World.size_alloc, World.size_drew] at this); omega); (first
            | (with_reducible (have N := Four.then hb); have N' := Lib.hid N; have n0 := N.c0; have n1 := N.c1; have n2 := N.c2; have n3 := N.c3; have f0 := N.free 0; have f1 := N.free 1; have f2 := N.free 2; have f3 := N.free 3; have nl := N.lt; clear N; (try simp only [World.size_alloc, World.size_drew] at n0 n1 n2 n3 f0 f1 f2 f3 nl))
            | (with_reducible (have N := Four.thenD hb); have N' := Lib.hid N; have n0 := N.c0; have n1 := N.c1; have n2 := N.c2; have n3 := N.c3; have f0 := N.free 0; have f1 := N.free 1; have f2 := N.free 2; have f3 := N.free 3; have nl := N.lt; clear N; (try simp only [World.size_alloc, World.size_drew] at n0 n1 n2 n3 f0 f1 f2 f3 nl))
            | (with_reducible (have N := Four.later (Hid.out (by assumption)) hb); have N' := Lib.hid N; have n0 := N.c0; have n1 := N.c1; have n2 := N.c2; have n3 := N.c3; have f0 := N.free 0; have f1 := N.free 1; have f2 := N.free 2; have f3 := N.free 3; have nl := N.lt; clear N; (try simp only [World.size_alloc, World.size_drew] at n0 n1 n2 n3 f0 f1 f2 f3 nl))
            | skip); replace hb := Lib.hid hb))
      all_goals go_wp2_with fail
      all_goals go_meet
      all_goals first
        | (refine ⟨_, rfl, by omega, Four.new _ _ _ _ _, ?_⟩; exact (by with_reducible (repeat (first | exact Below.refl _ _ | refine below_chain ?_ (Hid.out (by assumption)) | refine below_chain ?_ ((Below.refl _ _).alloc (Nat.le_refl _) _) | refine below_chain ?_ (Below.refl _ _).drew))))
        | (refine ⟨_, rfl, by omega, Four.set (Hid.out (by assumption)) _ _ _ _, four_below ?_ (by omega)⟩; exact (by with_reducible (repeat (first | exact Below.refl _ _ | refine below_chain ?_ (Hid.out (by assumption)) | refine below_chain ?_ ((Below.refl _ _).alloc (Nat.le_refl _) _) | refine below_chain ?_ (Below.refl _ _).drew))))
    case rest =>
      obtain ⟨G, rfl, hG, hF, hb⟩ := hcut
      have HF := Lib.hid hF
      have HB := Lib.hid hb
      have HS := Lib.hid (H0.out.later hb)
      have HM := Lib.hid HS.out.mp
      have HK : Hid (KeyOk B wc (.agg #[.pointer (extP l p), .int .i64 l.length, .pointer (extP l q), .int .i64 l.length])) := Lib.hid ⟨_, _, _, _, rfl, ext_ptr (HE.out _ hb).1, ext_ptr (HE.out _ hb).2⟩
      have hBm : Hid (B ≤ m) := Lib.hid HS.out.bm
      have y1 : wc.cell? ⟨c1, 0, none⟩ = some (.map (some m)) := by simp [World.cell?, HS.out.x1]
      have y2 : wc.cell? ⟨c2, 0, none⟩ = some (.func (.func 51) #[] #[.pointer (some ⟨c1, 0, none⟩), .pointer (some ⟨c2, 0, none⟩)]) := by simp [World.cell?, HS.out.x2]
      have n0 := HF.out.c0
      have n1 := HF.out.c1
      have n2 := HF.out.c2
      have n3 := HF.out.c3
      have nl := HF.out.lt
      clear hF hb q5 g5
      have HSz : Hid (B ≤ W0.heap.size) := Lib.hid (by omega)
      go_wp2_with (first
        | (at_lookup; refine wpList_look_up rfl _ _ rfl B m rfl HM.out _ rfl HK.out ?_; intro r k; cases r)
        | (refine wpList_map_write rfl _ _ _ rfl B m rfl (HM.out.of_heap rfl fun _ _ => rfl) hBm.out _ rfl rfl (HK.out.of_heap fun _ _ => rfl) ?_
           intro w1 hM1 hk1 hs1
           have HK1 : Hid (KpC B B W0 w1) := Lib.hid ((KpC.of HB.out HSz.out).trans hk1.undrew)
           have HS1 := Lib.hid (H0.out.kept HK1.out hM1)
           have V1 := (S1.out.kpc hB HK1.out).row.c5
           have V2 := (S2.out.kpc (by omega) HK1.out).row.c5
           have v2 : w1.cell? ⟨c2, 0, none⟩ = some (.func (.func 51) #[] #[.pointer (some ⟨c1, 0, none⟩), .pointer (some ⟨c2, 0, none⟩)]) := by simp [World.cell?, HS1.out.x2]
           simp only [Nat.zero_add] at V1 V2
           clear hM1 hk1 hs1))
      · refine (KE.out p q cp cq _ HS1.out (R0.out.kpc HK1.out) (T0.out.kpc HK1.out)).mono ?_
        rintro e w2 ⟨rfl, hk2, hm2⟩
        have HK2 := Lib.hid ((KpC.of B0.out hB).trans (HK1.out.trans hk2))
        have HM2 := Lib.hid hm2
        clear hk2 hm2
        go_wp2_with fail
        go_ret
        exact ⟨rfl, HK2.out, HM2.out⟩
      · go_ret
        exact ⟨rfl, ((KpC.of B0.out hB).trans (KpC.of HB.out HSz.out)).drewN, HM.out.of_heap rfl fun _ _ => rfl⟩
theorem sam_start (w : World) (o1 o2 : Obj) : SamAt w.heap.size (w.heap.size + 1 + 1 + 1) (w.heap.size + 1 + 1 + 1 + 1) (w.heap.size + 1 + 1) (((((w.alloc o1).alloc o2).alloc (.map #[] 0)).alloc (.cells #[.map (some (w.heap.size + 1 + 1))] 79)).alloc (.cells #[.func (.func 51) #[] #[.pointer (some ⟨w.heap.size + 1 + 1 + 1, 0, none⟩), .pointer (some ⟨w.heap.size + 1 + 1 + 1 + 1, 0, none⟩)]] 53)) ∧
    Below w.heap.size w (((((w.alloc o1).alloc o2).alloc (.map #[] 0)).alloc (.cells #[.map (some (w.heap.size + 1 + 1))] 79)).alloc (.cells #[.func (.func 51) #[] #[.pointer (some ⟨w.heap.size + 1 + 1 + 1, 0, none⟩), .pointer (some ⟨w.heap.size + 1 + 1 + 1 + 1, 0, none⟩)]] 53)) := by
  refine ⟨⟨by omega, by omega, by omega, ?_, ?_, ⟨#[], 0, ?_, by simp⟩⟩, (((((Below.refl _ _).alloc (Nat.le_refl _) _).alloc (by simp) _).alloc (by simp; omega) _).alloc (by simp; omega) _).alloc (by simp; omega) _⟩
  · (simp only [World.alloc, Array.getElem?_push, Array.size_push]; simp <;> omega)
  · (simp only [World.alloc, Array.getElem?_push, Array.size_push]; simp <;> omega)
  · (simp only [World.alloc, Array.getElem?_push, Array.size_push]; simp <;> omega)
set_option maxHeartbeats 4000000 in
set_option maxRecDepth 100000 in
theorem vsame_any (a : Nd) (l : List V) (S T : Value) (w : World) (hw : Wf 1000000 (.mk a l)) (hr : RepL (· < w.heap.size) w l S) (hs : RepL (· < w.heap.size) w l T) :
    Calls Tryz.prog 31 #[.agg #[.int .u8 a.k, .int .i64 a.n, .int .i64 a.d, .bool a.t, .string a.s, S], .agg #[.int .u8 a.k, .int .i64 a.n, .int .i64 a.d, .bool a.t, .string a.s, T]] w fun e w' => e = .returned (.bool true) ∧ Below w.heap.size w w' := by
  obtain ⟨p, cp, rfl⟩ := hr.slice
  obtain ⟨q, cq, rfl⟩ := hs.slice
  have KS := Lib.hid (fun (W : World) (c1 c2 m : Nat) hS h1 h2 => same1_v w.heap.size c1 c2 m (.mk a l) (.slice p l.length cp) (.slice q l.length cq) W hw hS h1 h2)
  dsimp only [V.nd_mk, V.list_mk] at KS
  have HR := Lib.hid hr
  have HT := Lib.hid hs
  clear hr hs hw
  have hmm : ∀ (t : TypeId) (w : World), (Instr.makeMap t none).run Tryz.prog w = .ok (.map (some w.heap.size)) (w.alloc (.map #[] 0)) := fun t w => run_makeMap t w
  have HSt := Lib.hid (sam_start w)
  go_enter Tryz.func31, Tryz.ntmps31
  go_wp2_with fail
  refine (KS.out _ _ _ _ (HSt.out _ _).1 (HR.out.later (HSt.out _ _).2) (HT.out.later (HSt.out _ _).2)).mono ?_
  rintro e w1 ⟨rfl, hk, -⟩
  have HB := Lib.hid ((HSt.out _ _).2.trans hk.1)
  clear hk
  go_wp2_with fail
  exact bodyPost_ret (v := .bool true) (by simp [results, Tryz.results31, go_sem] <;> rfl) rfl ⟨rfl, HB.out⟩
end Go.Proofs.YtakjgjhjndiggaaGreatDoor
namespace Go.Proofs.YtakjgjhjndiggaaGreatDoor
open Go.RowKit Go.Shelf
open VM
set_option linter.unusedVariables false
set_option linter.unusedSimpArgs false

theorem Row6.later {w w' : World} {b o : Nat} {a : Nd} {sl : Value} (h : Row6 w b o a sl) (hb : Below w.heap.size w w') : Row6 w' b o a sl := h.carry fun o => cell_of_heap (hb.block b h.lt) o
/-- Valid and not great. -/
def okB (v : V) : Bool := !grtB v && decide (vchk v = 0)
set_option maxHeartbeats 1000000 in
set_option maxRecDepth 100000 in
theorem valid_any (g m : Nat) (a : Nd) (l : List V) (p : Option Addr) (cap : Nat) (w : World) (hw : Wf m (.mk a l)) (R : Row6 w g 0 a (.slice p l.length cap)) (hr : RepL (· < w.heap.size) w l (.slice p l.length cap)) :
    Calls Tryz.prog 30 #[.slice (some ⟨g, 0, none⟩) 1 1] w fun e w' => e = .returned (.bool (okB (.mk a l))) ∧ Below w.heap.size w w' := by
  have KG : Hid (Calls Tryz.prog 23 #[.agg #[.int .u8 a.k, .int .i64 a.n, .int .i64 a.d, .bool a.t, .string a.s, .slice p l.length cap]] w fun e w' => e = .returned (.bool (grtB (.mk a l))) ∧ Below w.heap.size w w') := Lib.hid (great_any _ m a l _ w hw hr)
  have KC : Hid (grtB (.mk a l) = false → ∀ w1, Below w.heap.size w w1 → Calls Tryz.prog 46 #[.agg #[.int .u8 a.k, .int .i64 a.n, .int .i64 a.d, .bool a.t, .string a.s, .slice p l.length cap]] w1 fun e w' => e = .returned (.int .i64 (vchk (.mk a l))) ∧ Below w1.heap.size w1 w') := Lib.hid fun hg w1 hb => by
    obtain ⟨h1, h2⟩ := small_of_great hg hw
    exact refvcheck_any _ a l p cap w1 ⟨h1.mono (by omega), by omega⟩ (fun hd => parts_small (h1.mono (by omega)) hd) (hr.later hb)
  have HR := Lib.hid R
  have e2 : okB (.mk a l) = (!grtB (.mk a l) && decide (vchk (.mk a l) = 0)) := rfl
  rw [e2]
  have V3 := vchk_vals (.mk a l)
  generalize grtB (.mk a l) = G at KG KC ⊢
  generalize vchk (.mk a l) = C at KC V3 ⊢
  clear e2 hw hr
  have hlt := R.lt
  have r0 := R.c0
  have r1 := R.c1
  have r2 := R.c2
  have r3 := R.c3
  have r4 := R.c4
  have r5 := R.c5
  simp only [Nat.zero_add] at r1 r2 r3 r4 r5
  clear R
  generalize l.length = n at KG KC HR r5
  go_enter Tryz.func30, Tryz.ntmps30
  go_wp2_with fail
  go_loopw [3] (fun i wr => ∃ j : Nat, i = .int .i64 j ∧ ((j = 0 ∧ wr = w) ∨ (j = 1 ∧ G = false ∧ C = 0 ∧ Below w.heap.size w wr))) (fun i _ => 1 - (intOf i).toNat)
  case atStart => exact ⟨0, rfl, .inl ⟨rfl, rfl⟩⟩
  case round =>
    obtain ⟨j, rfl, h⟩ := hrel
    rcases h with ⟨rfl, rfl⟩ | ⟨rfl, rfl, rfl, hb⟩
    · go_wp2_with fail
      refine KG.out.mono ?_
      rintro e w1 ⟨rfl, hb⟩
      have B1 := Lib.hid hb
      have R1 := Lib.hid (HR.out.later hb)
      clear hb r0 r1 r2 r3 r4 r5 hlt
      have hlt := R1.out.lt
      have r0 := R1.out.c0
      have r1 := R1.out.c1
      have r2 := R1.out.c2
      have r3 := R1.out.c3
      have r4 := R1.out.c4
      have r5 := R1.out.c5
      simp only [Nat.zero_add] at r1 r2 r3 r4 r5
      cases G
      · have KD := Lib.hid (KC.out rfl _ B1.out)
        clear KC
        go_wp2_with fail
        refine KD.out.mono ?_
        rintro e w2 ⟨rfl, hb2⟩
        have B2 := Lib.hid (B1.out.trans (hb2.mono B1.out.size))
        clear hb2 r0 r1 r2 r3 r4 r5 hlt
        rcases V3 with rfl | rfl | rfl
        · go_wp2_with fail
          go_roundw
          case rel => exact ⟨1, rfl, .inr (by simp; exact B2.out)⟩
          case measure => simp [intOf]
        · go_wp2_with fail
          go_ret
          exact ⟨rfl, B2.out⟩
        · go_wp2_with fail
          go_ret
          exact ⟨rfl, B2.out⟩
      · go_wp2_with fail
        go_ret
        exact ⟨rfl, B1.out⟩
    · have B1 := Lib.hid hb
      clear hb
      go_wp2_with fail
      go_ret
      exact ⟨rfl, B1.out⟩
/-- What alive hands back. -/
def AliveOk : Prop := ∀ w : World, Tab w → Len w → Calls Tryz.prog 22 #[] w fun e w' => e = .returned (.bool true) ∧ Below w.heap.size w w'
theorem okB_iff {v : V} : okB v = true ↔ grtB v = false ∧ vchk v = 0 := by
  unfold okB; cases grtB v <;> simp
set_option maxHeartbeats 4000000 in
set_option maxRecDepth 100000 in
theorem back_any (hal : AliveOk) (a : Nd) (l : List V) (sl : Value) (m : Nat) (w : World) (hw : Wf m (.mk a l)) (hr : RepL (· < w.heap.size) w l sl) (ht : Tab w) (hl : Len w) : Calls Tryz.prog 5 #[.agg #[.int .u8 a.k, .int .i64 a.n, .int .i64 a.d, .bool a.t, .string a.s, sl]] w fun e w' => e = .returned (.bool true) ∧ Below w.heap.size w w' := by
  obtain ⟨p, cap, rfl⟩ := hr.slice
  obtain ⟨W0, hW0⟩ : ∃ W, W = w.alloc (.cells #[.int .u8 a.k, .int .i64 a.n, .int .i64 a.d, .bool a.t, .string a.s, .slice p l.length cap] 28) := ⟨_, rfl⟩
  have hb0 : Below w.heap.size w W0 := by rw [hW0]; exact (Below.refl _ _).alloc (Nat.le_refl _) _
  have S0 : Hid (Six W0 w.heap.size a (.slice p l.length cap)) := Lib.hid (by rw [hW0]; exact Six.new _ _ _)
  obtain ⟨W1, hW1⟩ : ∃ W, W = W0.alloc (.cells #[.int .u8 a.k, .int .i64 a.n, .int .i64 a.d, .bool a.t, .string a.s, .slice p l.length cap] 28) := ⟨_, rfl⟩
  have hb1 : Below W0.heap.size W0 W1 := by rw [hW1]; exact (Below.refl _ _).alloc (Nat.le_refl _) _
  have X1 : Hid (Row6 W1 W0.heap.size 0 a (.slice p l.length cap)) := Lib.hid (by rw [hW1]; exact (Six.new _ _ _).row)
  have S1 := Lib.hid (S0.out.later hb1)
  have R1 := Lib.hid ((hr.later hb0).later hb1)
  have B1 := Lib.hid (hb0.trans (hb1.mono hb0.size))
  have T1 := Lib.hid ((ht.later hb0).later hb1)
  have L1 := Lib.hid ((hl.later hb0).later hb1)
  have KV := Lib.hid (valid_any _ m a l p cap W1 hw X1.out R1.out.bound)
  clear hb0 hb1 hr ht hl
  have l1 := S0.out.lt
  have q0 := S0.out.row.c0
  have q1 := S0.out.row.c1
  have q2 := S0.out.row.c2
  have q3 := S0.out.row.c3
  have q4 := S0.out.row.c4
  have q5 := S0.out.row.c5
  simp only [Nat.zero_add] at q1 q2 q3 q4 q5
  rw [hW0] at l1 q0 q1 q2 q3 q4 q5
  go_enter Tryz.func5, Tryz.ntmps5
  go_wp2_with fail
  rw [← hW0, ← hW1]
  clear hW1 l1 q0 q1 q2 q3 q4 q5
  have hz : W0.heap.size = w.heap.size + 1 := by rw [hW0]; simp
  rw [hz] at KV
  clear hz hW0 S0 X1
  refine KV.out.mono ?_
  rintro e w2 ⟨rfl, hb2⟩
  have S2 := Lib.hid (S1.out.later hb2)
  have R2 := Lib.hid (R1.out.later hb2)
  have T2 := Lib.hid (T1.out.later hb2)
  have L2 := Lib.hid (L1.out.later hb2)
  have B2 := Lib.hid (B1.out.trans (hb2.mono B1.out.size))
  clear hb2 KV
  have HA := Lib.hid hal
  clear hal
  by_cases hok : okB (.mk a l) = true
  · obtain ⟨hg, hv⟩ := okB_iff.1 hok
    obtain ⟨h1, h2⟩ := small_of_great hg hw
    have HSm : Hid (Small (.mk a l)) := Lib.hid ⟨h1.mono (by omega), by omega⟩
    have HV := Lib.hid hv
    rw [hok]
    clear hok hg hv h1 h2 hw
    have KT := Lib.hid (vtext_any a l p cap w2 HSm.out T2.out R2.out.bound)
    have lq := S2.out.lt
    have q0 := S2.out.row.c0
    have q1 := S2.out.row.c1
    have q2 := S2.out.row.c2
    have q3 := S2.out.row.c3
    have q4 := S2.out.row.c4
    have q5 := S2.out.row.c5
    simp only [Nat.zero_add] at q1 q2 q3 q4 q5
    by_cases hlen : 4000 < (txt (.mk a l)).length
    · obtain ⟨e1, e2⟩ := t_long HV.out hlen
      rw [e1, e2] at KT
      clear e1 e2
      go_wp2_with fail
      refine KT.out.mono ?_
      rintro e w3 ⟨rfl, hb3⟩
      have T3 := Lib.hid (T2.out.later hb3)
      have L3 := Lib.hid (L2.out.later hb3)
      have B3 := Lib.hid (B2.out.trans (hb3.mono B2.out.size))
      clear hb3 KT lq q0 q1 q2 q3 q4 q5
      go_wp2_with fail
      refine (HA.out _ T3.out L3.out).mono ?_
      rintro e w4 ⟨rfl, hb4⟩
      have B4 := Lib.hid (B3.out.trans (hb4.mono B3.out.size))
      clear hb4
      go_wp2_with fail
      go_ret
      exact ⟨rfl, B4.out⟩
    · obtain ⟨e1, e2⟩ := t_fine HV.out hlen
      have HP : Hid (∀ x c, PaOk (lA (bA (txt (.mk a l)))) x c → x = .mk a l ∧ c = 0) := Lib.hid fun x c h => pa_txt h HV.out (lA_bA _).symm (by rw [lA_bA]; omega)
      have hn : ((bA (txt (.mk a l))).size : Int) ≤ 4000 := by rw [bA_size]; omega
      rw [e1, e2] at KT
      generalize bA (txt (.mk a l)) = s at KT HP hn
      have KP := Lib.hid (fun w1 ht hl => vparse_any idx_ok s w1 ht hl)
      clear e1 e2 hlen
      go_wp2_with fail
      refine KT.out.mono ?_
      rintro e w3 ⟨rfl, hb3⟩
      have S3 := Lib.hid (S2.out.later hb3)
      have R3 := Lib.hid (R2.out.later hb3)
      have T3 := Lib.hid (T2.out.later hb3)
      have L3 := Lib.hid (L2.out.later hb3)
      have B3 := Lib.hid (B2.out.trans (hb3.mono B2.out.size))
      clear hb3 KT lq q0 q1 q2 q3 q4 q5
      go_wp2_with fail
      refine (KP.out _ T3.out L3.out).mono ?_
      rintro e w4 ⟨x, slx, c, rfl, hx, hpx, hsx, hb4⟩
      obtain ⟨rfl, rfl⟩ := HP.out _ _ hpx
      dsimp only [V.nd_mk, V.list_mk] at hx ⊢
      obtain ⟨px, capx, rfl⟩ := hx.slice
      obtain ⟨W4, hW4⟩ : ∃ W, W = w4.alloc (.cells #[.int .u8 a.k, .int .i64 a.n, .int .i64 a.d, .bool a.t, .string a.s, .slice px l.length capx] 28) := ⟨_, rfl⟩
      have hbw : Below w4.heap.size w4 W4 := by rw [hW4]; exact (Below.refl _ _).alloc (Nat.le_refl _) _
      have S4 := Lib.hid ((S3.out.later hb4).later hbw)
      have R4 := Lib.hid ((R3.out.later hb4).later hbw)
      have T4 := Lib.hid ((T3.out.later hb4).later hbw)
      have L4 := Lib.hid ((L3.out.later hb4).later hbw)
      have B4 := Lib.hid ((B3.out.trans (hb4.mono B3.out.size)).trans (hbw.mono (Nat.le_trans B3.out.size hb4.size)))
      have Rx4 := Lib.hid (hx.later hbw)
      have Sx4 : Hid (Six W4 w4.heap.size a (.slice px l.length capx)) := Lib.hid (by rw [hW4]; exact Six.new _ _ _)
      have KS := Lib.hid (vsame_any a l (.slice p l.length cap) (.slice px l.length capx) W4 (Wf.mono (by omega) HSm.out.wf) R4.out.bound Rx4.out.bound)
      clear hx hpx hsx hb4 hbw
      have lq := S4.out.lt
      have q0 := S4.out.row.c0
      have q1 := S4.out.row.c1
      have q2 := S4.out.row.c2
      have q3 := S4.out.row.c3
      have q4 := S4.out.row.c4
      have q5 := S4.out.row.c5
      simp only [Nat.zero_add] at q1 q2 q3 q4 q5
      have lg := Sx4.out.lt
      have g0 := Sx4.out.row.c0
      have g1 := Sx4.out.row.c1
      have g2 := Sx4.out.row.c2
      have g3 := Sx4.out.row.c3
      have g4 := Sx4.out.row.c4
      have g5 := Sx4.out.row.c5
      simp only [Nat.zero_add] at g1 g2 g3 g4 g5
      rw [hW4] at lq q0 q1 q2 q3 q4 q5 lg g0 g1 g2 g3 g4 g5
      go_wp2_with fail
      rw [← hW4]
      clear hW4 lq q0 q1 q2 q3 q4 q5 lg g0 g1 g2 g3 g4 g5
      refine KS.out.mono ?_
      rintro e w5 ⟨rfl, hb5⟩
      have T5 := Lib.hid (T4.out.later hb5)
      have L5 := Lib.hid (L4.out.later hb5)
      have B5 := Lib.hid (B4.out.trans (hb5.mono B4.out.size))
      clear hb5
      go_wp2_with fail
      refine (HA.out _ T5.out L5.out).mono ?_
      rintro e w6 ⟨rfl, hb6⟩
      have B6 := Lib.hid (B5.out.trans (hb6.mono B5.out.size))
      clear hb6
      go_wp2_with fail
      go_ret
      exact ⟨rfl, B6.out⟩
  · rw [Bool.eq_false_iff.2 hok]
    clear hok hw
    go_wp2_with fail
    refine (HA.out _ T2.out L2.out).mono ?_
    rintro e w3 ⟨rfl, hb3⟩
    have B3 := Lib.hid (B2.out.trans (hb3.mono B2.out.size))
    clear hb3
    go_wp2_with fail
    go_ret
    exact ⟨rfl, B3.out⟩
end Go.Proofs.YtakjgjhjndiggaaGreatDoor
