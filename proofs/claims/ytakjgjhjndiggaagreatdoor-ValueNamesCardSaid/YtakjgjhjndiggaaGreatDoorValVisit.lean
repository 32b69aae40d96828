/-
  The iterator over a value's parts: the contract of the closure that calls itself.
-/
import Derived.Test.YtakjgjhjndiggaaGreatDoorValHeapAll
import Derived.RangeFuncNested
import Derived.RangeFuncBound
import Derived.RangeFuncCalls
import Derived.RangeFuncLeaves
import Derived.RangeFuncBox
import Derived.OwnWalkIn
import Derived.TacticsInMore
import Derived.LoopNIn
import Derived.LoopIn
import Derived.RegionIn
namespace Go.Proofs.YtakjgjhjndiggaaGreatDoor
open Go.RowKit
open VM
set_option linter.unusedVariables false
set_option linter.unusedSimpArgs false
attribute [local go_sem] Oper.semAt_some

/-- A part as the iterator hands it on. -/
structure Part where
  v : V
  ok : Small v
  dep : Nat
  hd : dep ≤ 40000
  p : Option Addr
  cap : Nat
def Part.sl (x : Part) : Value := .slice x.p x.v.list.length x.cap
def Part.enc (x : Part) : Array Value := #[.agg #[.int .u8 x.v.nd.k, .int .i64 x.v.nd.n, .int .i64 x.v.nd.d, .bool x.v.nd.t, .string x.v.nd.s, x.sl], .int .i64 x.dep]
def Part.key (x : Part) : V × Nat := (x.v, x.dep)
/-- What a round keeps: all blocks below n₀, and from B₀ on all variables. -/
def KpC (n₀ B₀ : Nat) (A B : World) : Prop := Below n₀ A B ∧ ∀ (k : Nat) (c : Array Value) (t : TypeId) (f : Nat × Nat), B₀ ≤ k → A.heap[k]? = some (.cells c t f) → B.heap[k]? = some (.cells c t f)
theorem KpC.refl (n₀ B₀ : Nat) (A : World) : KpC n₀ B₀ A A := ⟨Below.refl _ _, fun _ _ _ _ _ h => h⟩
theorem KpC.trans {n₀ B₀ : Nat} {A B C : World} (h : KpC n₀ B₀ A B) (k : KpC n₀ B₀ B C) : KpC n₀ B₀ A C :=
  ⟨h.1.trans k.1, fun i c t f hi ha => k.2 i c t f hi (h.2 i c t f hi ha)⟩
theorem KpC.of {n₀ B₀ : Nat} {A B : World} (h : Below A.heap.size A B) (hn : n₀ ≤ A.heap.size) : KpC n₀ B₀ A B :=
  ⟨h.mono hn, fun k c t f _ ha => (h.block k (lt_of_block ha)).trans ha⟩
theorem KpC.put {n₀ B₀ : Nat} {w : World} (hn : n₀ ≤ w.heap.size) (W : World) (l : Nat) (o o' : Obj) (hl : w.heap.size ≤ l) (h : W.heap[l]? = some o) (hc : o.isCells = false) (hw : o.isWalk = false) : KpC n₀ B₀ W (W.putObj l o') :=
  ⟨belowK_b hn W l o o' hl h hc hw, fun k c t f _ ha => by
    have hne : k ≠ l := fun e => by subst e; rw [h] at ha; cases ha; simp [Obj.isCells] at hc
    exact ((grownBy_putObj' W l o').block k (lt_of_block ha) (by simpa using hne)).trans ha⟩
theorem below_grows {w w1 : World} (hb : Below w.heap.size w w1) (row : Option Nat) : w.grownBy w1 row := ⟨hb.os, hb.tape, hb.output, hb.size, fun k hk _ => hb.block k hk⟩
theorem abides_on {α : Type} {B : Nat} {J : α → World → Prop} (h : AbidesFrom B J) {a : α} {w w1 : World} (hj : J a w) (hb : Below w.heap.size w w1) : J a w1 :=
  h a w w1 none hj (below_grows hb none) (fun r e => by cases e)


/-- What the closure that visits a part and all inside it hands back. -/
def VisitEnd (n₀ B₀ : Nat) (J Jx : List Part → World → Prop) (pr : List Part) (v : V) (dep : Nat) (W : World) (e : Ending) (W' : World) : Prop :=
  (e = .returned (.bool true) ∧ (∃ ys : List Part, ys.map Part.key = pre dep v ∧ J (pr ++ ys) W') ∧ KpC n₀ B₀ W W') ∨
  (e = .returned (.bool false) ∧ ∃ ys : List Part, ys.map Part.key <+: pre dep v ∧ Jx (pr ++ ys) W')

theorem parts_step {l : List V} {k : Nat} (h : k < l.length) : partsL (l.take k) + parts l[k] ≤ partsL l := by
  have h1 := partsL_app (l.take (k + 1)) (l.drop (k + 1))
  rw [List.take_append_drop, partsL_snoc h] at h1
  omega
theorem pre_first {a : Nd} {l : List V} {dep : Nat} (x : Part) (hx : x.key = (.mk a l, dep)) (hk : a.k ≠ 4) : [x].map Part.key = pre dep (.mk a l) := by
  rw [pre_eq]; simp [hx, hk]
theorem pre_some {a : Nd} {l : List V} {dep : Nat} (x : Part) (hx : x.key = (.mk a l, dep)) : [x].map Part.key <+: pre dep (.mk a l) := by
  rw [pre_eq]; simp [hx]
theorem pre_list {a : Nd} {l : List V} {dep : Nat} (x : Part) (hx : x.key = (.mk a l, dep)) (hk : a.k = 4) (ys : List Part) (hy : ys.map Part.key = preL (dep + 1) l) : ([x] ++ ys).map Part.key = pre dep (.mk a l) := by
  rw [pre_eq]; simp [hx, hk, hy]
theorem pre_part {a : Nd} {l : List V} {dep k : Nat} (x : Part) (hx : x.key = (.mk a l, dep)) (hk : a.k = 4) (h : k < l.length) (ys zs : List Part) (hy : ys.map Part.key = preL (dep + 1) (l.take k)) (hz : zs.map Part.key <+: pre (dep + 1) l[k]) :
    ([x] ++ ys ++ zs).map Part.key <+: pre dep (.mk a l) := by
  rw [pre_eq]
  simp only [V.nd_mk, hk, if_true, V.list_mk, List.map_append, List.map_cons, List.map_nil, hx, hy, List.cons_append, List.nil_append]
  rw [List.cons_prefix_cons]
  refine ⟨rfl, ?_⟩
  have e : preL (dep + 1) l = preL (dep + 1) (l.take k) ++ pre (dep + 1) l[k] ++ preL (dep + 1) (l.drop (k + 1)) := by
    rw [← preL_snoc h, ← preL_app, List.take_append_drop]
  rw [e, List.append_assoc, List.prefix_append_right_inj]
  exact hz.trans (List.prefix_append _ _)

set_option maxRecDepth 100000 in
set_option maxHeartbeats 4000000 in
theorem visit_v (n lo n₀ B₀ B N B2 B3 : Nat) (J Jx : List Part → World → Prop) (hJ : AbidesFrom B J)
    (hY : ∀ pr (x : Part) W1, J pr W1 → pr.length < N → YieldAt Fence.wide (n - 1) Tryz.prog lo x.enc W1 fun e W' =>
      (e = .returned (.bool true) ∧ J (pr ++ [x]) W' ∧ KpC n₀ B₀ W1 W') ∨ (e = .returned (.bool false) ∧ Jx (pr ++ [x]) W'))
    (hn : n₀ ≤ B₀) (h2 : B₀ ≤ B2) (h3 : B₀ ≤ B3) (v : V) : ∀ (p : Option Addr) (cap dep : Nat) (pr : List Part) (W : World), Small v → dep + hgt v ≤ 40000 → RepL (· < n₀) W v.list (.slice p v.list.length cap) →
      B₀ ≤ W.heap.size → J pr W → pr.length + parts v ≤ N →
      W.heap[B2]? = some (.cells #[.func (.yield lo) #[] #[]] 70 (0, 0)) →
      W.heap[B3]? = some (.cells #[.func (.func 63) #[] #[.pointer (some ⟨B2, 0, none⟩), .pointer (some ⟨B3, 0, none⟩)]] 70 (0, 0)) →
      Calls Tryz.prog 63 #[.agg #[.int .u8 v.nd.k, .int .i64 v.nd.n, .int .i64 v.nd.d, .bool v.nd.t, .string v.nd.s, .slice p v.list.length cap], .int .i64 dep, .pointer (some ⟨B2, 0, none⟩), .pointer (some ⟨B3, 0, none⟩)] W (VisitEnd n₀ B₀ J Jx pr v dep W) := by
  induction v using V.ind with
  | h a l ih =>
    intro p cap dep pr W hs hd hr hB0 hj hN hb2 hb3
    dsimp only [V.nd_mk, V.list_mk] at hr ⊢
    have HI := Lib.hid ih
    have HS := Lib.hid hs
    have HR := Lib.hid hr
    have HJ := Lib.hid hJ
    have HY := Lib.hid hY
    have hll : l.length ≤ 20000 := hs.wf.len
    have hn0 : n₀ ≤ W.heap.size := Nat.le_trans hn hB0
    have hg := hgt_eq (.mk a l)
    obtain ⟨x, hxd⟩ : ∃ x : Part, x = ⟨.mk a l, hs, dep, by omega, p, cap⟩ := ⟨_, rfl⟩
    have HX : Hid (x.key = (.mk a l, dep)) := Lib.hid (by rw [hxd]; rfl)
    have hxe : x.enc = #[.agg #[.int .u8 a.k, .int .i64 a.n, .int .i64 a.d, .bool a.t, .string a.s, .slice p l.length cap], .int .i64 dep] := by rw [hxd]; rfl
    clear hxd
    obtain ⟨W1, hW1⟩ : ∃ W1, W1 = W.alloc (.cells #[.int .u8 a.k, .int .i64 a.n, .int .i64 a.d, .bool a.t, .string a.s, .slice p l.length cap] 28) := ⟨_, rfl⟩
    have HB1 : Hid (Below W.heap.size W W1) := Lib.hid (by rw [hW1]; exact (Below.refl _ _).alloc (Nat.le_refl _) _)
    have HJ1 := Lib.hid (abides_on hJ hj HB1.out)
    have hx1 : Hid (W1.heap[W.heap.size]? = some (.cells #[.int .u8 a.k, .int .i64 a.n, .int .i64 a.d, .bool a.t, .string a.s, .slice p l.length cap] 28 (0, 0))) := Lib.hid (by rw [hW1]; exact heap_alloc_new _ _)
    have hc2 : W.cell? ⟨B2, 0, none⟩ = some (.func (.yield lo) #[] #[]) := by simp [World.cell?, hb2]
    have hl2 := lt_of_block hb2
    have hl3 := lt_of_block hb3
    refine (callsIn_wide (n := n)).1 ?_
    refine callsIn_of_wp Tryz.func63 rfl trivial ?_ rfl
    simp only [Tryz.ntmps63, List.size_toArray, List.length_cons, List.length_nil, Nat.reduceAdd, Nat.reduceSub, Array.replicate_succ, Array.replicate_zero, List.push_toArray, List.append_toArray, List.nil_append, List.cons_append]
    clear ih hr hJ hY hj hg
    have hY1 := HY.out pr x W1 HJ1.out (by have := parts_pos (.mk a l); omega)
    rw [hxe, hW1] at hY1
    obtain ⟨fn, tmps, assign, body, hy, hRd⟩ := hY1
    gi_wp2_with fail
    refine ⟨(fun h => by cases h), ?_⟩
    refine hRd.mono ?_
    rw [← hW1]
    clear hRd hy
    have HK1 : Hid (KpC n₀ B₀ W W1) := Lib.hid (KpC.of HB1.out hn0)
    rintro e W3 (⟨rfl, hJ3, hk3⟩ | ⟨rfl, hJx3⟩)
    · have HJ3 := Lib.hid hJ3
      have HK3 := Lib.hid (HK1.out.trans hk3)
      have b3 := hk3.2 _ _ _ _ hB0 hx1.out
      have R := box_row b3
      have c0 := R.c0
      have c5 := R.c5
      have l3 := lt_of_block b3
      clear R hJ3 hW1 HJ1 HB1 hx1 hc2 hl2 hl3
      have HRx := Lib.hid (HR.out.kept HK3.out.1)
      have HN := Lib.hid hN
      have HB0 := Lib.hid hB0
      have HKx := Lib.hid hk3
      clear hk3 hN hB0
      by_cases hk : a.k = 4
      · have k4 : (a.k != 4) = false := by simp [hk]
        have k4' : (a.k == 4) = true := by simp [hk]
        have HP : Hid (parts (.mk a l) = 1 + partsL l) := Lib.hid (by rw [parts_eq]; simp [hk])
        have HKk := Lib.hid hk
        clear hk
        gi_wp2_with fail
        gi_loopw [20] (fun i wr => ∃ (j : Nat) (ys : List Part), j ≤ l.length ∧ i = .int .i64 j ∧ ys.map Part.key = preL (dep + 1) (l.take j) ∧ J (pr ++ ([x] ++ ys)) wr ∧ KpC n₀ B₀ W wr) (fun i _ => l.length - (intOf i).toNat)
        case atStart => exact ⟨0, [], Nat.zero_le _, rfl, by simp [preL], by simpa using HJ3.out, HK3.out⟩
        case round =>
          obtain ⟨j, ys, hj, rfl, hys, hJj, hKj⟩ := hrel
          have HYs := Lib.hid hys
          have HJj := Lib.hid hJj
          have HKj := Lib.hid hKj
          clear hys hJj hKj
          by_cases hlt : j < l.length
          · have HRj := Lib.hid (HR.out.kept HKj.out.1)
            obtain ⟨b, off, S, rfl, hq, hb, R, hR⟩ := HRj.out.at hlt
            obtain ⟨p', cap', rfl⟩ := hR.slice
            have r0 := R.c0
            have r1 := R.c1
            have r2 := R.c2
            have r3 := R.c3
            have r4 := R.c4
            have r5 := R.c5
            obtain ⟨w1, hw1⟩ : ∃ w1, w1 = wr.alloc (.cells #[.int .u8 l[j].nd.k, .int .i64 l[j].nd.n, .int .i64 l[j].nd.d, .bool l[j].nd.t, .string l[j].nd.s, .slice p' l[j].list.length cap'] 28) := ⟨_, rfl⟩
            have hbw : Below wr.heap.size wr w1 := by rw [hw1]; exact (Below.refl _ _).alloc (Nat.le_refl _) _
            have hk1 : KpC n₀ B₀ W w1 := HKj.out.trans (KpC.of hbw (Nat.le_trans hn0 HKj.out.1.size))
            have e2 := hk1.2 _ _ _ _ h2 hb2
            have e3 := hk1.2 _ _ _ _ h3 hb3
            have HC := Lib.hid (HI.out l[j] (List.getElem_mem hlt) p' cap' (dep + 1) (pr ++ ([x] ++ ys)) w1 (HS.out.get hlt) (by have := hgt_mem (v := .mk a l) (List.getElem_mem hlt); omega) (hR.later hbw) (Nat.le_trans HB0.out hk1.1.size) (abides_on HJ.out HJj.out hbw)
              (by have := parts_step hlt; have := HN.out; have := HP.out; have := pre_length; have hly := congrArg List.length HYs.out; rw [List.length_map, preL_length _ _ (fun x hx => pre_length x _)] at hly; simp only [List.length_append, List.length_singleton]; omega) e2 e3)
            have ez : (((dep + 1 : Nat)) : Int) = (dep : Int) + 1 := by omega
            rw [ez, hw1] at HC
            have d3 : w1.cell? ⟨B3, 0, none⟩ = some (.func (.func 63) #[] #[.pointer (some ⟨B2, 0, none⟩), .pointer (some ⟨B3, 0, none⟩)]) := by simp [World.cell?, e3]
            have d3' : wr.cell? ⟨B3, 0, none⟩ = some (.func (.func 63) #[] #[.pointer (some ⟨B2, 0, none⟩), .pointer (some ⟨B3, 0, none⟩)]) := by
              have := HKj.out.2 _ _ _ _ h3 hb3
              simp [World.cell?, this]
            have m3 := lt_of_block (HKj.out.2 _ _ _ _ h3 hb3)
            clear R hR hq hbw hk1 e2 e3 d3
            gi_wp2_with fail
            refine ⟨trivial, (fun h => by cases h), ?_⟩
            refine (callsIn_wide.2 HC.out).mono ?_
            have HKw : Hid (KpC n₀ B₀ W (wr.alloc (.cells #[.int .u8 l[j].nd.k, .int .i64 l[j].nd.n, .int .i64 l[j].nd.d, .bool l[j].nd.t, .string l[j].nd.s, .slice p' l[j].list.length cap'] 28))) := Lib.hid (HKj.out.trans (KpC.of ((Below.refl _ _).alloc (Nat.le_refl _) _) (Nat.le_trans hn0 HKj.out.1.size)))
            have HPt := Lib.hid (fun zs hz => pre_part x HX.out HKk.out hlt ys zs HYs.out hz)
            have HPn : Hid (∀ zs : List Part, zs.map Part.key = pre (dep + 1) l[j] → (ys ++ zs).map Part.key = preL (dep + 1) (l.take (j + 1))) := Lib.hid fun zs hz => by rw [List.map_append, HYs.out, hz, preL_snoc hlt]
            clear HC
            rintro e w2 (⟨rfl, ⟨zs, hz, hJz⟩, hkz⟩ | ⟨rfl, zs, hz, hJz⟩)
            · have HZ := Lib.hid (HPn.out zs hz)
              have HJz := Lib.hid hJz
              have HKz := Lib.hid (HKw.out.trans hkz)
              clear hz hJz hkz
              gi_wp2_with fail
              go_roundw
              case rel => exact ⟨j + 1, ys ++ zs, by omega, by go_num, HZ.out, by have := HJz.out; simpa using this, HKz.out⟩
              case measure => simp [intOf]; omega
            · have HZ := Lib.hid (HPt.out zs hz)
              have HJz := Lib.hid hJz
              clear hz hJz
              gi_wp2_with fail
              go_ret
              exact .inr ⟨rfl, _, HZ.out, by have := HJz.out; simpa using this⟩
          · obtain rfl : j = l.length := by omega
            gi_wp2_with fail
            go_ret
            exact .inl ⟨rfl, ⟨[x] ++ ys, pre_list x HX.out HKk.out ys (by rw [HYs.out, List.take_length]), HJj.out⟩, HKj.out⟩
      · have k4 : (a.k != 4) = true := by simp [hk]
        have HKk := Lib.hid hk
        clear hk
        gi_wp2_with fail
        go_ret
        exact .inl ⟨rfl, ⟨[x], pre_first x HX.out HKk.out, HJ3.out⟩, HK3.out⟩
    · have HJ3 := Lib.hid hJx3
      clear hJx3
      gi_wp2_with fail
      go_ret
      exact .inr ⟨rfl, [x], pre_some x HX.out, HJ3.out⟩
end Go.Proofs.YtakjgjhjndiggaaGreatDoor
