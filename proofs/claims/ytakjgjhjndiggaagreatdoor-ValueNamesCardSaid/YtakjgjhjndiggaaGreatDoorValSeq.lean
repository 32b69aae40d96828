/-
  The iterator over a value's parts: as the loop that runs over it takes it; what Check makes of a part.
-/
import Derived.Test.YtakjgjhjndiggaaGreatDoorValVisit
import Derived.Test.YtakjgjhjndiggaaGreatDoorZRatCalc
import Derived.Laws.EntriesVeiled
namespace Go.Proofs.YtakjgjhjndiggaaGreatDoor
open Go.RowKit
open VM
set_option linter.unusedVariables false
set_option linter.unusedSimpArgs false
attribute [local go_sem] Oper.semAt_some

theorem parts_any (a : Nd) (sl : Value) (w : World) : Calls Tryz.prog 41 #[.agg #[.int .u8 a.k, .int .i64 a.n, .int .i64 a.d, .bool a.t, .string a.s, sl]] w fun e w' =>
    e = .returned (.func (.func 62) #[] #[.pointer (some ⟨w.heap.size, 0, none⟩)]) ∧ w' = w.alloc (.cells #[.int .u8 a.k, .int .i64 a.n, .int .i64 a.d, .bool a.t, .string a.s, sl] 28) := by
  go_enter Tryz.func41, Tryz.ntmps41
  go_wp2
  go_ret
  exact ⟨rfl, rfl⟩

set_option maxRecDepth 100000 in
set_option maxHeartbeats 4000000 in
theorem parts_stops (n n₀ Bp : Nat) (a : Nd) (l : List V) (p : Option Addr) (cap : Nat) (hs : Small (.mk a l)) (w : World) (hn : n₀ ≤ w.heap.size) (hBp : w.heap[Bp]? = some (.cells #[.int .u8 a.k, .int .i64 a.n, .int .i64 a.d, .bool a.t, .string a.s, .slice p l.length cap] 28 (0, 0)))
    (hr : RepL (· < n₀) w l (.slice p l.length cap)) :
    SeqStopsK Fence.wide n Tryz.prog 62 #[.pointer (some ⟨Bp, 0, none⟩)] Part.enc (KpC n₀ w.heap.size) (fun ys => ys.map Part.key = pre 1 (.mk a l)) (fun ys => ys.map Part.key <+: pre 1 (.mk a l)) (parts (.mk a l)) w := by
  intro lo J Jx W hW hJ hJx hY h0
  have hb := (hW.block Bp (lt_of_block hBp)).trans hBp
  have hlt := lt_of_block hb
  have R := box_row hb
  have c0 := R.c0
  have c1 := R.c1
  have c2 := R.c2
  have c3 := R.c3
  have c4 := R.c4
  have c5 := R.c5
  clear R
  have hmf : ∀ (fn : Fn) (first cap : Array Value) (w : World), (Instr.makeFunc fn first cap).run Tryz.prog w = .ok (.func fn first cap) w := fun _ _ _ _ => rfl
  obtain ⟨w1, hw1⟩ : ∃ w1, w1 = (W.alloc (.cells #[.func (.yield lo) #[] #[]] 70)).alloc (.cells #[.func (.func 63) #[] #[.pointer (some ⟨W.heap.size, 0, none⟩), .pointer (some ⟨W.heap.size + 1, 0, none⟩)]] 70) := ⟨_, rfl⟩
  have HB : Hid (Below W.heap.size W w1) := Lib.hid (by rw [hw1]; exact ((Below.refl _ _).alloc (Nat.le_refl _) _).alloc (by simp) _)
  have e2 : w1.heap[W.heap.size]? = some (.cells #[.func (.yield lo) #[] #[]] 70 (0, 0)) := by
    rw [hw1]
    exact heap_alloc_old (heap_alloc_new _ _) _
  have e3 : w1.heap[W.heap.size + 1]? = some (.cells #[.func (.func 63) #[] #[.pointer (some ⟨W.heap.size, 0, none⟩), .pointer (some ⟨W.heap.size + 1, 0, none⟩)]] 70 (0, 0)) := by
    rw [hw1]
    have := heap_alloc_new (W.alloc (.cells #[.func (.yield lo) #[] #[]] 70)) (.cells #[.func (.func 63) #[] #[.pointer (some ⟨W.heap.size, 0, none⟩), .pointer (some ⟨W.heap.size + 1, 0, none⟩)]] 70)
    rwa [World.size_alloc] at this
  have hrW := hr.kept (hW.mono hn)
  have HC := Lib.hid (visit_v n lo n₀ w.heap.size W.heap.size (parts (.mk a l)) W.heap.size (W.heap.size + 1) J Jx hJ hY hn hW.size (Nat.le_trans hW.size (Nat.le_succ _)) (.mk a l) p cap 1 [] w1 hs (by have := hs.h; omega) (hrW.kept (HB.out.mono (Nat.le_trans hn hW.size)))
    (Nat.le_trans hW.size HB.out.size) (abides_on hJ h0 HB.out) (by simp) e2 e3)
  rw [hw1] at HC
  have x3 := heap_alloc_new (W.alloc (.cells #[.func (.yield lo) #[] #[]] 70)) (.cells #[.nilFunc] 70)
  rw [World.size_alloc] at x3
  have xb : Boxed ((W.alloc (.cells #[.func (.yield lo) #[] #[]] 70)).alloc (.cells #[.nilFunc] 70)) (W.heap.size + 1) 70 .nilFunc := x3
  have y1 := xb.cell
  have y2 := xb.frozen
  have y4 := xb.lt
  clear xb x3
  have y3 := hlt
  clear hb e2 e3 HB hw1 hrW hY h0 hr
  refine callsIn_of_wp Tryz.func62 rfl trivial ?_ rfl
  simp only [Tryz.ntmps62, List.size_toArray, List.length_cons, List.length_nil, Nat.reduceAdd, Nat.reduceSub, Array.replicate_succ, Array.replicate_zero, List.push_toArray, List.append_toArray, List.nil_append, List.cons_append]
  gi_wp2_with fail
  refine ⟨trivial, (fun h => by cases h), ?_⟩
  refine (callsIn_wide.2 HC.out).mono ?_
  rintro e w2 (⟨rfl, ⟨zs, hz, hJz⟩, hkz⟩ | ⟨rfl, zs, hz, hJz⟩)
  · have HJz := Lib.hid hJz
    have HZ := Lib.hid hz
    clear hz hJz hkz
    gi_wp2_with fail
    go_end0
    exact ⟨⟨_, rfl⟩, .inl ⟨zs, HZ.out, by have := HJz.out; simpa using this⟩⟩
  · have HJz := Lib.hid hJz
    have HZ := Lib.hid hz
    clear hz hJz
    gi_wp2_with fail
    go_end0
    exact ⟨⟨_, rfl⟩, .inr ⟨zs, HZ.out, by have := HJz.out; simpa using this⟩⟩
end Go.Proofs.YtakjgjhjndiggaaGreatDoor
