/-
  What the package's sumsOf and its closure hand back.
-/
import Derived.Test.YtglnajjbbhokpaaDoorSeedRead
import Derived.Laws.MakeOwn
import Derived.BigQuiet
import Derived.Deep.QuietTactic
namespace Go.Proofs.YtglnajjbbhokpaaDoor
open Go.RowKit
open SM
set_option linter.unusedVariables false
set_option linter.unusedSimpArgs false

/-- A row of numbers of the call's own. -/
structure RowI (w : World) (b : Nat) (l : List Int) : Prop where
  row : ∃ cs : Array Value, w.heap[b]? = some (.cells cs 3 (0, 0)) ∧ l.length ≤ cs.size ∧ ∀ i, (h : i < l.length) → cs[i]? = some (.int .i64 l[i])
theorem RowI.lt {w : World} {b : Nat} {l : List Int} (h : RowI w b l) : b < w.heap.size := let ⟨_, h1, _⟩ := h.row; lt_of_block h1
theorem RowI.cell {w : World} {b : Nat} {l : List Int} (h : RowI w b l) {i : Nat} (hi : i < l.length) : w.cell? ⟨b, i, none⟩ = some (.int .i64 l[i]) := by
  obtain ⟨cs, h1, h2, h3⟩ := h.row
  simp only [World.cell?, h1]; simpa using h3 i hi
theorem RowI.free {w : World} {b : Nat} {l : List Int} (h : RowI w b l) (i : Nat) : w.frozen? ⟨b, i, none⟩ = false := by
  obtain ⟨cs, h1, h2, h3⟩ := h.row
  simp [World.frozen?, h1]
theorem RowI.of_block {w w1 : World} {b : Nat} {l : List Int} (h : RowI w b l) (he : w1.heap[b]? = w.heap[b]?) : RowI w1 b l := by
  obtain ⟨cs, h1, h2, h3⟩ := h.row
  exact ⟨cs, he.trans h1, h2, h3⟩
theorem RowI.later {w w1 : World} {b : Nat} {l : List Int} (h : RowI w b l) (hb : Below w.heap.size w w1) : RowI w1 b l := h.of_block (hb.block _ h.lt)
theorem RowI.other {w : World} {b : Nat} {l : List Int} (h : RowI w b l) {p : Addr} (hp : b ≠ p.block) (x : Value) : RowI (w.setCell p x) b l := h.of_block (Below.heap_setCell _ _ _ _ hp)
theorem RowI.set {w : World} {b : Nat} {l : List Int} (h : RowI w b l) {i : Nat} (hi : i < l.length) (x : Int) : RowI (w.setCell ⟨b, i, none⟩ (.int .i64 x)) b (l.set i x) := by
  obtain ⟨cs, h1, h2, h3⟩ := h.row
  refine ⟨cs.setIfInBounds i (.int .i64 x), ?_, by simpa using h2, fun j hj => ?_⟩
  · simp only [World.setCell, Array.getElem?_modify, if_true, h1]; rfl
  · rw [List.length_set] at hj
    rw [Array.getElem?_setIfInBounds, List.getElem_set]
    by_cases hij : i = j
    · subst hij; simp; omega
    · rw [if_neg hij, if_neg hij]; exact h3 j hj
theorem RowI.ints {w : World} {b : Nat} {l : List Int} (h : RowI w b l) (cap : Nat) : Ints w (.slice (some ⟨b, 0, none⟩) l.length cap) l := by
  rcases Nat.eq_zero_or_pos l.length with h0 | h0
  · have : l = [] := List.length_eq_zero_iff.1 h0
    subst this; exact .none _ _
  · exact .some b 0 cap l h0 h.lt fun i hi => by rw [Nat.zero_add]; exact h.cell hi
/-- A row as make lays it. -/
def zeros (n : Nat) : Array Value := madeCells #[.int .i64 0] n
theorem zeros_at {n i : Nat} (h : i < n) : (zeros n)[i]? = some (.int .i64 0) := by
  unfold zeros madeCells
  rw [Array.getElem?_map, Array.getElem?_range, if_pos h]
  simp [Nat.mod_one]
theorem zeros_size (n : Nat) : (zeros n).size = n := size_madeCells _ _
theorem made_run (n : Nat) (hn : n ≤ 1000) (w : World) : (Instr.makeSlice 27 (.int .i64 (n : Int)) (.int .i64 (n : Int))).run Tryd.prog w = .ok (.slice (some ⟨w.heap.size, 0, none⟩) n n) (w.alloc (.cells (zeros n) 3)) := by
  have := run_make (P := Tryd.prog) w 27 3 Tryd.t3 (.int .i64 0) Tryd.underlying27 (by kernel_rfl) (by kernel_rfl) .i64 .i64 n n (by omega) (Int.le_refl _) (by show ((8 : Nat) : Int) * (n : Int) ≤ _; omega) (by omega)
  rw [this]; simp only [zeros, Value.cells, Int.toNat_natCast, show (Tryd.t3).size = 1 from rfl, Nat.mul_one]
theorem made_row (n : Nat) (w : World) : RowI (w.alloc (.cells (zeros n) 3)) w.heap.size (List.replicate n 0) := by
  refine ⟨zeros n, heap_alloc_new _ _, by simp [zeros_size], fun i hi => ?_⟩
  rw [List.length_replicate] at hi
  rw [zeros_at hi, List.getElem_replicate]

/-! ### The closure that goes on with the sum -/
def addB (t x : Int) : Bool := decide (0 ≤ x) && decide (x ≤ 1000000000 - t)
theorem one_setCell {w : World} {b : Nat} {x : Value} {t : TypeId} (h : w.heap[b]? = some (.cells #[x] t (0, 0))) (u : Value) :
    (w.setCell ⟨b, 0, none⟩ u).heap[b]? = some (.cells #[u] t (0, 0)) := by
  simp only [World.setCell, Array.getElem?_modify, if_true, h]
  rfl
theorem free_one {w : World} {b : Nat} {x : Value} {t : TypeId} (h : w.heap[b]? = some (.cells #[x] t (0, 0))) : w.frozen? ⟨b, 0, none⟩ = false := by simp [World.frozen?, h]
theorem add_not (c : Nat) (t x : Int) (ht : 0 ≤ t ∧ t ≤ 1000000000) (hx : addB t x = false) (w : World) (hc : w.heap[c]? = some (.cells #[.int .i64 t] 3 (0, 0))) :
    Calls Tryd.prog 28 #[.int .i64 x, .pointer (some ⟨c, 0, none⟩)] w fun e w' => e = .returned (.bool false) ∧ w' = w := by
  have q1 := cell_of_one hc
  have l1 := lt_of_block hc
  clear hc
  by_cases h0 : x < 0
  · go_enter Tryd.func28, Tryd.ntmps28
    go_wp2_with fail
    go_ret
    exact ⟨rfl, rfl⟩
  · have h1 : 1000000000 - t < x := by
      simp [addB] at hx; omega
    clear hx
    go_enter Tryd.func28, Tryd.ntmps28
    go_wp2_with fail
    go_ret
    exact ⟨rfl, rfl⟩
theorem add_yes (c : Nat) (t x : Int) (ht : 0 ≤ t ∧ t ≤ 1000000000) (hx : addB t x = true) (w : World) (hc : w.heap[c]? = some (.cells #[.int .i64 t] 3 (0, 0))) :
    Calls Tryd.prog 28 #[.int .i64 x, .pointer (some ⟨c, 0, none⟩)] w fun e w' => e = .returned (.bool true) ∧ w' = w.setCell ⟨c, 0, none⟩ (.int .i64 (t + x)) := by
  have q1 := cell_of_one hc
  have q2 := free_one hc
  have l1 := lt_of_block hc
  clear hc
  have hx2 : 0 ≤ x ∧ x ≤ 1000000000 - t := by simpa [addB] using hx
  obtain ⟨h0, h1⟩ := hx2
  clear hx
  go_enter Tryd.func28, Tryd.ntmps28
  go_wp2_with fail
  go_ret
  exact ⟨rfl, rfl⟩

/-! ### sumsOf -/
def preL (l : List Int) (k : Nat) : List Int := (List.range l.length).map fun i => if i < k then sumI (l.take (i + 1)) else 0
theorem preL_length (l : List Int) (k : Nat) : (preL l k).length = l.length := by simp [preL]
theorem preL_get {l : List Int} {k i : Nat} (h : i < l.length) : (preL l k)[i]'(by rw [preL_length]; exact h) = if i < k then sumI (l.take (i + 1)) else 0 := by simp [preL]
theorem preL_zero (l : List Int) : preL l 0 = List.replicate l.length 0 := by
  apply List.ext_getElem
  · simp [preL]
  · intro i h1 h2; simp [preL]
theorem preL_succ {l : List Int} {k : Nat} : preL l (k + 1) = (preL l k).set k (sumI (l.take (k + 1))) := by
  apply List.ext_getElem
  · simp [preL]
  · intro i h1 h2
    rw [preL_length] at h1
    rw [List.getElem_set, preL_get h1, preL_get h1]
    by_cases e : k = i
    · subst e; simp
    · rw [if_neg e]
      by_cases h : i < k
      · rw [if_pos h, if_pos (by omega)]
      · rw [if_neg h, if_neg (by omega)]
/-- Where sumsOf stands. -/
structure SumsAt (w : World) (l : List Int) (k : Nat) (wr : World) : Prop where
  hi : k ≤ l.length
  all : allB (l.take k) = true
  few : sumI (l.take k) ≤ 1000000000
  below : Below w.heap.size w wr
  tot : wr.heap[w.heap.size]? = some (.cells #[.int .i64 (sumI (l.take k))] 3 (0, 0))
  row : RowI wr (w.heap.size + 1) (preL l k)
theorem SumsAt.start (w : World) (l : List Int) : SumsAt w l 0 ((w.alloc (.cells #[.int .i64 0] 3)).alloc (.cells (zeros l.length) 3)) := by
  refine ⟨Nat.zero_le _, rfl, by simp [sumI_nil], ((Below.refl _ _).alloc (Nat.le_refl _) _).alloc (by simp) _, heap_alloc_old (heap_alloc_new _ _) _, ?_⟩
  have := made_row l.length (w.alloc (.cells #[.int .i64 0] 3))
  rw [preL_zero]
  simpa using this
theorem SumsAt.go {w wr : World} {l : List Int} {k : Nat} (h : SumsAt w l k wr) (hk : k < l.length) (ha : addB (sumI (l.take k)) l[k] = true) :
    SumsAt w l (k + 1) ((wr.setCell ⟨w.heap.size, 0, none⟩ (.int .i64 (sumI (l.take k) + l[k]))).setCell ⟨w.heap.size + 1, k, none⟩ (.int .i64 (sumI (l.take k) + l[k]))) := by
  have hx : 0 ≤ l[k] ∧ l[k] ≤ 1000000000 - sumI (l.take k) := by simpa [addB] using ha
  have e := sumI_take_succ hk
  refine ⟨hk, ?_, by omega, (h.below.setCell (Nat.le_refl _) _).setCell (by show w.heap.size ≤ w.heap.size + 1; omega) _, ?_, ?_⟩
  · refine allB_iff.2 fun x hx' => ?_
    rw [List.take_add_one, List.getElem?_eq_getElem hk, List.mem_append] at hx'
    rcases hx' with h1 | h1
    · exact allB_iff.1 h.all x h1
    · simp at h1; subst h1; exact hx.1
  · rw [e]; exact heap_set_other (one_setCell h.tot _) (by show w.heap.size ≠ w.heap.size + 1; omega) _
  · rw [preL_succ, e]
    exact (h.row.other (by show w.heap.size + 1 ≠ w.heap.size; omega) _).set (by rw [preL_length]; exact hk) _
theorem SumsAt.range {w wr : World} {l : List Int} {k : Nat} (h : SumsAt w l k wr) : 0 ≤ sumI (l.take k) ∧ sumI (l.take k) ≤ 1000000000 := ⟨sumI_nonneg h.all, h.few⟩
theorem addB_no {l : List Int} {k : Nat} (hk : k < l.length) (ha : addB (sumI (l.take k)) l[k] = false) : wOk l = false := by
  by_cases h0 : l[k] < 0
  · exact wOk_neg hk h0
  · refine wOk_big (k := k + 1) ?_
    rw [sumI_take_succ hk]
    simp [addB] at ha; omega
theorem SumsAt.fin {w wr : World} {l : List Int} (h : SumsAt w l l.length wr) (hl : l.length ≤ 200) : decide (0 < sumI (l.take l.length)) = wOk l := by
  have h1 := h.all
  have h2 := h.few
  rw [List.take_length] at h1 h2 ⊢
  rw [Bool.eq_iff_iff, wOk_iff]; simp only [decide_eq_true_eq]
  constructor
  · intro h3; exact ⟨hl, h1, h3, h2⟩
  · intro h3; exact h3.2.2.1
/-- How sumsOf ends. -/
def SumsEnd (l : List Int) (w : World) (e : Ending) (w' : World) : Prop :=
  ∃ v, e = .returned (.tuple #[v, .bool (wOk l)]) ∧ Below w.heap.size w w' ∧ (wOk l = true → ∃ g, v = .slice (some ⟨g, 0, none⟩) l.length l.length ∧ RowI w' g (preL l l.length))
theorem sums_no {l : List Int} (h : wOk l = false) {w w' : World} (hb : Below w.heap.size w w') (v : Value) : SumsEnd l w (.returned (.tuple #[v, .bool false])) w' :=
  ⟨v, by rw [h], hb, fun h' => by rw [h] at h'; exact absurd h' (by simp)⟩
theorem sums_fin {w wr : World} {l : List Int} (h : SumsAt w l l.length wr) (hl : l.length ≤ 200) (b : Bool) (hb : b = decide (0 < sumI (l.take l.length))) {w1 : World} (h1 : Below wr.heap.size wr w1) :
    SumsEnd l w (.returned (.tuple #[.slice (some ⟨w.heap.size + 1, 0, none⟩) l.length l.length, .bool b])) w1 :=
  ⟨_, by rw [hb, h.fin hl], h.below.trans (h1.mono h.below.size), fun _ => ⟨_, rfl, h.row.later h1⟩⟩
set_option maxHeartbeats 800000 in
theorem sums_any (v : Value) (l : List Int) (hmax : l.length ≤ 9223372036854775807) (w : World) (hv : Ints w v l) :
    Calls Tryd.prog 19 #[v] w (SumsEnd l w) := by
  by_cases hlen : 200 < l.length
  · obtain ⟨p, cap, rfl⟩ := hv.slice
    have HZ := Lib.hid (wOk_len hlen)
    have c1 : (200 : Int) < (l.length : Int) := by omega
    go_enter Tryd.func19, Tryd.ntmps19
    go_wp2_with fail
    go_ret2
    exact sums_no HZ.out (Below.refl _ _) _
  · have hmk := fun w => made_run l.length (by omega) w
    have hmf : ∀ (fn : Fn) (first cap : Array Value) (w : World), (Instr.makeFunc fn first cap).run Tryd.prog w = .ok (.func fn first cap) w := fun _ _ _ _ => rfl
    have S0 := Lib.hid (SumsAt.start w l)
    have HV := Lib.hid hv
    have c1 : ¬ (200 : Int) < (l.length : Int) := by omega
    obtain ⟨p, cap, rfl⟩ := hv.slice
    clear hv
    go_enter Tryd.func19, Tryd.ntmps19
    go_wp2_with fail
    go_loopw [18] (fun i wr => ∃ k : Nat, i = .int .i64 k ∧ SumsAt w l k wr) (fun i _ => l.length - (intOf i).toNat)
    case atStart => exact ⟨0, rfl, S0.out⟩
    case round =>
      obtain ⟨k, rfl, hS⟩ := hrel
      have HS := Lib.hid hS
      have n1 := hS.hi
      have n2 := hS.range
      have l1 := lt_of_block hS.tot
      have l2 := hS.row.lt
      have q1 := cell_of_one hS.tot
      have q2 := free_one hS.tot
      have HR := Lib.hid hS.row.free
      clear hS
      by_cases hlt : k < l.length
      · obtain ⟨b, off, cap', hp, e1, _⟩ := (HV.out.later HS.out.below).at hlt
        obtain rfl : p = some ⟨b, off, none⟩ := by cases hp; rfl
        clear hp
        have f1 := HR.out k
        have q3 := HS.out.row.cell (i := k) (by rw [preL_length]; exact hlt)
        generalize (preL l k)[k]'(by rw [preL_length]; exact hlt) = z at q3
        cases ha : addB (sumI (l.take k)) l[k] with
        | false =>
          have HZ := Lib.hid (addB_no hlt ha)
          have HA := Lib.hid ha
          have HT := Lib.hid HS.out.tot
          have BB := Lib.hid HS.out.below
          clear ha
          generalize l[k] = y at e1 HA
          generalize sumI (l.take k) = t at n2 q1 HA HT
          go_wp2_with (go_at_call 28; refine (add_not _ t y n2 HA.out _ HT.out).mono ?_; rintro e w1 ⟨rfl, rfl⟩)
          go_ret2
          exact sums_no HZ.out BB.out _
        | true =>
          have HA := Lib.hid ha
          have HG := Lib.hid (HS.out.go hlt ha)
          have HT := Lib.hid HS.out.tot
          clear ha
          generalize l[k] = y at e1 HA HG
          generalize sumI (l.take k) = t at n2 q1 HA HT HG
          clear HS
          go_wp2_with (go_at_call 28; refine (add_yes _ t y n2 HA.out _ HT.out).mono ?_; rintro e w1 ⟨rfl, rfl⟩)
          go_roundw
          case rel => exact ⟨k + 1, by go_num, HG.out⟩
          case measure => simp [intOf]; omega
      · obtain rfl : k = l.length := by omega
        have HF : Hid (∀ (b : Bool), b = decide (0 < sumI (l.take l.length)) → ∀ w1, Below wr.heap.size wr w1 → SumsEnd l w (.returned (.tuple #[.slice (some ⟨w.heap.size + 1, 0, none⟩) l.length l.length, .bool b])) w1) :=
          Lib.hid fun b hb w1 h1 => sums_fin HS.out (by omega) b hb h1
        generalize sumI (l.take l.length) = t at n2 q1 HF
        clear HS
        go_wp2_with fail
        go_quiet (fail)
        go_wp2_with fail
        go_ret2
        exact HF.out _ rfl _ (below_drewN (Below.refl _ _) _)
end Go.Proofs.YtglnajjbbhokpaaDoor
