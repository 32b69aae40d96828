/-
  What the package's copied hands back, for numbers and for modules.
-/
import Derived.Test.YtkjjehnfibfngaaWordPrC
import Derived.Laws.EntriesVeiled
import Derived.Test.YtkjjehnfibfngaaWordTwin
import Derived.Laws.CopyOwn
import Derived.Lib.LazyBuf
namespace Go.Proofs.Ytkjjehnfibfngaa
open Go.RowKit
open WM
set_option linter.unusedVariables false
set_option linter.unusedSimpArgs false

theorem run_copy_many {P : Program} (w : World) (dT sT ty elem : TypeId) (sz g n c1 c2 : Nat) (a : Addr) (cur : Array Value) (t : TypeId) (cs : List Value)
    (hu : P.underlying dT = some (.slice elem)) (hs : (P.info? elem).map (·.size) = some sz)
    (hg : w.heap[g]? = some (.cells cur t (0, 0))) (hn : cs.length = n * sz)
    (hsrc : ∀ j v, cs[j]? = some v → w.cell? (a.add j) = some v) (hfit : cs.length ≤ cur.size) (h1 : ∀ v ∈ cs, v.oneCell' = true) :
    (Builtin.copy_ #[dT, sT] ty #[.slice (some ⟨g, 0, none⟩) n c1, .slice (some a) n c2]).run P w =
      .ok (goInt n) (w.setRow g (cs ++ cur.toList.drop cs.length).toArray) := by
  have hl := run_loadCells_list (P := P) w a cs hsrc
  have hst := run_storeCells_at P g 0 t cs 0 cur w hg (by simpa using hfit) h1
  rw [hn] at hl
  cases hq : P.info? elem with
  | none => simp [hq] at hs
  | some i =>
    have hi : i.size = sz := by simpa [hq] using hs
    simp [Builtin.copy_, run_underlying hu, Builtin.lenOf, Builtin.firstCells, sizeOf, typeInfo, hq, hi, hl, hst]
theorem copy_run {P : Program} (w0 : World) (T0 : Array Value) (tt : TypeId) (dT ty elem : TypeId) (sz n c2 : Nat) (a : Addr) (cs : List Value)
    (hu : P.underlying dT = some (.slice elem)) (hs : (P.info? elem).map (·.size) = some sz) (hn : cs.length = n * sz)
    (hsrc : ∀ j v, cs[j]? = some v → (w0.alloc (.cells T0 tt)).cell? (a.add j) = some v) (hfit : T0.size = n * sz) (h1 : ∀ v ∈ cs, v.oneCell' = true) :
    ∃ W, (Builtin.copy_ #[dT, dT] ty #[.slice (some ⟨w0.heap.size, 0, none⟩) n n, .slice (some a) n c2]).run P (w0.alloc (.cells T0 tt)) = .ok (.int .i64 (n : Int)) W ∧ W.heap[w0.heap.size]? = some (.cells cs.toArray tt (0, 0)) ∧ Below w0.heap.size w0 W := by
  have hg := heap_alloc_new w0 (.cells T0 tt)
  have hrun := run_copy_many (P := P) (w0.alloc (.cells T0 tt)) dT dT ty elem sz w0.heap.size n n c2 a T0 tt cs hu hs hg hn hsrc (by omega) h1
  have e : T0.toList.drop cs.length = [] := List.drop_eq_nil_of_le (by rw [Array.length_toList]; omega)
  rw [e, List.append_nil] at hrun
  exact ⟨_, hrun, setRow_heap _ _ _ _ tt _ hg, below_setRow ((Below.refl _ _).alloc (Nat.le_refl _) _) (Nat.le_refl _) _⟩
theorem valsL_length (l : List Int) : (valsL l).length = l.length := by simp [valsL]
/-- A row that has been filled is owned. -/
theorem filled_own {w w' : World} {g n size : Nat} {cs : List Value} {e : TypeId} {base : Nat} (h : w'.heap[g]? = some (.cells cs.toArray e (0, 0))) (hb : base ≤ g) (hn : cs.length = n * size) (hm : n ≤ maxLen) :
    w'.ownsRow base e size (.slice (some ⟨g, 0, none⟩) n n) n cs :=
  ⟨hn, .inr ⟨g, n, cs.toArray, rfl, hb, h, Nat.le_refl _, hm, by simpa using hn, by rw [List.toList_toArray, ← hn, List.take_length]⟩⟩
theorem nili_no (ad : Addr) (n c : Nat) (w : World) : (binOp .eql 23 (.slice (some ad) n c) (.slice none 0 0)).run Try.prog w = .ok (.bool false) w := run_eql_slice_nil w _ _ (some ad) n c Try.underlying23
theorem nili_yes (w : World) : (binOp .eql 23 (.slice none 0 0) (.slice none 0 0)).run Try.prog w = .ok (.bool true) w := run_eql_slice_nil w _ _ none 0 0 Try.underlying23
theorem nilm_no (ad : Addr) (n c : Nat) (w : World) : (binOp .eql 39 (.slice (some ad) n c) (.slice none 0 0)).run Try.prog w = .ok (.bool false) w := run_eql_slice_nil w _ _ (some ad) n c Try.underlying39
theorem nilm_yes (w : World) : (binOp .eql 39 (.slice none 0 0) (.slice none 0 0)).run Try.prog w = .ok (.bool true) w := run_eql_slice_nil w _ _ none 0 0 Try.underlying39
set_option maxRecDepth 100000 in
set_option maxHeartbeats 800000 in
theorem copiedi_any (v : Value) (a : List Int) (hmax : a.length ≤ 1000000) (w : World) (hv : Ints w v a) (hnil : NilOr v) :
    Calls Try.prog 46 #[v] w fun e w' => ∃ v', e = .returned v' ∧ Below w.heap.size w w' ∧ w'.ownsRow w.heap.size 3 1 v' a.length (valsL a) := by
  rcases hnil with rfl | ⟨ad, n, c, rfl⟩
  · obtain ⟨p, cap, hp⟩ := hv.slice
    simp only [Value.slice.injEq] at hp
    have ha : a = [] := List.length_eq_zero_iff.1 hp.2.1.symm
    subst ha
    clear hp hv
    have hny := nili_yes
    go_enter Try.func46, Try.ntmps46
    go_wp2_with fail
    go_ret
    exact ⟨_, rfl, Below.refl _ _, World.ownsRow_nil _ _ _ _⟩
  · obtain ⟨p, cap, hp⟩ := hv.slice
    simp only [Value.slice.injEq] at hp
    obtain ⟨hpa, hn, hcc⟩ := hp
    clear hpa hcc
    subst hn
    have HC := Lib.hid (ints_cells hv)
    have hmk : ∀ w : World, (Instr.makeSlice 23 (.int .i64 (a.length : Int)) (.int .i64 (a.length : Int))).run Try.prog w = .ok (.slice (some ⟨w.heap.size, 0, none⟩) a.length a.length) (w.alloc (.cells (zeros a.length) 3)) := fun w => by
      have := run_make (P := Try.prog) w 23 3 Try.t3 (.int .i64 0) Try.underlying23 (by kernel_rfl) (by kernel_rfl) .i64 .i64 a.length a.length (by omega) (Int.le_refl _) (by show ((8 : Nat) : Int) * (a.length : Int) ≤ _; omega) (by omega)
      rw [this]; simp only [zeros, Value.cells, Int.toNat_natCast, show (Try.t3).size = 1 from rfl, Nat.mul_one]
    have HL := Lib.hid (valsL_length a)
    have HE : Hid (∀ w' : World, w'.heap[w.heap.size]? = some (.cells (valsL a).toArray 3 (0, 0)) → w'.ownsRow w.heap.size 3 1 (.slice (some ⟨w.heap.size, 0, none⟩) a.length a.length) a.length (valsL a)) := Lib.hid (fun w' h => filled_own (w := w) h (Nat.le_refl _) (by rw [valsL_length]; omega) (by rw [show maxLen = 9223372036854775807 from rfl]; omega))
    have HZ := Lib.hid (zeros_size a.length)
    obtain ⟨cs, hcs⟩ : ∃ cs, valsL a = cs := ⟨_, rfl⟩
    have HO : Hid (∀ u ∈ cs, u.oneCell' = true) := Lib.hid (by rw [← hcs]; exact vals_one a)
    rw [hcs] at HC HL HE ⊢
    clear hv hcs
    have hnn := nili_no ad
    generalize a.length = n at *
    obtain ⟨W1, hrun, hw1, hb1⟩ := copy_run (P := Try.prog) w (zeros n) 3 23 3 3 1 n c ad cs Try.underlying23 (by kernel_rfl) (by rw [HL.out, Nat.mul_one]) (HC.out _ ((Below.refl _ _).alloc (Nat.le_refl _) _)) (by rw [HZ.out, Nat.mul_one]) HO.out
    have HW := Lib.hid hb1
    have HW1 := Lib.hid (HE.out _ hw1)
    clear hb1 hw1
    go_enter Try.func46, Try.ntmps46
    go_wp2_with fail
    go_ret
    exact ⟨_, rfl, HW.out, HW1.out⟩
/-- A list's modules lie somewhere: their cells. -/
theorem mods_vals {w : World} {ad : Addr} {n c : Nat} {l : List Md} (h : Mods w (.slice (some ad) n c) l) :
    ∃ vs, vs.length = l.length ∧ (∀ W, Below w.heap.size w W → ∀ j u, (modC l vs)[j]? = some u → W.cell? (ad.add j) = some u) ∧ (∀ k, (h : k < l.length) → (h2 : k < vs.length) → Ints w vs[k] l[k].a ∧ NilOr vs[k]) ∧ ∀ u ∈ modC l vs, u.oneCell' = true := by
  cases h with
  | none p cap => exact ⟨[], rfl, fun W _ j u hu => by simp [modC] at hu, fun k h => by simp at h, fun u hu => by simp [modC] at hu⟩
  | some b off cap _ hpos hlt hx =>
    have hch : ∀ i : Fin l.length, ∃ v, w.cell? ⟨b, off + i.1 * 2 + 1, none⟩ = some v ∧ Ints w v l[i.1].a ∧ NilOr v := fun i => (hx i.1 i.2).2
    obtain ⟨f, hf⟩ : ∃ f : Fin l.length → Value, ∀ i, w.cell? ⟨b, off + i.1 * 2 + 1, none⟩ = some (f i) ∧ Ints w (f i) l[i.1].a ∧ NilOr (f i) := ⟨fun i => Classical.choose (hch i), fun i => Classical.choose_spec (hch i)⟩
    have hlen : (List.ofFn f).length = l.length := List.length_ofFn
    refine ⟨List.ofFn f, hlen, ?_, ?_, ?_⟩
    · intro W hb j u hu
      have hj : j < l.length * 2 := by
        have := (List.getElem?_eq_some_iff.1 hu).1
        rwa [modC_length _ _ hlen.symm] at this
      have hk : j / 2 < l.length := by omega
      have g := modC_get l (List.ofFn f) (j / 2) hk (by rw [hlen]; exact hk)
      rw [show (⟨b, off, none⟩ : Addr).add j = ⟨b, off + j, none⟩ by simp [Addr.add], hb.cell (p := ⟨b, off + j, none⟩) hlt]
      rcases Nat.mod_two_eq_zero_or_one j with h0 | h0
      · have e : j = j / 2 * 2 := by omega
        have h1 := (hx (j / 2) hk).1
        rw [← e] at g h1
        rw [g.1] at hu
        rw [h1]; exact hu
      · have e : j = j / 2 * 2 + 1 := by omega
        have h1 := (hf ⟨j / 2, hk⟩).1
        simp only [Nat.add_assoc] at h1
        rw [← e] at g h1
        rw [g.2] at hu
        rw [h1, ← hu]; simp
    · intro k h1 h2
      have := (hf ⟨k, h1⟩).2
      simpa using this
    · intro u hu
      obtain ⟨j, hj, rfl⟩ := List.mem_iff_getElem.1 hu
      rw [modC_length _ _ hlen.symm] at hj
      have hk : j / 2 < l.length := by omega
      have g := modC_get l (List.ofFn f) (j / 2) hk (by rw [hlen]; exact hk)
      rcases Nat.mod_two_eq_zero_or_one j with h0 | h0
      · have e : j = j / 2 * 2 := by omega
        rw [← e] at g
        have := g.1
        rw [List.getElem?_eq_getElem (by rw [modC_length _ _ hlen.symm]; exact hj)] at this
        rw [Option.some.inj this]; rfl
      · have e : j = j / 2 * 2 + 1 := by omega
        rw [← e] at g
        have := g.2
        rw [List.getElem?_eq_getElem (by rw [modC_length _ _ hlen.symm]; exact hj)] at this
        rw [Option.some.inj this]
        obtain ⟨p, c, hp⟩ := (hf ⟨j / 2, hk⟩).2.1.slice
        simp [hp]; rfl
theorem made_mods (n : Nat) (hn : n ≤ 50000) (w : World) : (Instr.makeSlice 39 (.int .i64 (n : Int)) (.int .i64 (n : Int))).run Try.prog w = .ok (.slice (some ⟨w.heap.size, 0, none⟩) n n) (w.alloc (.cells (madeCells #[.int .u8 0, .slice none 0 0] (n * 2)) 27)) := by
  have := run_make (P := Try.prog) w 39 27 Try.t27 (.agg #[.int .u8 0, .slice none 0 0]) Try.underlying39 (by kernel_rfl) (by kernel_rfl) .i64 .i64 n n (by omega) (Int.le_refl _) (by show ((32 : Nat) : Int) * (n : Int) ≤ _; omega) (by omega)
  rw [this]; simp only [Value.cells, Int.toNat_natCast, show (Try.t27).size = 2 from rfl]
/-- How a list of modules is copied: its row, not its args. -/
def CpEnd (l : List Md) (w : World) (e : Ending) (w' : World) : Prop :=
  ∃ v' vs, e = .returned v' ∧ Below w.heap.size w w' ∧ vs.length = l.length ∧ w'.ownsRow w.heap.size 27 2 v' l.length (modC l vs) ∧ (∀ k, (h : k < l.length) → (h2 : k < vs.length) → Ints w vs[k] l[k].a ∧ NilOr vs[k])
set_option maxRecDepth 100000 in
set_option maxHeartbeats 800000 in
theorem copiedm_any (v : Value) (l : List Md) (hmax : l.length ≤ 50000) (w : World) (hv : Mods w v l) (hnil : NilOr v) :
    Calls Try.prog 45 #[v] w (CpEnd l w) := by
  rcases hnil with rfl | ⟨ad, n, c, rfl⟩
  · obtain ⟨p, cap, hp⟩ := hv.slice
    simp only [Value.slice.injEq] at hp
    have ha : l = [] := List.length_eq_zero_iff.1 hp.2.1.symm
    subst ha
    clear hp hv
    have hny := nilm_yes
    go_enter Try.func45, Try.ntmps45
    go_wp2_with fail
    go_ret
    exact ⟨_, [], rfl, Below.refl _ _, rfl, World.ownsRow_nil _ _ _ _, fun k h => by simp at h⟩
  · obtain ⟨p, cap, hp⟩ := hv.slice
    simp only [Value.slice.injEq] at hp
    obtain ⟨hpa, hn, hcc⟩ := hp
    clear hpa hcc
    subst hn
    obtain ⟨vs, hvl, hC, hI, hO⟩ := mods_vals hv
    have HC := Lib.hid hC
    have hmk := fun w => made_mods l.length hmax w
    have HL : Hid ((modC l vs).length = l.length * 2) := Lib.hid (modC_length _ _ hvl.symm)
    have HE : Hid (∀ w' : World, Below w.heap.size w w' → w'.heap[w.heap.size]? = some (.cells (modC l vs).toArray 27 (0, 0)) → CpEnd l w (.returned (.slice (some ⟨w.heap.size, 0, none⟩) l.length l.length)) w') := Lib.hid (fun w' hb h => ⟨_, vs, rfl, hb, hvl, filled_own (w := w) h (Nat.le_refl _) (modC_length _ _ hvl.symm) (by rw [show maxLen = 9223372036854775807 from rfl]; omega), hI⟩)
    have HZ : Hid ((madeCells #[.int .u8 0, .slice none 0 0] (l.length * 2)).size = l.length * 2) := Lib.hid (size_madeCells _ _)
    have HO := Lib.hid hO
    obtain ⟨cs, hcs⟩ : ∃ cs, modC l vs = cs := ⟨_, rfl⟩
    rw [hcs] at HC HL HE HO
    clear hv hcs hvl hC hI hO
    have hnn := nilm_no ad
    generalize l.length = n at *
    obtain ⟨W1, hrun, hw1, hb1⟩ := copy_run (P := Try.prog) w (madeCells #[.int .u8 0, .slice none 0 0] (n * 2)) 27 39 3 27 2 n c ad cs Try.underlying39 (by kernel_rfl) HL.out (HC.out _ ((Below.refl _ _).alloc (Nat.le_refl _) _)) HZ.out HO.out
    have HW := Lib.hid (HE.out _ hb1 hw1)
    clear hb1 hw1
    go_enter Try.func45, Try.ntmps45
    go_wp2_with fail
    go_ret
    exact HW.out
end Go.Proofs.Ytkjjehnfibfngaa
