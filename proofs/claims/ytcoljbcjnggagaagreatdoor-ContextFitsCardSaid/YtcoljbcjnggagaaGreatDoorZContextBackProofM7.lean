/-
  Texts of the proof, merged: ZRewRefM, ZRewRefG, ZRewRefS, ZRewRefU, ZRewStM.
-/
import Derived.Test.YtcoljbcjnggagaaGreatDoorZContextBackProofM6
import Derived.Test.YtcoljbcjnggagaaGreatDoorZContextBackProofM4
import Derived.Lib.BufferMore
import Derived.Deep.RegionHeld3
namespace Go.Proofs.YtcoljbcjnggagaaGreatDoor
open Go.RowKit
open WM RM
set_option linter.unusedVariables false
set_option linter.unusedSimpArgs false

theorem fr_slice {w : World} {base n size : Nat} {e : TypeId} {v : Value} {xs : List Value} (h : w.ownsRow base e size v n xs) : ∃ p c, v = .slice p n c := by
  rcases h.2 with ⟨h1, h2⟩ | ⟨g, cap, cur, h1, _⟩
  · exact ⟨none, 0, by rw [h1, h2]⟩
  · exact ⟨_, _, h1⟩
/-- The values of the first forms. -/
def wos (fs : List Fm) (x : List Int) (k : Nat) : List Int := (fs.take k).map (worth · x)
theorem wos_len {fs : List Fm} {x : List Int} {k : Nat} (h : k ≤ fs.length) : (wos fs x k).length = k := by unfold wos; rw [List.length_map, List.length_take]; omega
theorem wos_snoc {fs : List Fm} {x : List Int} {k : Nat} (h : k < fs.length) : wos fs x (k + 1) = wos fs x k ++ [worth fs[k] x] := by
  unfold wos; rw [List.take_succ_eq_append_getElem h, List.map_append]; rfl
theorem wos_all (fs : List Fm) (x : List Int) : wos fs x fs.length = fs.map (worth · x) := by unfold wos; rw [List.take_length]
/-- Where the loop over a shape's args stands. -/
structure InM (wo : World) (c : UInt8) (fs : List Fm) (x : List Int) (k : Nat) (va : Value) (wi : World) : Prop where
  below : Below wo.heap.size wo wi
  blk : wi.heap[wo.heap.size]? = some (.cells #[.int .u8 c.toNat, va] 45 (0, 0))
  own : wi.ownsRow (wo.heap.size + 1) 3 1 va k (valsL (wos fs x k))
  hi : k ≤ fs.length
  good : ∀ j, (h : j < fs.length) → j < k → argB (worth fs[j] x) = true
theorem inM_start (wo : World) (c : UInt8) (fs : List Fm) (x : List Int) : InM wo c fs x 0 (.slice none 0 0) (wo.alloc (.cells #[.int .u8 c.toNat, .slice none 0 0] 45)) :=
  ⟨(Below.refl _ _).alloc (Nat.le_refl _) _, heap_alloc_new _ _, by simpa [wos, valsL] using World.ownsRow_nil (wo.alloc (.cells #[.int .u8 c.toNat, .slice none 0 0] 45)) (wo.heap.size + 1) 3 1, Nat.zero_le _, fun j _ h => by omega⟩
theorem InM.later {wo wi w2 : World} {c : UInt8} {fs : List Fm} {x : List Int} {k : Nat} {va : Value} (h : InM wo c fs x k va wi) (hb : Below wi.heap.size wi w2) : InM wo c fs x k va w2 :=
  ⟨h.below.trans (hb.mono h.below.size), (hb.block _ (lt_of_block h.blk)).trans h.blk, l_own_later h.own hb, h.hi, h.good⟩
theorem inM_blk {wo wi w3 : World} {c : UInt8} {fs : List Fm} {x : List Int} {k : Nat} {va : Value} {tmp : Obj} (h : InM wo c fs x k va wi) (hg : (wi.alloc tmp).grownBy w3 va.ownBlock) : w3.heap[wo.heap.size]? = some (.cells #[.int .u8 c.toNat, va] 45 (0, 0)) := by
  have hlt2 := lt_of_block h.blk
  rw [hg.block wo.heap.size (by simp; omega) (fun e => by have := (owns_lt h.own _ e.symm).1; omega)]
  exact heap_alloc_old h.blk _
theorem inM_step {wo wi w3 : World} {c : UInt8} {fs : List Fm} {x : List Int} {k : Nat} {va v2 : Value} {tmp : Obj} (h : InM wo c fs x k va wi) (hk : k < fs.length) (ho : w3.ownsRow (wo.heap.size + 1) 3 1 v2 (k + 1) (valsL (wos fs x k) ++ [.int .i64 (worth fs[k] x)])) (hg : (wi.alloc tmp).grownBy w3 va.ownBlock)
    (hb : argB (worth fs[k] x) = true) : InM wo c fs x (k + 1) v2 (w3.setCell ⟨wo.heap.size, 1, none⟩ v2) := by
  have z := h.below.size
  have hv := owns_lt h.own
  have hb3 := inM_blk h hg
  have ho2 : w3.ownsRow (wo.heap.size + 1) 3 1 v2 (k + 1) (valsL (wos fs x (k + 1))) := by
    rw [wos_snoc hk, valsL_app]; exact ho
  refine ⟨((h.below.alloc z tmp).grown hg (by simp; omega) (fun j e => by have := (hv j e).1; omega)).setCell (Nat.le_refl _) _, ?_, ?_, hk, fun j hj h2 => ?_⟩
  · have := Lib.heap_setCell_same (i := 1) hb3 v2
    simpa using this
  · refine ownsRow_setCell_other ho2 ?_ _
    intro e
    have := (owns_lt ho2 _ e).1
    simp at this; omega
  · rcases Nat.lt_or_eq_of_le (Nat.le_of_lt_succ h2) with h3 | h3
    · exact h.good j hj h3
    · subst h3; exact hb
/-- Where the loop over the shapes stands. -/
structure OutM (w0 : World) (out : List Sh) (x : List Int) (k : Nat) (v : Value) (wr : World) : Prop where
  below : Below w0.heap.size w0 wr
  own : ∃ vs, ModFr wr w0.heap.size v ((out.take k).map (mkM · x)) vs
  hi : k ≤ out.length
  good : ∀ j, (h : j < out.length) → j < k → mkB out[j] x = true
theorem outM_start (w0 : World) (out : List Sh) (x : List Int) : OutM w0 out x 0 (.slice none 0 0) w0 :=
  ⟨Below.refl _ _, ⟨[], by simpa using modFr_nil w0 w0.heap.size⟩, Nat.zero_le _, fun j _ h => by omega⟩
/-- How Made ends. -/
def MdEnd (r : Rw) (m : Md) (w : World) (e : Ending) (w' : World) : Prop :=
  Below w.heap.size w w' ∧ ((made r m = none ∧ e = .returned (.tuple #[.slice none 0 0, .bool false])) ∨ ∃ v vs, made r m = some (r.out.map (mkM · m.a)) ∧ e = .returned (.tuple #[v, .bool true]) ∧ ModFr w' w.heap.size v (r.out.map (mkM · m.a)) vs)
theorem made_bad {r : Rw} {m : Md} {i k : Nat} (hi : i < r.out.length) (hk : k < r.out[i].a.length) (h : argB (worth r.out[i].a[k] m.a) = false) : made r m = none := by
  have h1 : mkB r.out[i] m.a = false := by
    unfold mkB
    rw [List.all_eq_false]
    exact ⟨_, List.getElem_mem hk, by rw [h]; simp⟩
  have h2 : r.out.all (mkB · m.a) = false := by
    rw [List.all_eq_false]
    exact ⟨_, List.getElem_mem hi, by rw [h1]; simp⟩
  unfold made; rw [if_neg (by rw [h2]; decide)]
theorem made_ok {r : Rw} {m : Md} (h : ∀ i, (hi : i < r.out.length) → mkB r.out[i] m.a = true) : made r m = some (r.out.map (mkM · m.a)) := by
  have h2 : r.out.all (mkB · m.a) = true := by
    rw [List.all_eq_true]
    intro s hs
    obtain ⟨j, hj, rfl⟩ := List.mem_iff_getElem.1 hs
    exact h j hj
  unfold made; rw [if_pos h2]
theorem mkB_ok {s : Sh} {x : List Int} (h : ∀ j, (hj : j < s.a.length) → argB (worth s.a[j] x) = true) : mkB s x = true := by
  unfold mkB
  rw [List.all_eq_true]
  intro f hf
  obtain ⟨j, hj, rfl⟩ := List.mem_iff_getElem.1 hf
  exact h j hj
theorem argB_lo {x : Int} (h : x < -1000000000) : argB x = false := by simp [argB]; omega
theorem argB_hi {x : Int} (h : 1000000000 < x) : argB x = false := by simp [argB]; omega
theorem argB_ok {x : Int} (h1 : ¬ x < -1000000000) (h2 : ¬ 1000000000 < x) : argB x = true := by simp [argB]; omega
end Go.Proofs.YtcoljbcjnggagaaGreatDoor
namespace Go.Proofs.YtcoljbcjnggagaaGreatDoor
open Go.RowKit
open WM RM
set_option linter.unusedVariables false
set_option linter.unusedSimpArgs false

/-- Is a shape, a rule too great? -/
def shG (s : Sh) : Bool := decide (10 < s.a.length) || s.a.any fun g => decide (10 < g.cs.length)
def rwG (r : Rw) : Bool := decide (10 < r.gs.length) || decide (30 < r.out.length) || r.gs.any (fun g => decide (10 < g.cs.length)) || r.out.any shG
theorem greatR_eq (l : List Rw) : greatR l = (decide (50 < l.length) || l.any rwG) := rfl
theorem greatR_len {l : List Rw} (h : 50 < l.length) : greatR l = true := by rw [greatR_eq]; simp [h]
theorem greatR_at {l : List Rw} {i : Nat} (hi : i < l.length) (h : rwG l[i] = true) : greatR l = true := by
  rw [greatR_eq, show l.any rwG = true from List.any_eq_true.2 ⟨_, List.getElem_mem hi, h⟩]; simp
theorem greatR_not {l : List Rw} (h1 : ¬ 50 < l.length) (h : ∀ i, (hi : i < l.length) → rwG l[i] = false) : greatR l = false := by
  have : l.any rwG = false := by
    rw [List.any_eq_false]
    intro x hx
    obtain ⟨j, hj, rfl⟩ := List.mem_iff_getElem.1 hx
    rw [h j hj]; decide
  rw [greatR_eq, this]; simpa using h1
theorem rwG_1 {r : Rw} (h : 10 < r.gs.length) : rwG r = true := by simp [rwG, h]
theorem rwG_2 {r : Rw} (h : 30 < r.out.length) : rwG r = true := by simp [rwG, h]
theorem rwG_3 {r : Rw} {k : Nat} (hk : k < r.gs.length) (h : 10 < r.gs[k].cs.length) : rwG r = true := by
  have : r.gs.any (fun g => decide (10 < g.cs.length)) = true := List.any_eq_true.2 ⟨_, List.getElem_mem hk, by simpa using h⟩
  unfold rwG; rw [this]; simp
theorem rwG_4 {r : Rw} {k : Nat} (hk : k < r.out.length) (h : shG r.out[k] = true) : rwG r = true := by
  have : r.out.any shG = true := List.any_eq_true.2 ⟨_, List.getElem_mem hk, h⟩
  unfold rwG; rw [this]; simp
theorem shG_1 {s : Sh} (h : 10 < s.a.length) : shG s = true := by simp [shG, h]
theorem shG_2 {s : Sh} {k : Nat} (hk : k < s.a.length) (h : 10 < s.a[k].cs.length) : shG s = true := by
  have : s.a.any (fun g => decide (10 < g.cs.length)) = true := List.any_eq_true.2 ⟨_, List.getElem_mem hk, by simpa using h⟩
  unfold shG; rw [this]; simp
theorem shG_no {s : Sh} (h1 : ¬ 10 < s.a.length) (h : ∀ k, (hk : k < s.a.length) → ¬ 10 < s.a[k].cs.length) : shG s = false := by
  have : s.a.any (fun g => decide (10 < g.cs.length)) = false := by
    rw [List.any_eq_false]
    intro x hx
    obtain ⟨j, hj, rfl⟩ := List.mem_iff_getElem.1 hx
    simpa using h j hj
  unfold shG; rw [this]; simpa using h1
theorem rwG_no {r : Rw} (h1 : ¬ 10 < r.gs.length) (h2 : ¬ 30 < r.out.length) (h3 : ∀ k, (hk : k < r.gs.length) → ¬ 10 < r.gs[k].cs.length) (h4 : ∀ k, (hk : k < r.out.length) → shG r.out[k] = false) : rwG r = false := by
  have a : r.gs.any (fun g => decide (10 < g.cs.length)) = false := by
    rw [List.any_eq_false]
    intro x hx
    obtain ⟨j, hj, rfl⟩ := List.mem_iff_getElem.1 hx
    simpa using h3 j hj
  have b : r.out.any shG = false := by
    rw [List.any_eq_false]
    intro x hx
    obtain ⟨j, hj, rfl⟩ := List.mem_iff_getElem.1 hx
    rw [h4 j hj]; decide
  unfold rwG; rw [a, b]; simp; omega
theorem upto_step {α : Prop} {n k : Nat} {P : Nat → Prop} (h : ∀ j, j < n → j < k → P j) (hk : P k) : ∀ j, j < n → j < k + 1 → P j := by
  intro j hj h2
  rcases Nat.lt_or_eq_of_le (Nat.le_of_lt_succ h2) with h3 | h3
  · exact h j hj h3
  · subst h3; exact hk
set_option maxRecDepth 100000 in
set_option maxHeartbeats 6400000 in
theorem refgreat_any (v : Value) (l : List Rw) (hmax : l.length ≤ 9223372036854775807) (w : World) (hv : Rws w v l) :
    Calls Tryz.prog 45 #[v] w fun e w' => e = .returned (.bool (greatR l)) ∧ w = w' := by
  obtain ⟨p, cap, rfl⟩ := hv.slice
  have HV := Lib.hid hv
  clear hv
  by_cases h50 : 50 < l.length
  · have HF := Lib.hid (greatR_len h50)
    have c1 : (50 : Int) < (l.length : Int) := by omega
    go_enter Tryz.func45, Tryz.ntmps45
    go_wp2_with fail
    go_ret
    exact ⟨ret_bool HF.out.symm, rfl⟩
  · have c1 : ¬ (50 : Int) < (l.length : Int) := by omega
    go_enter Tryz.func45, Tryz.ntmps45
    go_wp2_with fail
    go_loop [3] (fun i => ∃ k : Nat, k ≤ l.length ∧ i = .int .i64 k ∧ ∀ j, (hj : j < l.length) → j < k → rwG l[j] = false) (fun i => l.length - (intOf i).toNat)
    case atStart => exact ⟨0, Nat.zero_le _, rfl, fun j _ h => by omega⟩
    case round =>
      obtain ⟨i, hi, rfl, hok⟩ := hrel
      have HK := Lib.hid hok
      clear hok
      by_cases hlt : i < l.length
      · obtain ⟨b, off, cap', g, gc, o, oc, hp, lb, hat⟩ := HV.out.at hlt
        obtain rfl : p = some ⟨b, off, none⟩ := by cases hp; rfl
        have e4 := hat.c4
        have e6 := hat.c6
        have HGs := Lib.hid hat.gs
        have HOs := Lib.hid hat.out
        have k1 : (i : Int) < (l.length : Int) := by omega
        have HAt := Lib.hid (fun h => greatR_at hlt h)
        have HNx : Hid (rwG l[i] = false → ∀ j, (hj : j < l.length) → j < i + 1 → rwG l[j] = false) := Lib.hid (fun hn j hj h => by
          rcases Nat.lt_or_eq_of_le (Nat.le_of_lt_succ h) with h3 | h3
          · exact HK.out j hj h3
          · subst h3; exact hn)
        clear hp hat
        generalize l[i] = r at e4 e6 HGs HOs HAt HNx
        by_cases hg : 10 < r.gs.length
        · have HF := Lib.hid (HAt.out (rwG_1 hg))
          have c2 : (10 : Int) < (r.gs.length : Int) := by omega
          go_wp2_with fail
          go_ret
          exact ⟨ret_bool HF.out.symm, rfl⟩
        by_cases ho : 30 < r.out.length
        · have HF := Lib.hid (HAt.out (rwG_2 ho))
          have c2 : ¬ (10 : Int) < (r.gs.length : Int) := by omega
          have c3 : (30 : Int) < (r.out.length : Int) := by omega
          go_wp2_with fail
          go_ret
          exact ⟨ret_bool HF.out.symm, rfl⟩
        have c2 : ¬ (10 : Int) < (r.gs.length : Int) := by omega
        have c3 : ¬ (30 : Int) < (r.out.length : Int) := by omega
        go_wp2_with fail
        go_loop [4] (fun i' => ∃ k : Nat, k ≤ r.gs.length ∧ i' = .int .i64 k ∧ ∀ j, (hj : j < r.gs.length) → j < k → ¬ 10 < r.gs[j].cs.length) (fun i' => r.gs.length - (intOf i').toNat)
        case atStart => exact ⟨0, Nat.zero_le _, rfl, fun j _ h => by omega⟩
        case round =>
          obtain ⟨k, hk, rfl, hok⟩ := hrel
          have HGK := Lib.hid hok
          clear hok
          by_cases hkl : k < r.gs.length
          · obtain ⟨b2, off2, cap2, pf, cf, hp2, f0, f1, -, lb2⟩ := HGs.out.at hkl
            obtain rfl : g = some ⟨b2, off2, none⟩ := by cases hp2; rfl
            have k2 : (k : Int) < (r.gs.length : Int) := by omega
            clear hp2
            by_cases h10 : 10 < r.gs[k].cs.length
            · have HF := Lib.hid (HAt.out (rwG_3 hkl h10))
              have c4 : (10 : Int) < (r.gs[k].cs.length : Int) := by omega
              generalize r.gs[k].cs.length = n at f1 c4
              go_wp2_with fail
              go_ret
              exact ⟨ret_bool HF.out.symm, rfl⟩
            · have c4 : ¬ (10 : Int) < (r.gs[k].cs.length : Int) := by omega
              have HN : Hid (∀ j, (hj : j < r.gs.length) → j < k + 1 → ¬ 10 < r.gs[j].cs.length) := Lib.hid (fun j hj h => by
                rcases Nat.lt_or_eq_of_le (Nat.le_of_lt_succ h) with h3 | h3
                · exact HGK.out j hj h3
                · subst h3; exact h10)
              clear h10
              generalize r.gs[k].cs.length = n at f1 c4
              go_wp2_with fail
              go_round
              case rel => exact ⟨k + 1, by omega, by go_num, HN.out⟩
              case measure => simp [intOf]; omega
          · obtain rfl : k = r.gs.length := by omega
            have k2 : ¬ (r.gs.length : Int) < (r.gs.length : Int) := by omega
            go_wp2_with fail
            go_loop [5] (fun i' => ∃ k : Nat, k ≤ r.out.length ∧ i' = .int .i64 k ∧ ∀ j, (hj : j < r.out.length) → j < k → shG r.out[j] = false) (fun i' => r.out.length - (intOf i').toNat)
            case atStart => exact ⟨0, Nat.zero_le _, rfl, fun j _ h => by omega⟩
            case round =>
              obtain ⟨k, hk2, rfl, hok⟩ := hrel
              have HOK := Lib.hid hok
              clear hok
              by_cases hkl : k < r.out.length
              · obtain ⟨b2, off2, cap2, pf, cf, hp2, f0, f1, hin, lb2⟩ := HOs.out.at hkl
                obtain rfl : o = some ⟨b2, off2, none⟩ := by cases hp2; rfl
                have k3 : (k : Int) < (r.out.length : Int) := by omega
                have HFs := Lib.hid hin
                have HA2 := Lib.hid (fun h => HAt.out (rwG_4 hkl h))
                have HN2 : Hid (shG r.out[k] = false → ∀ j, (hj : j < r.out.length) → j < k + 1 → shG r.out[j] = false) := Lib.hid (fun hn j hj h => by
                  rcases Nat.lt_or_eq_of_le (Nat.le_of_lt_succ h) with h3 | h3
                  · exact HOK.out j hj h3
                  · subst h3; exact hn)
                clear hp2 hin
                generalize r.out[k] = s at f0 f1 HFs HA2 HN2
                by_cases h10 : 10 < s.a.length
                · have HF := Lib.hid (HA2.out (shG_1 h10))
                  have c4 : (10 : Int) < (s.a.length : Int) := by omega
                  go_wp2_with fail
                  go_ret
                  exact ⟨ret_bool HF.out.symm, rfl⟩
                · have c4 : ¬ (10 : Int) < (s.a.length : Int) := by omega
                  go_wp2_with fail
                  go_loop [6] (fun i' => ∃ n : Nat, n ≤ s.a.length ∧ i' = .int .i64 n ∧ ∀ j, (hj : j < s.a.length) → j < n → ¬ 10 < s.a[j].cs.length) (fun i' => s.a.length - (intOf i').toNat)
                  case atStart => exact ⟨0, Nat.zero_le _, rfl, fun j _ h => by omega⟩
                  case round =>
                    obtain ⟨n, hn, rfl, hok⟩ := hrel
                    have HSK := Lib.hid hok
                    clear hok
                    by_cases hnl : n < s.a.length
                    · obtain ⟨b3, off3, cap3, pg, cg, hp3, g0, g1, -, lb3⟩ := HFs.out.at hnl
                      obtain rfl : pf = some ⟨b3, off3, none⟩ := by cases hp3; rfl
                      have k4 : (n : Int) < (s.a.length : Int) := by omega
                      clear hp3
                      by_cases hx : 10 < s.a[n].cs.length
                      · have HF := Lib.hid (HA2.out (shG_2 hnl hx))
                        have c5 : (10 : Int) < (s.a[n].cs.length : Int) := by omega
                        generalize s.a[n].cs.length = z at g1 c5
                        go_wp2_with fail
                        go_ret
                        exact ⟨ret_bool HF.out.symm, rfl⟩
                      · have c5 : ¬ (10 : Int) < (s.a[n].cs.length : Int) := by omega
                        have HN : Hid (∀ j, (hj : j < s.a.length) → j < n + 1 → ¬ 10 < s.a[j].cs.length) := Lib.hid (fun j hj h => by
                          rcases Nat.lt_or_eq_of_le (Nat.le_of_lt_succ h) with h3 | h3
                          · exact HSK.out j hj h3
                          · subst h3; exact hx)
                        clear hx
                        generalize s.a[n].cs.length = z at g1 c5
                        go_wp2_with fail
                        go_round
                        case rel => exact ⟨n + 1, by omega, by go_num, HN.out⟩
                        case measure => simp [intOf]; omega
                    · obtain rfl : n = s.a.length := by omega
                      have k4 : ¬ (s.a.length : Int) < (s.a.length : Int) := by omega
                      have HN := Lib.hid (HN2.out (shG_no h10 (fun j hj => HSK.out j hj hj)))
                      go_wp2_with fail
                      go_round
                      case rel => exact ⟨k + 1, by omega, by go_num, HN.out⟩
                      case measure => simp [intOf]; omega
              · obtain rfl : k = r.out.length := by omega
                have k3 : ¬ (r.out.length : Int) < (r.out.length : Int) := by omega
                have HN := Lib.hid (HNx.out (rwG_no hg ho (fun j hj => HGK.out j hj hj) (fun j hj => HOK.out j hj hj)))
                go_wp2_with fail
                go_round
                case rel => exact ⟨i + 1, by omega, by go_num, HN.out⟩
                case measure => simp [intOf]; omega
      · obtain rfl : i = l.length := by omega
        have HF := Lib.hid (greatR_not h50 (fun i hi => HK.out i hi hi))
        go_wp2_with fail
        go_ret
        exact ⟨ret_bool HF.out.symm, rfl⟩
/-- Rules that are not great are small. -/
theorem greatR_sm {l : List Rw} (h : greatR l = false) : l.length ≤ 50 ∧ ∀ r ∈ l, RwSm r := by
  rw [greatR_eq, Bool.or_eq_false_iff] at h
  refine ⟨by simpa using h.1, fun r hr => ?_⟩
  have h2 := List.any_eq_false.1 h.2 r hr
  have h3 : rwG r = false := by simpa using h2
  unfold rwG at h3
  simp only [Bool.or_eq_false_iff, decide_eq_false_iff_not] at h3
  obtain ⟨⟨⟨a, b⟩, c⟩, d⟩ := h3
  refine ⟨by omega, by omega, fun f hf => ?_, fun s hs => ?_⟩
  · have := List.any_eq_false.1 c f hf
    simpa using this
  · have := List.any_eq_false.1 d s hs
    have h4 : shG s = false := by simpa using this
    unfold shG at h4
    simp only [Bool.or_eq_false_iff, decide_eq_false_iff_not] at h4
    refine ⟨by omega, fun f hf => ?_⟩
    have := List.any_eq_false.1 h4.2 f hf
    simpa using this
end Go.Proofs.YtcoljbcjnggagaaGreatDoor
namespace Go.Proofs.YtcoljbcjnggagaaGreatDoor
open Go.RowKit
open WM RM
set_option linter.unusedVariables false
set_option linter.unusedSimpArgs false

theorem st_chain {X Y Z : World} (h : Below X.heap.size X Y) (h2 : Below Y.heap.size Y Z) : Below X.heap.size X Z := h.trans (h2.mono h.size)
theorem st_keep2 {W w' : World} {b c : Nat} (h1 : b < W.heap.size) (h2 : c < W.heap.size) (hb : Below W.heap.size W w') : (∀ o, w'.cell? ⟨b, o, none⟩ = W.cell? ⟨b, o, none⟩) ∧ (∀ o, w'.cell? ⟨c, o, none⟩ = W.cell? ⟨c, o, none⟩) :=
  ⟨fun o => hb.cell (p := ⟨b, o, none⟩) h1, fun o => hb.cell (p := ⟨c, o, none⟩) h2⟩
theorem own_sl {w : World} {base n size : Nat} {e : TypeId} {v : Value} {xs : List Value} (h : w.ownsRow base e size v n xs) : ∃ p c, v = .slice p n c := by
  rcases h.2 with ⟨h1, h2⟩ | ⟨g, cap, cur, h1, _⟩
  · exact ⟨none, 0, by rw [h1, h2]⟩
  · exact ⟨_, _, h1⟩
theorem mods_at1 {w : World} {b off len cap c2 : Nat} {l : List Md} (h : Mods w (.slice (some ⟨b, off, none⟩) len cap) l) {k : Nat} (hk : k < l.length) : Mods w (.slice (some ⟨b, off + k * 2, none⟩) 1 c2) [l[k]] := by
  cases h with
  | none _ _ => simp at hk
  | some _ _ _ _ hpos hb hx =>
    refine .some b (off + k * 2) c2 [l[k]] (by simp) hb fun i hi => ?_
    have : i = 0 := by simp at hi; omega
    subst this
    obtain ⟨h1, v, h2, h3, h4⟩ := hx k hk
    exact ⟨by simpa using h1, v, by simpa using h2, h3, h4⟩
theorem modFr_of_own {w : World} {base : Nat} {v : Value} {l : List Md} {vs : List Value} (h : ModOwn w base v l vs) : ModFr w base v l vs :=
  ⟨h.len, h.row, fun k hk hk2 => ⟨(h.args k hk hk2).own, .inr (h.args k hk hk2).apart⟩⟩
theorem stepL_snoc {l : List Rw} {w : List Md} {k : Nat} (hk : k < w.length) {d : List Md} (h : stepL l (w.take k) = some d) : stepL l (w.take (k + 1)) = (succM l w[k]).map (d ++ ·) := by
  rw [List.take_succ_eq_append_getElem hk, stepL_app, h, stepL_one]
  cases succM l w[k] <;> rfl
theorem stepL_stop {l : List Rw} {w : List Md} {k : Nat} (hk : k < w.length) {d : List Md} (h : stepL l (w.take k) = some d) (hn : succM l w[k] = none) : stepL l w = none := by
  have h1 : stepL l (w.take (k + 1)) = none := by rw [stepL_snoc hk h, hn]; rfl
  have e : w = w.take (k + 1) ++ w.drop (k + 1) := (List.take_append_drop _ _).symm
  rw [e, stepL_app, h1]
theorem succ_self {l : List Rw} {m : Md} (h : first l m < 0) : succM l m = some [m] := by unfold succM; rw [dif_neg (by omega)]
theorem succ_made {l : List Rw} {m : Md} {k : Nat} (h : first l m = (k : Int)) (hk : k < l.length) : succM l m = made l[k] m := by
  unfold succM
  rw [dif_pos (by omega)]
  have : (first l m).toNat = k := by omega
  rw [this, List.getElem?_eq_getElem hk]
theorem first_fit {l : List Rw} {m : Md} : ∀ {k : Nat}, first l m = (k : Int) → ∃ hk : k < l.length, fitB l[k] m = true := by
  have key : ∀ (l : List Rw) (i : Int) (k : Nat), firstF l m i = i + k → 0 ≤ i → ∃ hk : k < l.length, fitB l[k] m = true := by
    intro l
    induction l with
    | nil => intro i k h h0; simp [firstF] at h; omega
    | cons r l ih =>
      intro i k h h0
      unfold firstF at h
      by_cases hf : fitB r m = true
      · rw [if_pos hf] at h
        obtain rfl : k = 0 := by omega
        exact ⟨by simp, hf⟩
      · rw [if_neg hf] at h
        cases k with
        | zero =>
          exfalso
          rcases firstF_rng l m (i + 1) with h2 | ⟨h2, _⟩
          · omega
          · omega
        | succ k =>
          obtain ⟨hk, h3⟩ := ih (i + 1) k (by omega) (by omega)
          exact ⟨by simp; omega, by simpa using h3⟩
  intro k h
  exact key l 0 k (by unfold first at h; omega) (by omega)
theorem fit_ar {r : Rw} {m : Md} (h : fitB r m = true) : r.ar = (m.a.length : Int) := by
  unfold fitB at h
  simp only [Bool.and_eq_true, decide_eq_true_eq] at h
  exact h.1.2
theorem rule_forms {r : Rw} (h : ruleB r = true) : ∀ s ∈ r.out, ∀ f ∈ s.a, formB f r.ar = true := by
  unfold ruleB at h
  simp only [Bool.and_eq_true] at h
  intro s hs f hf
  have h1 := List.all_eq_true.1 h.1.2 s hs
  unfold shB at h1
  simp only [Bool.and_eq_true] at h1
  exact List.all_eq_true.1 h1.2 f hf
theorem chk_fine1 {l : List Md} (h : chk l = 0) {k : Nat} (hk : k < l.length) : fineB l[k] = true := List.all_eq_true.1 (chk_zero.1 h).2.1 _ (List.getElem_mem hk)
theorem st_rules {l : List Rw} {w : List Md} (h : rchk l ≠ 0) : stC l w = rchk l ∧ stL l w = [] := by
  have e : stC l w = rchk l := by unfold stC; rw [if_pos h]
  exact ⟨e, by unfold stL; rw [e, if_neg h]⟩
theorem st_word {l : List Rw} {w : List Md} (h : rchk l = 0) (h2 : chk w ≠ 0) : stC l w = chk w ∧ stL l w = [] := by
  have e : stC l w = chk w := by unfold stC; rw [if_neg (by simp [h]), if_pos h2]
  exact ⟨e, by unfold stL; rw [e, if_neg h2]⟩
theorem st_none {l : List Rw} {w : List Md} (h : rchk l = 0) (h2 : chk w = 0) (h3 : stepL l w = none) : stC l w = 16 ∧ stL l w = [] := by
  have e : stC l w = 16 := by unfold stC; rw [if_neg (by simp [h]), if_neg (by simp [h2]), h3]
  exact ⟨e, by unfold stL; rw [e]; rfl⟩
theorem st_many {l : List Rw} {w d : List Md} (h : rchk l = 0) (h2 : chk w = 0) (h3 : stepL l w = some d) (h4 : 2000 < d.length) : stC l w = 4 ∧ stL l w = [] := by
  have e : stC l w = 4 := by unfold stC; rw [if_neg (by simp [h]), if_neg (by simp [h2]), h3]; simp [h4]
  exact ⟨e, by unfold stL; rw [e]; rfl⟩
theorem st_ok {l : List Rw} {w d : List Md} (h : rchk l = 0) (h2 : chk w = 0) (h3 : stepL l w = some d) (h4 : ¬ 2000 < d.length) : stC l w = 0 ∧ stL l w = d := by
  have e : stC l w = 0 := by unfold stC; rw [if_neg (by simp [h]), if_neg (by simp [h2]), h3]; simp; omega
  exact ⟨e, by unfold stL; rw [e, h3]; rfl⟩
/-- How Step ends. -/
def RsEnd (l : List Rw) (wd : List Md) (w : World) (e : Ending) (w' : World) : Prop := ∃ v vs, e = .returned (.tuple #[v, .int .i64 (stC l wd)]) ∧ Below w.heap.size w w' ∧ ModFr w' w.heap.size v (stL l wd) vs
/-- Where the loop stands. -/
structure SAt (w : World) (l : List Rw) (wd : List Md) (k : Nat) (v : Value) (wr : World) : Prop where
  hi : k ≤ wd.length
  below : Below w.heap.size w wr
  own : ∃ d vs, stepL l (wd.take k) = some d ∧ d.length ≤ 20 * k ∧ ModFr wr w.heap.size v d vs
theorem sAt_start (w : World) (l : List Rw) (wd : List Md) : SAt w l wd 0 (.slice none 0 0) w := ⟨Nat.zero_le _, Below.refl _ _, [], [], rfl, by simp, modFr_nil _ _⟩
end Go.Proofs.YtcoljbcjnggagaaGreatDoor
namespace Go.Proofs.YtcoljbcjnggagaaGreatDoor
open Go.RowKit
open WM RM
set_option linter.unusedVariables false
set_option linter.unusedSimpArgs false

theorem succ_args {l : List Rw} (hs : ∀ r ∈ l, RwSm r) {m : Md} (hm : m.a.length ≤ 10) {d : List Md} (h : succM l m = some d) : ∀ x ∈ d, x.a.length ≤ 10 := by
  unfold succM at h
  split at h
  · split at h
    · rename_i r hr
      unfold made at h
      split at h
      · have := Option.some.inj h
        subst this
        intro x hx
        rw [List.mem_map] at hx
        obtain ⟨s, hs2, rfl⟩ := hx
        have := ((hs r (List.mem_of_getElem? hr)).2.2.2 s hs2).1
        simpa [mkM] using this
      · simp at h
    · simp at h
  · have := Option.some.inj h
    subst this
    intro x hx
    rw [List.mem_singleton] at hx
    subst hx; exact hm
theorem stepL_args {l : List Rw} (hs : ∀ r ∈ l, RwSm r) : ∀ (w : List Md) (d : List Md), (∀ m ∈ w, m.a.length ≤ 10) → stepL l w = some d → ∀ x ∈ d, x.a.length ≤ 10
  | [], d, _, h => by simp [stepL] at h; subst h; simp
  | m :: w, d, hw, h => by
    simp only [stepL] at h
    cases h1 : succM l m with
    | none => rw [h1] at h; simp at h
    | some a =>
      cases h2 : stepL l w with
      | none => rw [h1, h2] at h; simp at h
      | some b =>
        rw [h1, h2] at h
        have := Option.some.inj h
        subst this
        intro x hx
        rcases List.mem_append.1 hx with h3 | h3
        · exact succ_args hs (hw m (by simp)) h1 x h3
        · exact stepL_args hs w b (fun y hy => hw y (by simp [hy])) h2 x h3
theorem stL_small {l : List Rw} (hs : ∀ r ∈ l, RwSm r) {w : List Md} (hw : ∀ m ∈ w, m.a.length ≤ 10) : (stL l w).length ≤ 2000 ∧ ∀ m ∈ stL l w, m.a.length ≤ 10 := by
  unfold stL
  by_cases h : stC l w = 0
  · rw [if_pos h]
    cases hd : stepL l w with
    | none => simp
    | some d =>
      refine ⟨?_, stepL_args hs w d hw hd⟩
      unfold stC at h
      rw [hd] at h
      by_cases h1 : rchk l = 0
      · by_cases h2 : chk w = 0
        · simp only [h1, h2, ne_eq, not_true_eq_false, if_false] at h
          show d.length ≤ 2000
          split at h
          · omega
          · omega
        · rw [if_neg (by simp [h1]), if_pos h2] at h; exact absurd h h2
      · rw [if_pos h1] at h; exact absurd h h1
  · rw [if_neg h]; simp
theorem ru_rules {l : List Rw} {w : List Md} {n : Int} (h : rchk l ≠ 0) : ruC l w n = rchk l ∧ ruL l w n = [] := by
  have e : ruC l w n = rchk l := by unfold ruC; rw [if_pos h]
  exact ⟨e, by unfold ruL; rw [e, if_neg h]⟩
theorem ru_word {l : List Rw} {w : List Md} {n : Int} (h : rchk l = 0) (h2 : chk w ≠ 0) : ruC l w n = chk w ∧ ruL l w n = [] := by
  have e : ruC l w n = chk w := by unfold ruC; rw [if_neg (by simp [h]), if_pos h2]
  exact ⟨e, by unfold ruL; rw [e, if_neg h2]⟩
theorem ru_arg {l : List Rw} {w : List Md} {n : Int} (h : rchk l = 0) (h2 : chk w = 0) (h3 : n < 0 ∨ 30 < n) : ruC l w n = 2 ∧ ruL l w n = [] := by
  have e : ruC l w n = 2 := by unfold ruC; rw [if_neg (by simp [h]), if_neg (by simp [h2]), if_pos h3]
  exact ⟨e, by unfold ruL; rw [e]; rfl⟩
theorem ru_run {l : List Rw} {w : List Md} {n : Int} (h : rchk l = 0) (h2 : chk w = 0) (h3 : ¬ (n < 0 ∨ 30 < n)) {c : Int} {u : List Md} (hr : runF l n.toNat w = (c, u)) : ruC l w n = c ∧ ruL l w n = if c = 0 then u else [] := by
  have e : ruC l w n = c := by unfold ruC; rw [if_neg (by simp [h]), if_neg (by simp [h2]), if_neg h3, hr]
  exact ⟨e, by unfold ruL; rw [e, hr]⟩
theorem run_ok {l : List Rw} {u : List Md} {n : Nat} (h : stC l u = 0) : runF l (n + 1) u = runF l n (stL l u) := by rw [runF, if_neg (by simp [h])]
theorem run_no {l : List Rw} {u : List Md} {n : Nat} (h : stC l u ≠ 0) : runF l (n + 1) u = (stC l u, []) := by rw [runF, if_pos h]
theorem own_sl3 {w : World} {base n size : Nat} {e : TypeId} {v : Value} {xs : List Value} (h : w.ownsRow base e size v n xs) : ∃ p c, v = .slice p n c ∧ n ≤ c := by
  rcases h.2 with ⟨h1, h2⟩ | ⟨g, cap, cur, h1, _, _, h3, _⟩
  · exact ⟨none, 0, by rw [h1, h2], by omega⟩
  · exact ⟨_, _, h1, h3⟩
/-- How Run ends. -/
def RuEnd (l : List Rw) (wd : List Md) (n : Int) (w : World) (e : Ending) (w' : World) : Prop := ∃ v vs, e = .returned (.tuple #[v, .int .i64 (ruC l wd n)]) ∧ Below w.heap.size w w' ∧ ModFr w' w.heap.size v (ruL l wd n) vs
/-- Where the loop stands. -/
structure RnAt (w : World) (l : List Rw) (wd : List Md) (n i : Nat) (u : List Md) (v : Value) (wr : World) : Prop where
  hi : i ≤ n
  below : Below w.heap.size w wr
  own : ∃ vs, ModFr wr w.heap.size v u vs
  len : u.length ≤ 2100
  args : ∀ m ∈ u, m.a.length ≤ 10
  eq : runF l n wd = runF l (n - i) u
end Go.Proofs.YtcoljbcjnggagaaGreatDoor
namespace Go.Proofs.YtcoljbcjnggagaaGreatDoor
open WM
set_option linter.unusedVariables false
set_option linter.unusedSimpArgs false
namespace RM
theorem rule_nob {r : Rw} (h : ruleB r = true) : braB r.c = false := by
  unfold ruleB at h
  simp only [Bool.and_eq_true] at h
  simpa using h.1.1.1.1.1.2
theorem rule_chk {r : Rw} (h : ruleB r = true) : chk (r.out.map shM) = 0 := by
  unfold ruleB at h
  simp only [Bool.and_eq_true, decide_eq_true_eq] at h
  exact h.2
theorem rule_shs {r : Rw} (h : ruleB r = true) : ∀ s ∈ r.out, fineB (shM s) = true := by
  unfold ruleB at h
  simp only [Bool.and_eq_true] at h
  intro s hs
  have h1 := List.all_eq_true.1 h.1.2 s hs
  unfold shB at h1
  simp only [Bool.and_eq_true] at h1
  exact h1.1
theorem mk_c (x : List Int) (s : Sh) : (mkM s x).c = (shM s).c := rfl
theorem mk_fine {s : Sh} {x : List Int} (h : fineB (shM s) = true) (hb : mkB s x = true) : fineB (mkM s x) = true := by
  have e : shM s = zerM s.c s.a.length := rfl
  rw [e, fine_zer] at h
  simp only [Bool.and_eq_true, decide_eq_true_eq] at h
  obtain ⟨⟨h1, h2⟩, h3⟩ := h
  have hr : rngB (mkM s x).a = true := by
    unfold rngB mkM
    rw [List.all_map]
    unfold mkB at hb
    rw [List.all_eq_true] at hb ⊢
    intro f hf
    exact hb f hf
  have hl : (mkM s x).a.length = s.a.length := by simp [mkM]
  unfold fineB
  rw [hr, hl]
  have hc : (mkM s x).c = s.c := rfl
  rw [hc, h1]
  simp only [h2, decide_true, Bool.true_and, Bool.and_true]
  exact h3
/-- What holds of a module's successor. -/
structure SucOk (m : Md) (a : List Md) : Prop where
  fine : ∀ x ∈ a, fineB x = true
  dp : dep a = dlt m
  pre : ∀ j, j ≤ a.length → dep (a.take j) = dlt m ∨ 0 ≤ dep (a.take j)
theorem pre_ok {l : List Md} (h : okB l l.length = true) (j : Nat) (hj : j ≤ l.length) : 0 ≤ dep (l.take j) := by
  cases j with
  | zero => simp [dep_nil]
  | succ j => exact okB_iff.1 h j (by omega)
theorem dlt_nob {m : Md} (h : braB m.c = false) : dlt m = 0 := by
  unfold braB at h
  rw [Bool.or_eq_false_iff] at h
  have h1 : m.c ≠ 91 := by simpa using h.1
  have h2 : m.c ≠ 93 := by simpa using h.2
  unfold dlt; rw [if_neg h1, if_neg h2]
theorem first_fits {l : List Rw} {m : Md} : ∀ {k : Nat}, first l m = (k : Int) → ∃ hk : k < l.length, fitB l[k] m = true := by
  have key : ∀ (l : List Rw) (i : Int) (k : Nat), firstF l m i = i + k → 0 ≤ i → ∃ hk : k < l.length, fitB l[k] m = true := by
    intro l
    induction l with
    | nil => intro i k h h0; simp [firstF] at h; omega
    | cons r l ih =>
      intro i k h h0
      unfold firstF at h
      by_cases hf : fitB r m = true
      · rw [if_pos hf] at h
        obtain rfl : k = 0 := by omega
        exact ⟨by simp, hf⟩
      · rw [if_neg hf] at h
        cases k with
        | zero =>
          exfalso
          rcases firstF_rng l m (i + 1) with h2 | ⟨h2, _⟩
          · omega
          · omega
        | succ k =>
          obtain ⟨hk, h3⟩ := ih (i + 1) k (by omega) (by omega)
          exact ⟨by simp; omega, by simpa using h3⟩
  intro k h
  exact key l 0 k (by unfold first at h; omega) (by omega)
theorem suc_ok {l : List Rw} (hl : ∀ r ∈ l, ruleB r = true) {m : Md} (hm : fineB m = true) {a : List Md} (h : succM l m = some a) : SucOk m a := by
  by_cases hz : 0 ≤ first l m
  · obtain ⟨k, hk⟩ : ∃ k : Nat, first l m = (k : Int) := ⟨(first l m).toNat, by omega⟩
    obtain ⟨hkl, hfit⟩ := first_fits hk
    have hs : succM l m = made l[k] m := by
      unfold succM
      rw [dif_pos hz]
      have : (first l m).toNat = k := by omega
      rw [this, List.getElem?_eq_getElem hkl]
    rw [hs] at h
    have hr := hl _ (List.getElem_mem hkl)
    generalize l[k] = r at h hr hfit
    unfold made at h
    split at h
    · rename_i hall
      have ha := (Option.some.inj h).symm
      subst ha
      have hc : braB m.c = false := by
        have : r.c = m.c := by
          unfold fitB at hfit
          simp only [Bool.and_eq_true] at hfit
          simpa using hfit.1.1
        rw [← this]; exact rule_nob hr
      have hd := dlt_nob hc
      obtain ⟨-, -, h3, h4⟩ := chk_zero.1 (rule_chk hr)
      rw [List.length_map] at h3
      have e1 : dep (r.out.map (mkM · m.a)) = 0 := by rw [dep_map (mkM · m.a) shM (fun s => rfl)]; exact h4
      refine ⟨?_, by rw [e1, hd], fun j hj => .inr ?_⟩
      · intro x hx
        obtain ⟨s, hs2, rfl⟩ := List.mem_map.1 hx
        exact mk_fine (rule_shs hr s hs2) (List.all_eq_true.1 hall s hs2)
      · refine pre_ok ?_ j hj
        rw [List.length_map, ok_map (mkM · m.a) shM (fun s => rfl)]
        exact h3
    · simp at h
  · have hs : succM l m = some [m] := by unfold succM; rw [dif_neg hz]
    rw [hs] at h
    have ha := (Option.some.inj h).symm
    subst ha
    refine ⟨by simpa using hm, dep_one m, fun j hj => ?_⟩
    match j, hj with
    | 0, _ => right; simp [dep_nil]
    | 1, _ => left; exact dep_one m
theorem step_fine {l : List Rw} (hl : ∀ r ∈ l, ruleB r = true) : ∀ (u d : List Md), (∀ m ∈ u, fineB m = true) → stepL l u = some d → (∀ x ∈ d, fineB x = true) ∧ dep d = dep u ∧ ∀ c : Int, (∀ j, j ≤ u.length → 0 ≤ c + dep (u.take j)) → ∀ j, j ≤ d.length → 0 ≤ c + dep (d.take j)
  | [], d, _, h => by
    simp only [stepL, Option.some.injEq] at h
    subst h
    exact ⟨by simp, rfl, fun c hc j hj => by simp at hj; subst hj; simpa using hc 0 (by simp)⟩
  | m :: u, d, hu, h => by
    simp only [stepL] at h
    cases h1 : succM l m with
    | none => rw [h1] at h; simp at h
    | some a =>
      cases h2 : stepL l u with
      | none => rw [h1, h2] at h; simp at h
      | some b =>
        rw [h1, h2] at h
        have hd := (Option.some.inj h).symm
        subst hd
        have A := suc_ok hl (hu m (by simp)) h1
        obtain ⟨B1, B2, B3⟩ := step_fine hl u b (fun x hx => hu x (by simp [hx])) h2
        refine ⟨fun x hx => ?_, by rw [dep_app, A.dp, B2, dep_cons], fun c hc j hj => ?_⟩
        · rcases List.mem_append.1 hx with h3 | h3
          · exact A.fine x h3
          · exact B1 x h3
        · have c0 := hc 0 (by simp)
          have c1 := hc 1 (by simp)
          simp only [List.take_zero, dep_nil, List.take_succ_cons, dep_cons] at c0 c1
          by_cases hja : j ≤ a.length
          · rw [List.take_append_of_le_length hja]
            rcases A.pre j hja with e | e <;> omega
          · have e : (a ++ b).take j = a ++ b.take (j - a.length) := by
              rw [List.take_append, List.take_of_length_le (by omega)]
            rw [e, dep_app, A.dp]
            have := B3 (c + dlt m) (fun i hi => by
              have := hc (i + 1) (by simp; omega)
              rw [List.take_succ_cons, dep_cons] at this
              omega) (j - a.length) (by rw [List.length_append] at hj; omega)
            omega
theorem step_chk {l : List Rw} (hl : ∀ r ∈ l, ruleB r = true) {u d : List Md} (hu : chk u = 0) (h : stepL l u = some d) (hd : d.length ≤ 2000) : chk d = 0 := by
  obtain ⟨_, h2, h3, h4⟩ := chk_zero.1 hu
  obtain ⟨a1, a2, a3⟩ := step_fine hl u d (fun m hm => List.all_eq_true.1 h2 m hm) h
  refine chk_zero.2 ⟨hd, List.all_eq_true.2 a1, okB_iff.2 fun i hi => ?_, by rw [a2, h4]⟩
  have := a3 0 (fun j hj => by have := pre_ok h3 j hj; omega) (i + 1) (by omega)
  omega
/-- step's error and word are Step's, of valid rules and a valid word. -/
theorem st_valid {l : List Rw} (hl : rchk l = 0) {u : List Md} (hu : chk u = 0) : stC l u = (match stepL l u with | none => 16 | some d => if 2000 < d.length then 4 else 0) ∧ stL l u = (match stepL l u with | none => [] | some d => if 2000 < d.length then [] else d) := by
  cases hs : stepL l u with
  | none => exact st_none hl hu hs
  | some d =>
    by_cases h : 2000 < d.length
    · have := st_many hl hu hs h
      simpa [h] using this
    · have := st_ok hl hu hs h
      simpa [h] using this
theorem stL_chk {l : List Rw} (hl : rchk l = 0) {u : List Md} (hu : chk u = 0) : chk (stL l u) = 0 := by
  have hr := (rchk_zero hl).2
  rw [(st_valid hl hu).2]
  cases hs : stepL l u with
  | none => decide
  | some d =>
    show chk (if 2000 < d.length then [] else d) = 0
    split
    · decide
    · exact step_chk (fun r h => (hr r h).1) hu hs (by omega)
end RM
end Go.Proofs.YtcoljbcjnggagaaGreatDoor
