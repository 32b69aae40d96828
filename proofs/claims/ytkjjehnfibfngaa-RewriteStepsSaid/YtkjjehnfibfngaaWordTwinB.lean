/-
  What the reference's Twin hands back: the walk.
-/
import Derived.Test.YtkjjehnfibfngaaWordTwin
namespace Go.Proofs.Ytkjjehnfibfngaa
open Go.RowKit
open WM
set_option linter.unusedVariables false
set_option linter.unusedSimpArgs false

set_option maxHeartbeats 1600000 in
theorem twin_any (v : Value) (l : List Md) (hmax : l.length ≤ 2100) (hargs : ∀ m ∈ l, m.a.length ≤ 10) (w : World) (hv : Mods w v l) :
    Calls Try.prog 13 #[v] w fun e w' => ∃ v' vs, e = .returned v' ∧ Below w.heap.size w w' ∧ ModOwn w' w.heap.size v' l vs := by
  obtain ⟨p, cap, rfl⟩ := hv.slice
  have HV := Lib.hid hv
  have HA := Lib.hid hargs
  obtain ⟨i0, hi, hz0, hz1, hz2⟩ := info_parts info_int
  obtain ⟨j0, hj, hy0, hy1, hy2⟩ := info_parts info_mod
  have HM : Hid (maxLen = 9223372036854775807) := Lib.hid rfl
  have S0 := Lib.hid (twAt_start w l)
  clear hv hargs
  go_enter Try.func13, Try.ntmps13
  go_wp2_with fail
  go_loopw [3, 4] (fun v i wr => ∃ k : Nat, i = .int .i64 k ∧ TwAt w l k v wr) (fun _ i _ => l.length - (intOf i).toNat)
  case atStart => exact ⟨0, rfl, S0.out⟩
  case round =>
    obtain ⟨k, rfl, hT⟩ := hrel
    have HT := Lib.hid hT
    have n1 := hT.hi
    have hsz := hT.below.size
    obtain ⟨vs, hO⟩ := hT.own
    have HO := Lib.hid hO
    clear hT hO
    by_cases hlt : k < l.length
    · obtain ⟨b, off, cap', q, c, hp, e1, e2, hin, lb, hnil⟩ := (HV.out.later (HT.out.below.mono (Nat.le_refl _))).at2 hlt
      obtain rfl : p = some ⟨b, off, none⟩ := by cases hp; rfl
      have k1 : (k : Int) < (l.length : Int) := by omega
      clear hp
      have hlk : (l.take k).length = k := by rw [List.length_take]; omega
      have ha10 := HA.out _ (List.getElem_mem hlt)
      have hrow := HO.out.row
      rw [hlk] at hrow
      have HR := Lib.hid hrow
      have hvl := owns_lt hrow
      have HVl := Lib.hid hvl
      have O1 : Hid ((wr.alloc (.cells #[] 3)).drew.ownsRow wr.heap.size 3 1 (.slice (some ⟨wr.heap.size, 0, none⟩) 0 0) 0 []) := Lib.hid (World.ownsRow_lit wr #[] 0 (Nat.le_refl _) (by omega) (by simp))
      have E1 : Hid (Below wr.heap.size wr (wr.alloc (.cells #[] 3)).drew) := Lib.hid (below_drewN ((Below.refl _ _).alloc (Nat.le_refl _) _) 1)
      have R1 : Hid ((wr.alloc (.cells #[] 3)).drew.ownsRow w.heap.size 27 2 u3 k (modC (l.take k) vs)) := Lib.hid (hrow.alloc (.cells #[] 3))
      have R2 : Hid (u3.ownBlock = none ∨ u3.ownBlock ≠ some wr.heap.size) := Lib.hid (.inr (fun e => by have := (hvl _ e).2; omega))
      clear hrow hvl
      cases q with
      | some ad =>
        have HC := Lib.hid (ints_cells hin _ E1.out)
        have C5 : Hid (∀ w1, (wr.alloc (.cells #[] 3)).drew.grownBy w1 (some wr.heap.size) → w1.cell? ⟨b, off + k * 2, none⟩ = some (.int .u8 l[k].c.toNat)) := Lib.hid (fun w1 hg => by
          rw [far_cell hg _ (by have := E1.out.size; exact Nat.lt_of_lt_of_le lb this) (by intro e; have := Option.some.inj e; exact absurd this (Nat.ne_of_lt lb))]
          exact (E1.out.cell lb).trans e1)
        clear hin hnil
        go_wp2_with fail
        go_region_law? (first
          | (refine step_append_own _ rfl (.tmp 17) (.tmp 22) 23 rfl wr.heap.size 3 i0 (.int .i64 0) 1 8 Try.underlying23 hi hz0 hz1 hz2 rfl (by decide) (.slice (some ⟨wr.heap.size, 0, none⟩) 0 0) 0 [] rfl O1.out ad l[k].a.length c (valsL l[k].a) rfl (by simp [valsL]) HC.out (vals_one _) (by rw [HM.out]; omega) (by omega) (by simp) ?_
             intro v1 w1 ho1 hg1 hn1 hb1
             simp only [Nat.zero_add, List.nil_append] at ho1
             obtain ⟨g1, c1, rfl⟩ := owned_shape ho1 (fun e => by have := hn1.1 e; simp at this)
             have P1 := Lib.hid ho1
             have P4 : wr.heap.size < w1.heap.size := Nat.lt_of_lt_of_le (Nat.lt_succ_self _) (by have h := hg1.size; rw [show (wr.alloc (.cells #[] 3)).drew.heap.size = wr.heap.size + 1 by simp] at h; exact h)
             have P5 := Lib.hid ((R1.out.kept hg1 R2.out).alloc (.cells #[.int .u8 l[k].c.toNat, .slice (some ⟨g1, 0, none⟩) l[k].a.length c1] 27))
             have P2 := Lib.hid hg1
             have P3 := Lib.hid hb1
             have c5 : w1.cell? ⟨b, off + k * 2, none⟩ = some (.int .u8 l[k].c.toNat) := C5.out w1 hg1
             clear ho1 hg1 hn1 hb1)
          | (refine step_append_own _ rfl (.tmp 11) (.tmp 25) 39 rfl w.heap.size 27 j0 (.agg #[.int .u8 0, .slice none 0 0]) 2 32 Try.underlying39 hj hy0 hy1 hy2 rfl (by decide) u3 k (modC (l.take k) vs) rfl P5.out ⟨w1.heap.size, 0, none⟩ 1 1 [.int .u8 l[k].c.toNat, .slice (some ⟨g1, 0, none⟩) l[k].a.length c1] rfl rfl (two_new _ _ _ _) (by simp [Value.oneCell']) (by rw [HM.out]; omega) (by omega) (by simp; omega) ?_
             intro v2 w2 ho2 hg2 hn2 hb2))
        all_goals
          have T1 := Lib.hid (twAt_step (X1 := (wr.alloc (.cells #[] 3)).drew) (X2 := w1) (X4 := w2) hlt HT.out.below HO.out E1.out (by simp) P1.out P2.out ⟨g1, c1, rfl⟩ P3.out (((Below.refl w1.heap.size w1).alloc (Nat.le_refl _) _)) (by simp) ho2 hg2 hb2)
          clear ho2 hg2 hn2 hb2
          go_wp2_with fail
          go_roundw
          case rel => exact ⟨k + 1, by go_num, T1.out⟩
          case measure => simp [intOf]; omega
      | none =>
        obtain ⟨hl0, rfl⟩ := hnil rfl
        have ha0 : l[k].a = [] := List.length_eq_zero_iff.1 hl0
        have e3 : wr.cell? ⟨b, off + k * 2 + 1, none⟩ = some (.slice none 0 0) := by rw [e2, hl0]
        have HL := Lib.hid hl0
        have HA0 := Lib.hid ha0
        clear hin hnil e2 hl0 ha0
        go_wp2_with fail
        go_region_law? (first
          | (refine step_append_nil _ rfl (.tmp 17) (.tmp 22) 23 rfl wr.heap.size 3 i0 1 Try.underlying23 hi (.slice (some ⟨wr.heap.size, 0, none⟩) 0 0) 0 [] rfl O1.out rfl ?_
             have P5 := Lib.hid (R1.out.alloc (.cells #[.int .u8 l[k].c.toNat, .slice (some ⟨wr.heap.size, 0, none⟩) 0 0] 27)))
          | (refine step_append_own _ rfl (.tmp 11) (.tmp 25) 39 rfl w.heap.size 27 j0 (.agg #[.int .u8 0, .slice none 0 0]) 2 32 Try.underlying39 hj hy0 hy1 hy2 rfl (by decide) u3 k (modC (l.take k) vs) rfl P5.out ⟨wr.heap.size + 1, 0, none⟩ 1 1 [.int .u8 l[k].c.toNat, .slice (some ⟨wr.heap.size, 0, none⟩) 0 0] rfl rfl (fun j u h => by have h9 := two_new (wr.alloc (.cells #[] 3)) _ _ 27 j u h; simpa using h9) (by simp [Value.oneCell']) (by rw [HM.out]; omega) (by omega) (by simp; omega) ?_
             intro v2 w2 ho2 hg2 hn2 hb2))
        all_goals
          have T1 := Lib.hid (twAt_step (X1 := (wr.alloc (.cells #[] 3)).drew) (X2 := (wr.alloc (.cells #[] 3)).drew) (v1 := .slice (some ⟨wr.heap.size, 0, none⟩) 0 0) (X4 := w2) hlt HT.out.below HO.out E1.out (by simp) (by rw [HA0.out]; exact O1.out) (grown_of_below (Below.refl _ _) _) ⟨wr.heap.size, 0, by rw [HL.out]⟩ (.inl rfl) (((Below.refl _ _).alloc (Nat.le_refl _) _)) (by simp) ho2 hg2 hb2)
          clear ho2 hg2 hn2 hb2
          go_wp2_with fail
          go_roundw
          case rel => exact ⟨k + 1, by go_num, T1.out⟩
          case measure => simp [intOf]; omega
    · have hk : k = l.length := by omega
      have HX := Lib.hid hk
      have hm : ¬ (k : Int) < (l.length : Int) := by omega
      clear hk hlt
      go_wp2_with fail
      go_ret
      exact ⟨_, rfl, HT.out.below, vs, by have := HO.out; rw [HX.out, List.take_length] at this; exact this⟩
end Go.Proofs.Ytkjjehnfibfngaa
