/-
  What the reference's Parse hands back.
-/
import Derived.Test.YtjjjopopalcokaaDoorWordRpA
import Derived.Test.YtjjjopopalcokaaDoorWordNum
namespace Go.Proofs.YtjjjopopalcokaaDoor
open Go.RowKit
open WM
set_option linter.unusedVariables false
set_option linter.unusedSimpArgs false

theorem u8_is (c d : UInt8) (n : Int) (hn : n = ((d.toNat : Nat) : Int)) : (((c.toNat : Nat) : Int) == n) = (c == d) := by
  subst hn
  by_cases h : c = d
  · subst h; simp
  · rw [beq_eq_false_iff_ne.2 h, beq_eq_false_iff_ne]
    intro e
    exact h (UInt8.toNat_inj.1 (by omega))
theorem inAt_blk {wr wi w3 : World} {L : Bs} {k m : Nat} {c : UInt8} {a : List Int} {va : Value} {tmp : Obj} (h : InAt wr L k c a m va wi) (hg : (wi.alloc tmp).grownBy w3 va.ownBlock) : w3.heap[wr.heap.size]? = some (.cells #[.int .u8 c.toNat, va] 27 (0, 0)) := by
  have hlt2 := lt_of_block h.blk
  rw [hg.block wr.heap.size (by simp; omega) (fun e => by have := (owns_lt h.own _ e.symm).1; omega)]
  exact heap_alloc_old h.blk _
theorem inAt_lt {wr wi w3 : World} {L : Bs} {k m : Nat} {c : UInt8} {a : List Int} {va : Value} {tmp : Obj} (h : InAt wr L k c a m va wi) (hg : (wi.alloc tmp).grownBy w3 va.ownBlock) : wr.heap.size < w3.heap.size := lt_of_block (inAt_blk h hg)
set_option maxRecDepth 100000 in
set_option maxHeartbeats 6400000 in
theorem rparse_any (s : ByteArray) (hs : s.size ≤ 60000) (w : World) :
    Calls Tryd.prog 21 #[.string s] w (RpEnd (lA s) w) := by
  have hL := lA_len s
  by_cases hlong : 50000 < s.size
  · have HE : Hid (RpEnd (lA s) w (.returned (.tuple #[.slice none 0 0, .int .i64 12])) w) := Lib.hid (rpEnd_no (Below.refl _ _) (.inl (by omega)))
    have c1 : (50000 : Int) < (s.size : Int) := by omega
    clear hL
    go_enter Tryd.func21, Tryd.ntmps21
    go_wp2_with fail
    go_ret2
    exact HE.out
  · have c1 : ¬ (50000 : Int) < (s.size : Int) := by omega
    have KN := Lib.hid (fun k hk w => number_any s hs k hk w)
    obtain ⟨j0, hj, hy0, hy1, hy2⟩ := info_parts info_mod
    obtain ⟨i0, hi, hz0, hz1, hz2⟩ := info_parts info_int
    have HM : Hid (maxLen = 9223372036854775807) := Lib.hid rfl
    have HG : Hid (∀ k, (h : k < s.size) → (h2 : k < (lA s).length) → s[k] = (lA s)[k]) := Lib.hid (fun k h h2 => (lA_get s k h h2).symm)
    have hsm : s.size ≤ 50000 := by omega
    have HNl : Hid (¬ 50000 < (lA s).length) := Lib.hid (by omega)
    have S0 : Hid (OutAt w (lA s) [] 0 (.slice none 0 0) w) := Lib.hid ⟨Below.refl _ _, ⟨[], ⟨rfl, World.ownsRow_nil _ _ _ _, fun k h => by simp at h⟩⟩, Nat.le_refl _, Nat.zero_le _, by simp, oat_start _⟩
    clear hlong
    go_enter Tryd.func21, Tryd.ntmps21
    go_wp2_with fail
    go_loopw [4, 5] (fun v i wr => ∃ d k, i = .int .i64 (k : Nat) ∧ OutAt w (lA s) d k v wr) (fun _ i _ => s.size - (intOf i).toNat)
    case atStart => exact ⟨[], 0, rfl, S0.out⟩
    case round =>
      rename World => wo
      obtain ⟨d, k, rfl, hS⟩ := hrel
      have HS := Lib.hid hS
      have hsz := hS.below.size
      have hkL := hS.hi
      clear hS
      by_cases hlt : k < s.size
      · have hlL : k < (lA s).length := by omega
        have HC : Hid ((lA s)[k] = s[k]) := Lib.hid (by rw [← HG.out k hlt hlL])
        have k1 : (k : Int) < (s.size : Int) := by omega
        have k2 : ((k : Int)).toNat = k := by omega
        have k3 : (0 : Int) ≤ (k : Int) := by omega
        obtain ⟨vs, hM⟩ := HS.out.own
        have HMF := Lib.hid hM
        clear hM
        have I0 := Lib.hid (inAt_start (wr := wo) (c := s[k]) hlL)
        go_wp2_with fail
        go_loopw [5] (fun i wr => ∃ a m va, i = .int .i64 (m : Nat) ∧ InAt wo (lA s) k s[k] a m va wr) (fun i _ => s.size - (intOf i).toNat)
        case atStart => exact ⟨[], k + 1, _, by go_num, I0.out⟩
        case round =>
          obtain ⟨a, m, va, rfl, hI⟩ := hrel
          obtain ⟨p, cap, rfl⟩ := own_slice hI.own
          have HI := Lib.hid hI
          have q0 := cell_two0 hI.blk
          have q1 := cell_two1 hI.blk
          have l1 := lt_of_block hI.blk
          have hfa := hI.few
          have hpm := hI.pos
          have hmi := hI.hi
          have hzi := hI.below.size
          clear hI
          have i3 : (0 : Int) ≤ (m : Int) := by omega
          have i4 : ((m : Int)).toNat = m := by omega
          by_cases ha : a = []
          · have HA := Lib.hid ha
            have ZL : Hid (a.length = 0) := Lib.hid (by rw [ha]; rfl)
            rw [ZL.out] at q1 HI
            clear ha
            by_cases hml : m < s.size
            · have hmL : m < (lA s).length := by omega
              have n1 : (m : Int) < (s.size : Int) := by omega
              have HGm := Lib.hid (HG.out m hml hmL)
              by_cases h40 : s[m] = 40
              · have t40 : (((s[m].toNat : Nat) : Int) == 40) = true := by rw [h40]; rfl
                have e40 : ((s[m].toNat : Nat) : Int) = 40 := by simpa using t40
                have HB : Hid (moreB a (lA s)[m] = true) := Lib.hid (by rw [HA.out, moreB_nil, ← HGm.out, h40]; rfl)
                clear h40
                have KNm : Hid (∀ w, Calls Tryd.prog 38 #[.string s, .int .i64 ((m : Int) + 1)] w (NuEnd s (m + 1) w)) := Lib.hid (fun w => by have := KN.out (m + 1) (by omega) w; rwa [show ((m + 1 : Nat) : Int) = (m : Int) + 1 from by omega] at this)
                go_wp2_with fail
                refine (KNm.out _).mono ?_
                rintro e w1 ⟨rfl, ⟨hn, rfl⟩ | ⟨n, m2, g1, g2, hn, rfl⟩⟩
                · have HEr : Hid (RpEnd (lA s) w (.returned (.tuple #[.slice none 0 0, .int .i64 12])) wr) := Lib.hid (rpEnd_no (HS.out.below.trans (HI.out.below.mono hsz)) (.inr (oat_none HS.out.eq hlL (rmod_none hlL (aat_bad HI.out.eq hmL HB.out hn)))))
                  go_wp2_with fail
                  go_ret2
                  exact HEr.out
                · have HNu := Lib.hid hn
                  have P6 : Hid ((wr.alloc (.cells #[.int .i64 n] 3)).ownsRow (wo.heap.size + 1) 3 1 (.slice p 0 cap) 0 (valsL a)) := Lib.hid (by have h := HI.out.own.alloc (.cells #[.int .i64 n] 3); rwa [ZL.out] at h)
                  clear hn
                  go_wp2_with (at_builtin; refine wpList_append_own _ rfl _ _ 25 rfl (wo.heap.size + 1) 3 i0 (.int .i64 0) 1 8 Tryd.underlying25 hi hz0 hz1 hz2 rfl (by decide) (.slice p 0 cap) 0 (valsL a) rfl P6.out ⟨wr.heap.size, 0, none⟩ 1 1 [.int .i64 n] rfl rfl (cell_one_new _ _ _) (by simp [Value.oneCell']) (by rw [HM.out]; omega) (by omega) (by simp; omega) ?_; intro v2 w3 ho2 hg2 hn2; have N3 := inAt_blk HI.out hg2; have I2 := Lib.hid (inAt_step HI.out (by rw [ZL.out]; exact ho2) hg2 hmL HB.out HNu.out g1 (by omega)); obtain ⟨p2, c2, rfl⟩ := own_slice ho2; have q2 := cell_two0 N3; have q3 := cell_two1 N3; have f1 : w3.frozen? ⟨wo.heap.size, 1, none⟩ = false := (by simp [World.frozen?, N3]); have l3 := inAt_lt HI.out hg2; clear ho2 hg2 hn2 N3)
                  go_wp2_with fail
                  go_roundw
                  case rel => exact ⟨a ++ [n], m2, _, by go_num, I2.out⟩
                  case measure => simp [intOf]; omega
              · have t40 : (((s[m].toNat : Nat) : Int) == 40) = false := by rw [u8_is _ 40 40 rfl]; simpa using h40
                have e40 : ¬ ((s[m].toNat : Nat) : Int) = 40 := by simpa using t40
                have HB : Hid (moreB a (lA s)[m] = false) := Lib.hid (by rw [HA.out, moreB_nil, ← HGm.out]; simpa using h40)
                clear h40
                by_cases h44 : s[m] = 44
                · have t44 : (((s[m].toNat : Nat) : Int) == 44) = true := by rw [h44]; rfl
                  have e44 : ((s[m].toNat : Nat) : Int) = 44 := by simpa using t44
                  clear h44
                  have HO : Hid (OAt (lA s) (d ++ [⟨s[k], a⟩]) m) := Lib.hid (by
                    have h1 := rmod_bare hlL (by have := (aat_stop HI.out.eq (fun h => HB.out)); rwa [HA.out] at this)
                    rw [HC.out] at h1
                    have := oat_step HS.out.eq hlL h1 (by omega)
                    rwa [HA.out])
                  obtain ⟨nn, hnn⟩ : ∃ n, d.length = n := ⟨_, rfl⟩
                  have HN := Lib.hid hnn
                  have hdl : nn ≤ 50000 := by have := HS.out.few; omega
                  have BX : Hid (Below wo.heap.size wo (wr.alloc (.cells #[.int .u8 s[k].toNat, .slice p 0 cap] 27))) := Lib.hid (HI.out.below.alloc HI.out.below.size _)
                  have P5 := Lib.hid (r_own_later HMF.out.row BX.out)
                  have A5 : Hid ((wr.alloc (.cells #[.int .u8 s[k].toNat, .slice p 0 cap] 27)).ownsRow wo.heap.size 3 1 (.slice p 0 cap) a.length (valsL a)) := Lib.hid ((owns_mono HI.out.own (by omega)).alloc _)
                  have HFe := Lib.hid HS.out.few
                  rw [hnn] at P5 HFe
                  clear hnn
                  go_wp2_with (at_builtin; refine wpList_append_own_at _ rfl _ _ 30 rfl w.heap.size 27 j0 (.agg #[.int .u8 0, .slice none 0 0]) 2 32 Tryd.underlying30 hj hy0 hy1 hy2 rfl (by decide) u4 nn (modC d vs) rfl P5.out ⟨wr.heap.size, 0, none⟩ 1 1 [.int .u8 s[k].toNat, .slice p 0 cap] rfl rfl (two_new _ _ _ _) (by simp [Value.oneCell']) (by rw [HM.out]; omega) (by omega) (by simp; omega) ?_; intro v2 w5 ho2 hg2 hn2 hb2)
                  have M5 := Lib.hid (modFr_snocR (m := ⟨s[k], a⟩) HMF.out hsz BX.out A5.out (by rw [HN.out]; exact ho2) hg2 hb2)
                  have BW : Hid (Below w.heap.size w w5) := Lib.hid ((HS.out.below.trans (BX.out.mono hsz)).grown hg2 (by have := BX.out.size; omega) (fun j e => (owns_lt HMF.out.row j e).1))
                  have HT : Hid (OutAt w (lA s) (d ++ [⟨s[k], a⟩]) (m) v2 w5) := Lib.hid ⟨BW.out, ⟨_, M5.out⟩, by rw [List.length_append, List.length_singleton, HN.out]; have := HFe.out; omega, by omega, fun x hx => by
                    rcases List.mem_append.1 hx with h | h
                    · exact HS.out.args x h
                    · rw [List.mem_singleton] at h; subst h; show a.length ≤ 60000; omega, HO.out⟩
                  clear ho2 hg2 hn2 hb2
                  go_wp2_with fail
                  go_roundw
                  case rel => exact ⟨_, m, by go_num, HT.out⟩
                  case measure => simp [intOf]; omega
                · have t44 : (((s[m].toNat : Nat) : Int) == 44) = false := by rw [u8_is _ 44 44 rfl]; simpa using h44
                  have e44 : ¬ ((s[m].toNat : Nat) : Int) = 44 := by simpa using t44
                  clear h44
                  have HO : Hid (OAt (lA s) (d ++ [⟨s[k], a⟩]) m) := Lib.hid (by
                    have h1 := rmod_bare hlL (by have := (aat_stop HI.out.eq (fun h => HB.out)); rwa [HA.out] at this)
                    rw [HC.out] at h1
                    have := oat_step HS.out.eq hlL h1 (by omega)
                    rwa [HA.out])
                  obtain ⟨nn, hnn⟩ : ∃ n, d.length = n := ⟨_, rfl⟩
                  have HN := Lib.hid hnn
                  have hdl : nn ≤ 50000 := by have := HS.out.few; omega
                  have BX : Hid (Below wo.heap.size wo (wr.alloc (.cells #[.int .u8 s[k].toNat, .slice p 0 cap] 27))) := Lib.hid (HI.out.below.alloc HI.out.below.size _)
                  have P5 := Lib.hid (r_own_later HMF.out.row BX.out)
                  have A5 : Hid ((wr.alloc (.cells #[.int .u8 s[k].toNat, .slice p 0 cap] 27)).ownsRow wo.heap.size 3 1 (.slice p 0 cap) a.length (valsL a)) := Lib.hid ((owns_mono HI.out.own (by omega)).alloc _)
                  have HFe := Lib.hid HS.out.few
                  rw [hnn] at P5 HFe
                  clear hnn
                  go_wp2_with (at_builtin; refine wpList_append_own_at _ rfl _ _ 30 rfl w.heap.size 27 j0 (.agg #[.int .u8 0, .slice none 0 0]) 2 32 Tryd.underlying30 hj hy0 hy1 hy2 rfl (by decide) u4 nn (modC d vs) rfl P5.out ⟨wr.heap.size, 0, none⟩ 1 1 [.int .u8 s[k].toNat, .slice p 0 cap] rfl rfl (two_new _ _ _ _) (by simp [Value.oneCell']) (by rw [HM.out]; omega) (by omega) (by simp; omega) ?_; intro v2 w5 ho2 hg2 hn2 hb2)
                  have M5 := Lib.hid (modFr_snocR (m := ⟨s[k], a⟩) HMF.out hsz BX.out A5.out (by rw [HN.out]; exact ho2) hg2 hb2)
                  have BW : Hid (Below w.heap.size w w5) := Lib.hid ((HS.out.below.trans (BX.out.mono hsz)).grown hg2 (by have := BX.out.size; omega) (fun j e => (owns_lt HMF.out.row j e).1))
                  have HT : Hid (OutAt w (lA s) (d ++ [⟨s[k], a⟩]) (m) v2 w5) := Lib.hid ⟨BW.out, ⟨_, M5.out⟩, by rw [List.length_append, List.length_singleton, HN.out]; have := HFe.out; omega, by omega, fun x hx => by
                    rcases List.mem_append.1 hx with h | h
                    · exact HS.out.args x h
                    · rw [List.mem_singleton] at h; subst h; show a.length ≤ 60000; omega, HO.out⟩
                  clear ho2 hg2 hn2 hb2
                  go_wp2_with fail
                  go_roundw
                  case rel => exact ⟨_, m, by go_num, HT.out⟩
                  case measure => simp [intOf]; omega
            · have n1 : ¬ (m : Int) < (s.size : Int) := by omega
              have HO : Hid (OAt (lA s) (d ++ [⟨s[k], a⟩]) m) := Lib.hid (by
                have h1 := rmod_bare hlL (by have := (aat_stop HI.out.eq (fun h => by omega)); rwa [HA.out] at this)
                rw [HC.out] at h1
                have := oat_step HS.out.eq hlL h1 (by omega)
                rwa [HA.out])
              obtain ⟨nn, hnn⟩ : ∃ n, d.length = n := ⟨_, rfl⟩
              have HN := Lib.hid hnn
              have hdl : nn ≤ 50000 := by have := HS.out.few; omega
              have BX : Hid (Below wo.heap.size wo (wr.alloc (.cells #[.int .u8 s[k].toNat, .slice p 0 cap] 27))) := Lib.hid (HI.out.below.alloc HI.out.below.size _)
              have P5 := Lib.hid (r_own_later HMF.out.row BX.out)
              have A5 : Hid ((wr.alloc (.cells #[.int .u8 s[k].toNat, .slice p 0 cap] 27)).ownsRow wo.heap.size 3 1 (.slice p 0 cap) a.length (valsL a)) := Lib.hid ((owns_mono HI.out.own (by omega)).alloc _)
              have HFe := Lib.hid HS.out.few
              rw [hnn] at P5 HFe
              clear hnn
              go_wp2_with (at_builtin; refine wpList_append_own_at _ rfl _ _ 30 rfl w.heap.size 27 j0 (.agg #[.int .u8 0, .slice none 0 0]) 2 32 Tryd.underlying30 hj hy0 hy1 hy2 rfl (by decide) u4 nn (modC d vs) rfl P5.out ⟨wr.heap.size, 0, none⟩ 1 1 [.int .u8 s[k].toNat, .slice p 0 cap] rfl rfl (two_new _ _ _ _) (by simp [Value.oneCell']) (by rw [HM.out]; omega) (by omega) (by simp; omega) ?_; intro v2 w5 ho2 hg2 hn2 hb2)
              have M5 := Lib.hid (modFr_snocR (m := ⟨s[k], a⟩) HMF.out hsz BX.out A5.out (by rw [HN.out]; exact ho2) hg2 hb2)
              have BW : Hid (Below w.heap.size w w5) := Lib.hid ((HS.out.below.trans (BX.out.mono hsz)).grown hg2 (by have := BX.out.size; omega) (fun j e => (owns_lt HMF.out.row j e).1))
              have HT : Hid (OutAt w (lA s) (d ++ [⟨s[k], a⟩]) (m) v2 w5) := Lib.hid ⟨BW.out, ⟨_, M5.out⟩, by rw [List.length_append, List.length_singleton, HN.out]; have := HFe.out; omega, by omega, fun x hx => by
                rcases List.mem_append.1 hx with h | h
                · exact HS.out.args x h
                · rw [List.mem_singleton] at h; subst h; show a.length ≤ 60000; omega, HO.out⟩
              clear ho2 hg2 hn2 hb2
              go_wp2_with fail
              go_roundw
              case rel => exact ⟨_, m, by go_num, HT.out⟩
              case measure => simp [intOf]; omega
          · have HA := Lib.hid ha
            have hal : 0 < a.length := List.length_pos_iff.2 ha
            have z1 : ((a.length : Int) == 0) = false := by rw [beq_eq_false_iff_ne]; omega
            have z2 : (0 : Int) < (a.length : Int) := by omega
            have z3 : ¬ a.length = 0 := by omega
            have z4 : 0 < a.length := by omega
            clear ha
            by_cases hml : m < s.size
            · have hmL : m < (lA s).length := by omega
              have n1 : (m : Int) < (s.size : Int) := by omega
              have n2 : ((m : Int) == (s.size : Int)) = false := by rw [beq_eq_false_iff_ne]; omega
              have n3 : ¬ m = s.size := by omega
              have HGm := Lib.hid (HG.out m hml hmL)
              by_cases h44 : s[m] = 44
              · have t40 : (((s[m].toNat : Nat) : Int) == 40) = false := by rw [h44]; rfl
                have e40 : ¬ ((s[m].toNat : Nat) : Int) = 40 := by simpa using t40
                have t44 : (((s[m].toNat : Nat) : Int) == 44) = true := by rw [h44]; rfl
                have e44 : ((s[m].toNat : Nat) : Int) = 44 := by simpa using t44
                have HB : Hid (moreB a (lA s)[m] = true) := Lib.hid (by rw [moreB_cons HA.out, ← HGm.out, h44]; rfl)
                clear h44
                have KNm : Hid (∀ w, Calls Tryd.prog 38 #[.string s, .int .i64 ((m : Int) + 1)] w (NuEnd s (m + 1) w)) := Lib.hid (fun w => by have := KN.out (m + 1) (by omega) w; rwa [show ((m + 1 : Nat) : Int) = (m : Int) + 1 from by omega] at this)
                go_wp2_with fail
                refine (KNm.out _).mono ?_
                rintro e w1 ⟨rfl, ⟨hn, rfl⟩ | ⟨n, m2, g1, g2, hn, rfl⟩⟩
                · have HEr : Hid (RpEnd (lA s) w (.returned (.tuple #[.slice none 0 0, .int .i64 12])) wr) := Lib.hid (rpEnd_no (HS.out.below.trans (HI.out.below.mono hsz)) (.inr (oat_none HS.out.eq hlL (rmod_none hlL (aat_bad HI.out.eq hmL HB.out hn)))))
                  go_wp2_with fail
                  go_ret2
                  exact HEr.out
                · have HNu := Lib.hid hn
                  have P6 : Hid ((wr.alloc (.cells #[.int .i64 n] 3)).ownsRow (wo.heap.size + 1) 3 1 (.slice p a.length cap) a.length (valsL a)) := Lib.hid (by have h := HI.out.own.alloc (.cells #[.int .i64 n] 3); exact h)
                  clear hn
                  go_wp2_with (at_builtin; refine wpList_append_own _ rfl _ _ 25 rfl (wo.heap.size + 1) 3 i0 (.int .i64 0) 1 8 Tryd.underlying25 hi hz0 hz1 hz2 rfl (by decide) (.slice p a.length cap) a.length (valsL a) rfl P6.out ⟨wr.heap.size, 0, none⟩ 1 1 [.int .i64 n] rfl rfl (cell_one_new _ _ _) (by simp [Value.oneCell']) (by rw [HM.out]; omega) (by omega) (by simp; omega) ?_; intro v2 w3 ho2 hg2 hn2; have N3 := inAt_blk HI.out hg2; have I2 := Lib.hid (inAt_step HI.out ho2 hg2 hmL HB.out HNu.out g1 (by omega)); obtain ⟨p2, c2, rfl⟩ := own_slice ho2; have q2 := cell_two0 N3; have q3 := cell_two1 N3; have f1 : w3.frozen? ⟨wo.heap.size, 1, none⟩ = false := (by simp [World.frozen?, N3]); have l3 := inAt_lt HI.out hg2; clear ho2 hg2 hn2 N3)
                  go_wp2_with fail
                  go_roundw
                  case rel => exact ⟨a ++ [n], m2, _, by go_num, I2.out⟩
                  case measure => simp [intOf]; omega
              · have t44 : (((s[m].toNat : Nat) : Int) == 44) = false := by rw [u8_is _ 44 44 rfl]; simpa using h44
                have e44 : ¬ ((s[m].toNat : Nat) : Int) = 44 := by simpa using t44
                have HB : Hid (moreB a (lA s)[m] = false) := Lib.hid (by rw [moreB_cons HA.out, ← HGm.out]; simpa using h44)
                clear h44
                by_cases h41 : s[m] = 41
                · have t40 : (((s[m].toNat : Nat) : Int) == 40) = false := by rw [h41]; rfl
                  have e40 : ¬ ((s[m].toNat : Nat) : Int) = 40 := by simpa using t40
                  have t41 : (((s[m].toNat : Nat) : Int) != 41) = false := by rw [h41]; rfl
                  have e41 : ((s[m].toNat : Nat) : Int) = 41 := by rw [h41]; rfl
                  have H41 : Hid ((lA s)[m] = 41) := Lib.hid (by rw [← HGm.out, h41])
                  clear h41
                  have HO : Hid (OAt (lA s) (d ++ [⟨s[k], a⟩]) (m + 1)) := Lib.hid (by
                    have h1 := rmod_args hlL HA.out hmL H41.out (aat_stop HI.out.eq (fun h => HB.out))
                    rw [HC.out] at h1
                    exact oat_step HS.out.eq hlL h1 (by omega))
                  obtain ⟨nn, hnn⟩ : ∃ n, d.length = n := ⟨_, rfl⟩
                  have HN := Lib.hid hnn
                  have hdl : nn ≤ 50000 := by have := HS.out.few; omega
                  have BX : Hid (Below wo.heap.size wo (wr.alloc (.cells #[.int .u8 s[k].toNat, .slice p a.length cap] 27))) := Lib.hid (HI.out.below.alloc HI.out.below.size _)
                  have P5 := Lib.hid (r_own_later HMF.out.row BX.out)
                  have A5 : Hid ((wr.alloc (.cells #[.int .u8 s[k].toNat, .slice p a.length cap] 27)).ownsRow wo.heap.size 3 1 (.slice p a.length cap) a.length (valsL a)) := Lib.hid ((owns_mono HI.out.own (by omega)).alloc _)
                  have HFe := Lib.hid HS.out.few
                  rw [hnn] at P5 HFe
                  clear hnn
                  go_wp2_with (at_builtin; refine wpList_append_own_at _ rfl _ _ 30 rfl w.heap.size 27 j0 (.agg #[.int .u8 0, .slice none 0 0]) 2 32 Tryd.underlying30 hj hy0 hy1 hy2 rfl (by decide) u4 nn (modC d vs) rfl P5.out ⟨wr.heap.size, 0, none⟩ 1 1 [.int .u8 s[k].toNat, .slice p a.length cap] rfl rfl (two_new _ _ _ _) (by simp [Value.oneCell']) (by rw [HM.out]; omega) (by omega) (by simp; omega) ?_; intro v2 w5 ho2 hg2 hn2 hb2)
                  have M5 := Lib.hid (modFr_snocR (m := ⟨s[k], a⟩) HMF.out hsz BX.out A5.out (by rw [HN.out]; exact ho2) hg2 hb2)
                  have BW : Hid (Below w.heap.size w w5) := Lib.hid ((HS.out.below.trans (BX.out.mono hsz)).grown hg2 (by have := BX.out.size; omega) (fun j e => (owns_lt HMF.out.row j e).1))
                  have HT : Hid (OutAt w (lA s) (d ++ [⟨s[k], a⟩]) (m + 1) v2 w5) := Lib.hid ⟨BW.out, ⟨_, M5.out⟩, by rw [List.length_append, List.length_singleton, HN.out]; have := HFe.out; omega, by omega, fun x hx => by
                    rcases List.mem_append.1 hx with h | h
                    · exact HS.out.args x h
                    · rw [List.mem_singleton] at h; subst h; show a.length ≤ 60000; omega, HO.out⟩
                  clear ho2 hg2 hn2 hb2
                  go_wp2_with fail
                  go_roundw
                  case rel => exact ⟨_, m + 1, by go_num, HT.out⟩
                  case measure => simp [intOf]; omega
                · have t41 : (((s[m].toNat : Nat) : Int) != 41) = true := by
                    have : (((s[m].toNat : Nat) : Int) == 41) = false := by rw [u8_is _ 41 41 rfl]; simpa using h41
                    simpa [bne] using this
                  have e41 : ¬ ((s[m].toNat : Nat) : Int) = 41 := by simpa using t41
                  have H41 : Hid (∀ h : m < (lA s).length, (lA s)[m] ≠ 41) := Lib.hid (fun h => by rw [← HGm.out]; exact h41)
                  clear h41
                  by_cases h40 : s[m] = 40
                  · have t40 : (((s[m].toNat : Nat) : Int) == 40) = true := by rw [h40]; rfl
                    have e40 : ((s[m].toNat : Nat) : Int) = 40 := by simpa using t40
                    clear h40
                    have HEr : Hid (RpEnd (lA s) w (.returned (.tuple #[.slice none 0 0, .int .i64 12])) wr) := Lib.hid (rpEnd_no (HS.out.below.trans (HI.out.below.mono hsz)) (.inr (oat_none HS.out.eq hlL (rmod_bad hlL HA.out H41.out (aat_stop HI.out.eq (fun h => HB.out))))))
                    go_wp2_with fail
                    go_ret2
                    exact HEr.out
                  · have t40 : (((s[m].toNat : Nat) : Int) == 40) = false := by rw [u8_is _ 40 40 rfl]; simpa using h40
                    have e40 : ¬ ((s[m].toNat : Nat) : Int) = 40 := by simpa using t40
                    clear h40
                    have HEr : Hid (RpEnd (lA s) w (.returned (.tuple #[.slice none 0 0, .int .i64 12])) wr) := Lib.hid (rpEnd_no (HS.out.below.trans (HI.out.below.mono hsz)) (.inr (oat_none HS.out.eq hlL (rmod_bad hlL HA.out H41.out (aat_stop HI.out.eq (fun h => HB.out))))))
                    go_wp2_with fail
                    go_ret2
                    exact HEr.out
            · have n1 : ¬ (m : Int) < (s.size : Int) := by omega
              have n2 : ((m : Int) == (s.size : Int)) = true := by rw [beq_iff_eq]; omega
              have n3 : m = s.size := by omega
              have HEr : Hid (RpEnd (lA s) w (.returned (.tuple #[.slice none 0 0, .int .i64 12])) wr) := Lib.hid (rpEnd_no (HS.out.below.trans (HI.out.below.mono hsz)) (.inr (oat_none HS.out.eq hlL (rmod_bad hlL HA.out (fun h => by omega) (aat_stop HI.out.eq (fun h => by omega))))))
              go_wp2_with fail
              go_ret2
              exact HEr.out
      · obtain rfl : k = s.size := by omega
        have k1 : ¬ (s.size : Int) < (s.size : Int) := by omega
        obtain ⟨vs, hM⟩ := HS.out.own
        have HMF := Lib.hid hM
        have KC := Lib.hid (fun w h => check_big u4 d (by have := HS.out.few; omega) (fun x hx => by have := HS.out.args x hx; omega) w h)
        have HP := Lib.hid (prs_of (oat_end HS.out.eq (by omega)))
        clear hM
        by_cases h0 : chk d = 0
        · rw [h0] at KC
          have HY : Hid (∀ w', Below wo.heap.size wo w' → RpEnd (lA s) w (.returned (.tuple #[u4, .int .i64 0])) w') := Lib.hid (fun w' hb => rpEnd_yes (HS.out.below.trans (hb.mono hsz)) (HMF.out.mods.later hb) HNl.out (by rw [HP.out, if_pos h0]))
          clear h0
          go_wp2_with fail
          refine (KC.out _ HMF.out.mods).mono ?_
          rintro e w1 ⟨rfl, hb⟩
          have B1 := Lib.hid hb
          clear hb
          go_wp2_with fail
          go_ret2
          exact HY.out _ B1.out
        · have h1 : (chk d != 0) = true := by rw [bne_iff_ne]; exact h0
          have HY : Hid (∀ w', Below wo.heap.size wo w' → RpEnd (lA s) w (.returned (.tuple #[.slice none 0 0, .int .i64 12])) w') := Lib.hid (fun w' hb => rpEnd_no (HS.out.below.trans (hb.mono hsz)) (.inr (by rw [HP.out, if_neg h0])))
          obtain ⟨x, hx⟩ : ∃ x, chk d = x := ⟨_, rfl⟩
          rw [hx] at KC h1
          clear h0 hx
          go_wp2_with fail
          refine (KC.out _ HMF.out.mods).mono ?_
          rintro e w1 ⟨rfl, hb⟩
          have B1 := Lib.hid hb
          clear hb
          go_wp2_with fail
          go_ret2
          exact HY.out _ B1.out
end Go.Proofs.YtjjjopopalcokaaDoor
