/-
  What the reference's Strip hands back.
-/
import Derived.Test.YtjjjopopalcokaaWordTwinB
import Derived.Test.YtjjjopopalcokaaWordRefE
import Derived.Test.YtjjjopopalcokaaWordStM
namespace Go.Proofs.Ytjjjopopalcokaa
open Go.RowKit
open WM
set_option linter.unusedVariables false
set_option linter.unusedSimpArgs false

theorem strip_no (v : Value) (l : List Md) (hmax : l.length ≤ 2100) (hargs : ∀ m ∈ l, m.a.length ≤ 10) (h0 : chk l ≠ 0) (w : World) (hv : Mods w v l) :
    Calls Try.prog 12 #[v] w (StEnd l w) := by
  have HV := Lib.hid hv
  have HC := Lib.hid (fun w hv => check_any v l hmax hargs w hv)
  have HE : Hid (∀ w', Below w.heap.size w w' → StEnd l w (.returned (.tuple #[.slice none 0 0, .int .i64 (chk l)])) w') := Lib.hid (fun w' hb => ⟨hb, .inl ⟨h0, rfl⟩⟩)
  obtain ⟨c, hc⟩ : ∃ c, chk l = c := ⟨_, rfl⟩
  rw [hc] at HC HE h0
  have h1 : (c != 0) = true := by rw [bne_iff_ne]; exact h0
  clear hv hargs h0 hc
  go_enter Try.func12, Try.ntmps12
  go_wp2_with fail
  refine (HC.out _ HV.out).mono ?_
  rintro e w1 ⟨rfl, hb⟩
  have B1 := Lib.hid hb
  clear hb
  go_wp2_with fail
  refine (HC.out _ (HV.out.later B1.out)).mono ?_
  rintro e w2 ⟨rfl, hb⟩
  have B2 := Lib.hid (B1.out.trans (hb.mono B1.out.size))
  clear hb
  go_wp2_with fail
  go_ret2
  exact HE.out _ B2.out
set_option maxHeartbeats 1600000 in
theorem strip_yes (v : Value) (l : List Md) (hargs : ∀ m ∈ l, m.a.length ≤ 10) (h0 : chk l = 0) (w : World) (hv : Mods w v l) :
    Calls Try.prog 12 #[v] w (StEnd l w) := by
  have hmax : l.length ≤ 2000 := (chk_zero.1 h0).1
  obtain ⟨p, cap, rfl⟩ := hv.slice
  have HV := Lib.hid hv
  have HC := Lib.hid (fun w hv => check_any (.slice p l.length cap) l (by omega) hargs w hv)
  have HO := Lib.hid (fun w hv => open_valid (.slice p l.length cap) l h0 w hv)
  have HA := Lib.hid hargs
  have HE : Hid (∀ w' v vs, Below w.heap.size w w' → ModOwn w' w.heap.size v (trunk l l.length) vs → StEnd l w (.returned (.tuple #[v, .int .i64 0])) w') := Lib.hid (fun w' v vs hb hm => ⟨hb, .inr ⟨h0, v, vs, rfl, hm⟩⟩)
  have HOk := Lib.hid (chk_zero.1 h0).2.2.1
  obtain ⟨j0, hj, hy0, hy1, hy2⟩ := info_parts info_mod
  have HM : Hid (maxLen = 9223372036854775807) := Lib.hid rfl
  rw [h0] at HC
  clear hv hargs h0
  go_enter Try.func12, Try.ntmps12
  go_wp2_with fail
  refine (HC.out _ HV.out).mono ?_
  rintro e w1 ⟨rfl, hb⟩
  have B1 := Lib.hid hb
  clear hb
  go_wp2_with fail
  refine (HO.out _ (HV.out.later B1.out)).mono ?_
  rintro e w2 ⟨pd, capd, rfl, hb, hi⟩
  have B2 := Lib.hid (B1.out.trans (hb.mono B1.out.size))
  have HI := Lib.hid hi
  have S0 := Lib.hid (stAt_start w2 l (Below.refl w2.heap.size w2))
  have HV2 := Lib.hid (HV.out.later B2.out)
  clear hb hi
  go_wp2_with fail
  go_loopw [6, 7] (fun v i wr => ∃ k : Nat, i = .int .i64 k ∧ StAt w2 l k v wr) (fun _ i _ => l.length - (intOf i).toNat)
  case atStart => exact ⟨0, rfl, S0.out⟩
  case round =>
    obtain ⟨k, rfl, hS⟩ := hrel
    have HS := Lib.hid hS
    have n1 := hS.hi
    clear hS
    by_cases hlt : k < l.length
    · obtain ⟨b, off, cap', q, c, hp, e1, e2, hin, lb, hnil⟩ := HV2.out.at2 hlt
      obtain rfl : p = some ⟨b, off, none⟩ := by cases hp; rfl
      have e1 := (HS.out.below.cell (p := ⟨b, off + k * 2, none⟩) lb).trans e1
      have e2 := (HS.out.below.cell (p := ⟨b, off + k * 2 + 1, none⟩) lb).trans e2
      obtain ⟨bd, offd, capd', hpd, e4, lbd⟩ := (HI.out.later HS.out.below).at (k := k) (by rw [opnL_length]; exact hlt)
      rw [opnL_length] at hpd
      obtain rfl : pd = some ⟨bd, offd, none⟩ := by cases hpd; rfl
      rw [opnL_get hlt] at e4
      have k1 : (k : Int) < (l.length : Int) := by omega
      have HIn := Lib.hid hin
      have HNl : Hid (NilOr (.slice q l[k].a.length c)) := Lib.hid (by
        cases q with
        | none => obtain ⟨z1, z2⟩ := hnil rfl; rw [z1, z2]; exact .inl rfl
        | some ad => exact .inr ⟨_, _, _, rfl⟩)
      clear hp hpd hin hnil
      obtain ⟨t, ht⟩ : ∃ t, (l[k].c == 93) = t := ⟨_, rfl⟩
      have t2 : ((l[k].c.toNat : Int) != 93) = !t := by
        rw [show (93 : Int) = ((93 : UInt8).toNat : Int) from rfl, u8_ne, ht]
      have HD : Hid ((decide (dep (l.take (k + 1)) = 0) && !(l[k].c == 93)) = (decide (dep (l.take (k + 1)) = 0) && !t)) := Lib.hid (by rw [ht])
      clear ht
      obtain ⟨d, hd⟩ : ∃ d, dep (l.take (k + 1)) = d := ⟨_, rfl⟩
      rw [hd] at e4
      have HDd := Lib.hid hd
      clear hd
      by_cases hz : d = 0
      · subst hz
        cases t with
        | true =>
          have T1 := Lib.hid (stAt_keep HS.out hlt (by rw [HD.out]; simp))
          simp only [Bool.not_true] at t2
          go_wp2_with fail
          go_roundw
          case rel => exact ⟨k + 1, by go_num, T1.out⟩
          case measure => simp [intOf]; omega
        | false =>
          have HDt : Hid ((decide (dep (l.take (k + 1)) = 0) && !(l[k].c == 93)) = true) := Lib.hid (by rw [HD.out, HDd.out]; rfl)
          simp only [Bool.not_false] at t2
          obtain ⟨vs, hs1, hs2, hs3⟩ := HS.out.own
          have hvl := owns_lt hs2
          have htl : (trunk l k).length ≤ k := trunk_length l k
          obtain ⟨n, hn⟩ : ∃ n, (trunk l k).length = n := ⟨_, rfl⟩
          have hs2' : wr.ownsRow w2.heap.size 46 2 u6 n (modC (trunk l k) vs) := by rw [← hn]; exact hs2
          rw [hn] at htl
          have HN := Lib.hid hn
          have H1 := Lib.hid hs1
          have H2 := Lib.hid hs2
          have H3 := Lib.hid hs3
          have P5 := Lib.hid (hs2'.alloc (.cells #[.int .u8 l[k].c.toNat, .slice q l[k].a.length c] 46))
          clear hn hs1 hs2 hs3 hs2' hvl
          go_wp2_with (at_builtin; refine wpList_append_own _ rfl _ _ 22 rfl w2.heap.size 46 j0 (.agg #[.int .u8 0, .slice none 0 0]) 2 32 Try.underlying22 hj hy0 hy1 hy2 rfl (by decide) u6 n (modC (trunk l k) vs) rfl P5.out ⟨wr.heap.size, 0, none⟩ 1 1 [.int .u8 l[k].c.toNat, .slice q l[k].a.length c] rfl rfl (two_new _ _ _ _) (by simp [Value.oneCell']) (by rw [HM.out]; omega) (by omega) (by simp; have := HS.out.below.size; omega) ?_; intro v2 w3 ho2 hg2 hn2)
          have T1 := Lib.hid (stAt_step hlt HDt.out HS.out.below H1.out H2.out H3.out HIn.out HNl.out ((Below.refl wr.heap.size wr).alloc (Nat.le_refl _) (.cells #[.int .u8 l[k].c.toNat, .slice q l[k].a.length c] 46)) (by rw [HN.out]; exact ho2) hg2)
          clear ho2 hn2 hg2
          go_wp2_with fail
          go_roundw
          case rel => exact ⟨k + 1, by go_num, T1.out⟩
          case measure => simp [intOf]; omega
      · have T1 := Lib.hid (stAt_keep HS.out hlt (by rw [HD.out, HDd.out]; simp [hz]))
        have z1 : (d == 0) = false := by simpa using hz
        clear hz
        go_wp2_with fail
        go_roundw
        case rel => exact ⟨k + 1, by go_num, T1.out⟩
        case measure => simp [intOf]; omega
    · have hk : k = l.length := by omega
      have hm : ¬ (k : Int) < (l.length : Int) := by omega
      have HX := Lib.hid hk
      have HMd := Lib.hid (stAt_mods HS.out)
      rw [hk] at HMd
      have HT := Lib.hid (twin_any u6 (trunk l l.length) (by have := trunk_length l l.length; omega) (fun m hm => HA.out m (trunk_mem l _ (Nat.le_refl _) m hm)) wr HMd.out)
      clear hk hlt
      go_wp2_with fail
      refine HT.out.mono ?_
      rintro e w3 ⟨v3, vs, rfl, hb, hm3⟩
      have B3 := Lib.hid (B2.out.trans ((HS.out.below.trans (hb.mono HS.out.below.size)).mono B2.out.size))
      have HMo := Lib.hid (modOwn_mono hm3 (Nat.le_trans B2.out.size HS.out.below.size))
      clear hb hm3
      go_wp2_with fail
      go_ret2
      exact HE.out _ _ _ B3.out HMo.out
end Go.Proofs.Ytjjjopopalcokaa
