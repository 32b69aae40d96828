/-
  What the package's Depth and Strip hand back.
-/
import Derived.Test.YtjjjopopalcokaaDoorWordPrF
import Derived.Test.YtjjjopopalcokaaDoorWordStM
namespace Go.Proofs.YtjjjopopalcokaaDoor
open Go.RowKit
open WM
set_option linter.unusedVariables false
set_option linter.unusedSimpArgs false

theorem dep_le_dmax (l : List Md) : ∀ k i, i ≤ k → dep (l.take i) ≤ dmax l k := by
  intro k
  induction k with
  | zero => intro i hi; obtain rfl : i = 0 := by omega
            simp [dep_nil, dmax_zero]
  | succ k ih =>
    intro i hi
    rw [dmax_succ]
    rcases Nat.lt_or_eq_of_le hi with h | h
    · have := ih i (by omega); omega
    · subst h; omega
theorem dmax_lvl {l : List Md} {k : Nat} (hk : k < l.length) : dmax l (k + 1) = max (dmax l k) (lvlA l k) := by
  rw [dmax_succ, lvlA_eq hk]
  by_cases h : l[k].c = 93
  · rw [if_pos h]
    have h1 := dep_snoc hk
    have h2 : dlt l[k] = -1 := by unfold dlt; rw [if_neg (by rw [h]; decide), if_pos h]
    have h3 := dep_le_dmax l k k (Nat.le_refl _)
    omega
  · rw [if_neg h, Int.add_zero]
theorem lvl_rng {l : List Md} (h : okB l l.length = true) {k : Nat} (hk : k < l.length) : 0 ≤ lvlA l k ∧ lvlA l k ≤ l.length := by
  have h1 := opn_rng h hk
  have h2 := dep_hi l k (by omega)
  rw [lvlA_eq hk]
  by_cases h3 : l[k].c = 93
  · rw [if_pos h3]
    have h4 := dep_snoc hk
    have h5 : dlt l[k] = -1 := by unfold dlt; rw [if_neg (by rw [h3]; decide), if_pos h3]
    omega
  · rw [if_neg h3]; omega
theorem lvl_cell {w : World} {g : Nat} {l : List Md} (h : RowI w g (lvlL l l.length)) {k : Nat} (hk : k < l.length) : w.cell? ⟨g, k, none⟩ = some (.int .i64 (lvlA l k)) := by
  have := h.cell (i := k) (by rw [lvlL_length]; exact hk)
  rwa [lvlL_get hk, if_pos hk] at this
set_option maxRecDepth 100000 in
set_option maxHeartbeats 1600000 in
theorem pdepth_any (v : Value) (l : List Md) (hmax : l.length ≤ 9223372036854775807) (hargs : ∀ m ∈ l, m.a.length ≤ 9223372036854775807) (w : World) (hv : Mods w v l) :
    Calls Tryd.prog 25 #[v] w fun e w' => e = .returned (.tuple #[.int .i64 (dpI l), .int .i64 (chk l)]) ∧ Below w.heap.size w w' := by
  obtain ⟨p, cap, rfl⟩ := hv.slice
  have HV := Lib.hid hv
  have HC := Lib.hid (fun w hv => pcheck_any (.slice p l.length cap) l hmax hargs w hv)
  have HO := Lib.hid (fun hc w hv => levels_valid (.slice p l.length cap) l hc w hv)
  have HD : Hid (dpI l = if chk l = 0 then dmax l l.length else 0) := Lib.hid rfl
  have HZ : Hid (chk l = 0 → okB l l.length = true) := Lib.hid (fun h => (chk_zero.1 h).2.2.1)
  have HZ2 : Hid (chk l = 0 → l.length ≤ 2000) := Lib.hid (fun h => (chk_zero.1 h).1)
  obtain ⟨c, hc⟩ : ∃ c, chk l = c := ⟨_, rfl⟩
  rw [hc] at HC HO HD HZ HZ2 ⊢
  clear hc hv hargs
  by_cases h0 : c = 0
  · subst h0
    rw [if_pos rfl] at HD
    have HOK := Lib.hid (HZ.out rfl)
    have hsm := HZ2.out rfl
    have HO0 := Lib.hid (HO.out rfl)
    clear HO HZ HZ2
    go_enter Tryd.func25, Tryd.ntmps25
    go_wp2_with fail
    refine (HC.out _ HV.out).mono ?_
    rintro e w1 ⟨rfl, hb⟩
    have B1 := Lib.hid hb
    clear hb
    go_wp2_with fail
    refine (HO0.out _ (HV.out.later B1.out)).mono ?_
    rintro e w2 ⟨g, rfl, hb, hi⟩
    have B2 := Lib.hid (B1.out.trans (hb.mono B1.out.size))
    have HI := Lib.hid hi
    have lg := hi.lt
    clear hb hi B1
    go_wp2_with fail
    go_loop [7, 21] (fun n i => ∃ k : Nat, k ≤ l.length ∧ i = .int .i64 k ∧ n = .int .i64 (dmax l k)) (fun _ i => l.length - (intOf i).toNat)
    case atStart => exact ⟨0, Nat.zero_le _, rfl, rfl⟩
    case round =>
      obtain ⟨k, hk, rfl, rfl⟩ := hrel
      by_cases hlt : k < l.length
      · have e1 := lvl_cell HI.out hlt
        have HX := Lib.hid (dmax_lvl hlt)
        have hr := lvl_rng HOK.out hlt
        have hm1 := dmax_nonneg l k
        have hm2 := dmax_le HOK.out k hk
        have k1 : (k : Int) < (l.length : Int) := by omega
        obtain ⟨d, hd⟩ : ∃ d, lvlA l k = d := ⟨_, rfl⟩
        obtain ⟨m, hm⟩ : ∃ m, dmax l k = m := ⟨_, rfl⟩
        rw [hd] at e1 hr HX
        rw [hm] at HX hm1 hm2 ⊢
        clear hd hm
        go_wp2_with fail
        go_round
        case rel => exact ⟨k + 1, by omega, by go_num, by rw [HX.out]⟩
        case measure => simp [intOf]; omega
      · obtain rfl : k = l.length := by omega
        go_wp2_with fail
        go_ret2
        exact ⟨ret_two HD.out.symm rfl, B2.out⟩
  · have h1 : (c != 0) = true := by rw [bne_iff_ne]; exact h0
    rw [if_neg h0] at HD
    have HD2 := Lib.hid HD.out
    clear h0
    go_enter Tryd.func25, Tryd.ntmps25
    go_wp2_with fail
    refine (HC.out _ HV.out).mono ?_
    rintro e w1 ⟨rfl, hb⟩
    have B1 := Lib.hid hb
    clear hb
    go_wp2_with fail
    go_ret2
    exact ⟨ret_two HD2.out.symm rfl, B1.out⟩
theorem trunk_lvl {l : List Md} {k : Nat} (hok : okB l l.length = true) (hk : k < l.length) : (decide (dep (l.take (k + 1)) = 0) && !(l[k].c == 93)) = decide (lvlA l k = 0) := by
  have h1 := okB_iff.1 hok k hk
  rw [lvlA_eq hk]
  by_cases h : l[k].c = 93
  · rw [if_pos h, h]
    rw [show ((93 : UInt8) == 93) = true from rfl, Bool.not_true, Bool.and_false]
    exact (decide_eq_false (by omega)).symm
  · rw [if_neg h, Int.add_zero]
    have : (l[k].c == 93) = false := beq_eq_false_iff_ne.2 h
    rw [this]; simp
/-- How Strip ends. -/
def PStEnd (l : List Md) (w : World) (e : Ending) (w' : World) : Prop :=
  Below w.heap.size w w' ∧ ((chk l ≠ 0 ∧ e = .returned (.tuple #[.slice none 0 0, .int .i64 (chk l)])) ∨ (chk l = 0 ∧ ∃ v vs, e = .returned (.tuple #[v, .int .i64 0]) ∧ ModFr w' w.heap.size v (trunk l l.length) vs))
theorem pstrip_no (v : Value) (l : List Md) (hmax : l.length ≤ 9223372036854775807) (hargs : ∀ m ∈ l, m.a.length ≤ 9223372036854775807) (h0 : chk l ≠ 0) (w : World) (hv : Mods w v l) :
    Calls Tryd.prog 13 #[v] w (PStEnd l w) := by
  have HV := Lib.hid hv
  have HC := Lib.hid (fun w hv => pcheck_any v l hmax hargs w hv)
  have HE : Hid (∀ w', Below w.heap.size w w' → PStEnd l w (.returned (.tuple #[.slice none 0 0, .int .i64 (chk l)])) w') := Lib.hid (fun w' hb => ⟨hb, .inl ⟨h0, rfl⟩⟩)
  obtain ⟨c, hc⟩ : ∃ c, chk l = c := ⟨_, rfl⟩
  rw [hc] at HC HE h0
  have h1 : (c != 0) = true := by rw [bne_iff_ne]; exact h0
  clear hv hargs h0 hc
  go_enter Tryd.func13, Tryd.ntmps13
  go_wp2_with fail
  refine (HC.out _ HV.out).mono ?_
  rintro e w1 ⟨rfl, hb⟩
  have B1 := Lib.hid hb
  clear hb
  go_wp2_with fail
  go_ret2
  exact HE.out _ B1.out
set_option maxRecDepth 100000 in
set_option maxHeartbeats 1600000 in
theorem pstrip_yes (v : Value) (l : List Md) (h0 : chk l = 0) (w : World) (hv : Mods w v l) :
    Calls Tryd.prog 13 #[v] w (PStEnd l w) := by
  have hmax : l.length ≤ 2000 := (chk_zero.1 h0).1
  have hargs : ∀ m ∈ l, m.a.length ≤ 4 := fun m hm => by
    have := List.all_eq_true.1 (chk_zero.1 h0).2.1 m hm
    unfold fineB at this
    simp only [Bool.and_eq_true, decide_eq_true_eq] at this
    exact this.1.1.2
  obtain ⟨p, cap, rfl⟩ := hv.slice
  have HV := Lib.hid hv
  have HC := Lib.hid (fun w hv => pcheck_any (.slice p l.length cap) l (by omega) (fun m hm => by have := hargs m hm; omega) w hv)
  have HO := Lib.hid (fun w hv => levels_valid (.slice p l.length cap) l h0 w hv)
  have HA := Lib.hid hargs
  have HE : Hid (∀ w' v vs, Below w.heap.size w w' → ModFr w' w.heap.size v (trunk l l.length) vs → PStEnd l w (.returned (.tuple #[v, .int .i64 0])) w') := Lib.hid (fun w' v vs hb hm => ⟨hb, .inr ⟨h0, v, vs, rfl, hm⟩⟩)
  have HOk := Lib.hid (chk_zero.1 h0).2.2.1
  obtain ⟨j0, hj, hy0, hy1, hy2⟩ := info_parts info_mod
  have HM : Hid (maxLen = 9223372036854775807) := Lib.hid rfl
  rw [h0] at HC
  clear hv hargs h0
  go_enter Tryd.func13, Tryd.ntmps13
  go_wp2_with fail
  refine (HC.out _ HV.out).mono ?_
  rintro e w1 ⟨rfl, hb⟩
  have B1 := Lib.hid hb
  clear hb
  go_wp2_with fail
  refine (HO.out _ (HV.out.later B1.out)).mono ?_
  rintro e w2 ⟨gd, rfl, hb, hi⟩
  have B2 := Lib.hid (B1.out.trans (hb.mono B1.out.size))
  have HI := Lib.hid hi
  have S0 := Lib.hid (stAt_start w2 l (Below.refl w2.heap.size w2))
  have HV2 := Lib.hid (HV.out.later B2.out)
  have lgd := hi.lt
  clear hb hi
  go_wp2_with fail
  go_loopw [7, 21] (fun v i wr => ∃ k : Nat, i = .int .i64 k ∧ StAt w2 l k v wr) (fun _ i _ => l.length - (intOf i).toNat)
  case atStart => exact ⟨0, rfl, S0.out⟩
  case round =>
    obtain ⟨k, rfl, hS⟩ := hrel
    have HS := Lib.hid hS
    have n1 := hS.hi
    have lgr := Nat.lt_of_lt_of_le lgd hS.below.size
    clear hS
    by_cases hlt : k < l.length
    · obtain ⟨b, off, cap', q, c, hp, e1, e2, hin, lb, hnil⟩ := HV2.out.at2 hlt
      obtain rfl : p = some ⟨b, off, none⟩ := by cases hp; rfl
      have e1 := (HS.out.below.cell (p := ⟨b, off + k * 2, none⟩) lb).trans e1
      have e2 := (HS.out.below.cell (p := ⟨b, off + k * 2 + 1, none⟩) lb).trans e2
      have lbr := Nat.lt_of_lt_of_le lb HS.out.below.size
      have e4 := (HS.out.below.cell (p := ⟨gd, k, none⟩) lgd).trans (lvl_cell HI.out hlt)
      have k1 : (k : Int) < (l.length : Int) := by omega
      have HIn := Lib.hid hin
      have HNl : Hid (NilOr (.slice q l[k].a.length c)) := Lib.hid (by
        cases q with
        | none => obtain ⟨z1, z2⟩ := hnil rfl; rw [z1, z2]; exact .inl rfl
        | some ad => exact .inr ⟨_, _, _, rfl⟩)
      have HTl := Lib.hid (trunk_lvl HOk.out hlt)
      clear hp hin hnil
      obtain ⟨d, hd⟩ : ∃ d, lvlA l k = d := ⟨_, rfl⟩
      rw [hd] at e4 HTl
      clear hd
      by_cases hz : d = 0
      · have HDt : Hid ((decide (dep (l.take (k + 1)) = 0) && !(l[k].c == 93)) = true) := Lib.hid (by rw [HTl.out, hz]; rfl)
        subst hz
        obtain ⟨vs, hs1, hs2, hs3⟩ := HS.out.own
        have hvl := owns_lt hs2
        have htl : (trunk l k).length ≤ k := trunk_length l k
        obtain ⟨n, hn⟩ : ∃ n, (trunk l k).length = n := ⟨_, rfl⟩
        have hs2' : wr.ownsRow w2.heap.size 27 2 u7 n (modC (trunk l k) vs) := by rw [← hn]; exact hs2
        rw [hn] at htl
        have HN := Lib.hid hn
        have H1 := Lib.hid hs1
        have H2 := Lib.hid hs2
        have H3 := Lib.hid hs3
        have P5 := Lib.hid (hs2'.alloc (.cells #[.int .u8 l[k].c.toNat, .slice q l[k].a.length c] 27))
        clear hn hs1 hs2 hs3 hs2' hvl
        go_wp2_with (at_builtin; refine wpList_append_own _ rfl _ _ 30 rfl w2.heap.size 27 j0 (.agg #[.int .u8 0, .slice none 0 0]) 2 32 Tryd.underlying30 hj hy0 hy1 hy2 rfl (by decide) u7 n (modC (trunk l k) vs) rfl P5.out ⟨wr.heap.size, 0, none⟩ 1 1 [.int .u8 l[k].c.toNat, .slice q l[k].a.length c] rfl rfl (two_new _ _ _ _) (by simp [Value.oneCell']) (by rw [HM.out]; omega) (by omega) (by simp; have := HS.out.below.size; omega) ?_; intro v2 w3 ho2 hg2 hn2)
        have T1 := Lib.hid (stAt_step hlt HDt.out HS.out.below H1.out H2.out H3.out HIn.out HNl.out ((Below.refl wr.heap.size wr).alloc (Nat.le_refl _) (.cells #[.int .u8 l[k].c.toNat, .slice q l[k].a.length c] 27)) (by rw [HN.out]; exact ho2) hg2)
        clear ho2 hn2 hg2
        go_wp2_with fail
        go_roundw
        case rel => exact ⟨k + 1, by go_num, T1.out⟩
        case measure => simp [intOf]; omega
      · have T1 := Lib.hid (stAt_keep HS.out hlt (by rw [HTl.out]; simp [hz]))
        have z1 : (d == 0) = false := by simpa using hz
        clear hz
        go_wp2_with fail
        go_roundw
        case rel => exact ⟨k + 1, by go_num, T1.out⟩
        case measure => simp [intOf]; omega
    · have hk : k = l.length := by omega
      have hm : ¬ (k : Int) < (l.length : Int) := by omega
      have HX := Lib.hid hk
      have HMd := Lib.hid (stAt_mods HS.out)
      have HNn : Hid (NilOr u7) := Lib.hid (by
        obtain ⟨vs, h1, h2, h3⟩ := HS.out.own
        exact nilOr_of_owned h2)
      rw [hk] at HMd
      have HT := Lib.hid (ptwin_any u7 (trunk l l.length) (by have := trunk_length l l.length; omega) (fun m hm => by have := HA.out m (trunk_mem l _ (Nat.le_refl _) m hm); omega) wr HMd.out HNn.out)
      clear hk hlt
      go_wp2_with fail
      refine HT.out.mono ?_
      rintro e w3 ⟨v3, vs, rfl, hb, hm3⟩
      have B3 := Lib.hid (B2.out.trans ((HS.out.below.trans (hb.mono HS.out.below.size)).mono B2.out.size))
      have HMo := Lib.hid (hm3.mono (Nat.le_trans B2.out.size HS.out.below.size))
      clear hb hm3
      go_wp2_with fail
      go_ret2
      exact HE.out _ _ _ B3.out HMo.out
end Go.Proofs.YtjjjopopalcokaaDoor
