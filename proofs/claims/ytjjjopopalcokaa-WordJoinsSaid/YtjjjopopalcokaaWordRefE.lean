/-
  What the reference's Close hands back for a valid word.
-/
import Derived.Test.YtjjjopopalcokaaWordRefD
namespace Go.Proofs.Ytjjjopopalcokaa
open Go.RowKit
open WM
set_option linter.unusedVariables false
set_option linter.unusedSimpArgs false

theorem close_out (v : Value) (l : List Md) (hmax : l.length ≤ 2100) (hargs : ∀ m ∈ l, m.a.length ≤ 10) (i : Int) (h0 : chk l = 0) (hi : i < 0 ∨ (0 ≤ i ∧ (l.length : Int) ≤ i)) (w : World) (hv : Mods w v l) :
    Calls Try.prog 8 #[v, .int .i64 i] w (ClEnd l i w) := by
  obtain ⟨p, cap, rfl⟩ := hv.slice
  have HV := Lib.hid hv
  have HC := Lib.hid (fun w hv => check_any (.slice p l.length cap) l hmax hargs w hv)
  have HE : Hid (∀ w', Below w.heap.size w w' → ClEnd l i w (.returned (.tuple #[.int .i64 0, .int .i64 2])) w') := Lib.hid (fun w' hb => ⟨hb, .inr (.inl ⟨h0, by
    cases h : atB l i
    · rfl
    · obtain ⟨k, rfl, hk, _⟩ := atB_iff.1 h; omega, rfl⟩)⟩)
  rw [h0] at HC
  clear hv hargs h0
  rcases hi with hi | ⟨hi, hi2⟩
  · go_enter Try.func8, Try.ntmps8
    go_wp2_with fail
    refine (HC.out _ HV.out).mono ?_
    rintro e w1 ⟨rfl, hb⟩
    have B1 := Lib.hid hb
    clear hb
    go_wp2_with fail
    go_ret2
    exact HE.out _ B1.out
  · go_enter Try.func8, Try.ntmps8
    go_wp2_with fail
    refine (HC.out _ HV.out).mono ?_
    rintro e w1 ⟨rfl, hb⟩
    have B1 := Lib.hid hb
    clear hb
    go_wp2_with fail
    go_ret2
    exact HE.out _ B1.out
theorem close_no (v : Value) (l : List Md) (hmax : l.length ≤ 2100) (hargs : ∀ m ∈ l, m.a.length ≤ 10) (i : Nat) (h0 : chk l = 0) (hi : i < l.length) (hb : braB l[i].c = false) (w : World) (hv : Mods w v l) :
    Calls Try.prog 8 #[v, .int .i64 (i : Int)] w (ClEnd l i w) := by
  obtain ⟨p, cap, rfl⟩ := hv.slice
  have HV := Lib.hid hv
  have HC := Lib.hid (fun w hv => check_any (.slice p l.length cap) l hmax hargs w hv)
  have HE : Hid (∀ w', Below w.heap.size w w' → ClEnd l i w (.returned (.tuple #[.int .i64 0, .int .i64 2])) w') := Lib.hid (fun w' hb' => ⟨hb', .inr (.inl ⟨h0, by
    cases h : atB l i
    · rfl
    · obtain ⟨k, hk, hk2, hk3⟩ := atB_iff.1 h
      obtain rfl : i = k := by omega
      rw [hb] at hk3; exact absurd hk3 (by simp), rfl⟩)⟩)
  rw [h0] at HC
  have hb2 : (l[i].c == 91) = false ∧ (l[i].c == 93) = false := by
    unfold braB at hb; rw [Bool.or_eq_false_iff] at hb; exact hb
  have t1 : ((l[i].c.toNat : Int) != 91) = true := by
    rw [show (91 : Int) = ((91 : UInt8).toNat : Int) from rfl, u8_ne, hb2.1]; rfl
  have t2 : ((l[i].c.toNat : Int) != 93) = true := by
    rw [show (93 : Int) = ((93 : UInt8).toNat : Int) from rfl, u8_ne, hb2.2]; rfl
  have i1 : (i : Int) < (l.length : Int) := by omega
  clear hv hargs h0 hb hb2
  go_enter Try.func8, Try.ntmps8
  go_wp2_with fail
  refine (HC.out _ HV.out).mono ?_
  rintro e w1 ⟨rfl, hb⟩
  have B1 := Lib.hid hb
  obtain ⟨b, off, cap', q, d, hp, e1, _, _, lb⟩ := (HV.out.later hb).at hi
  obtain rfl : p = some ⟨b, off, none⟩ := by cases hp; rfl
  clear hb hp
  generalize l[i].c.toNat = cn at e1 t1 t2
  go_wp2_with fail
  go_ret2
  exact HE.out _ B1.out

theorem dep_all {l : List Md} (h : chk l = 0) : dep (l.take l.length) = 0 := by rw [List.take_length]; exact (chk_zero.1 h).2.2.2
theorem dep_open {l : List Md} (h : chk l = 0) {i : Nat} (hi : i < l.length) (hc : l[i].c = 91) : 1 ≤ dep (l.take (i + 1)) := by
  have h1 := dep_snoc hi
  have h2 : 0 ≤ dep (l.take i) := by
    rcases Nat.eq_zero_or_pos i with h0 | h0
    · subst h0; simp [dep_nil]
    · have := okB_iff.1 (chk_zero.1 h).2.2.1 (i - 1) (by omega)
      rwa [show i - 1 + 1 = i by omega] at this
  have h3 : dlt l[i] = 1 := by unfold dlt; rw [if_pos hc]
  omega
set_option maxHeartbeats 1600000 in
theorem close_fwd (v : Value) (l : List Md) (hmax : l.length ≤ 2100) (hargs : ∀ m ∈ l, m.a.length ≤ 10) (i : Nat) (h0 : chk l = 0) (hi : i < l.length) (hbr : l[i].c = 91) (w : World) (hv : Mods w v l) :
    Calls Try.prog 8 #[v, .int .i64 (i : Int)] w (ClEnd l i w) := by
  obtain ⟨p, cap, rfl⟩ := hv.slice
  have HV := Lib.hid hv
  have HC := Lib.hid (fun w hv => check_any (.slice p l.length cap) l hmax hargs w hv)
  have HO := Lib.hid (fun w hv => open_valid (.slice p l.length cap) l h0 w hv)
  have HE : Hid (∀ w' k, Below w.heap.size w w' → IsCl l i k → ClEnd l i w (.returned (.tuple #[.int .i64 (k : Int), .int .i64 0])) w') := Lib.hid (fun w' k hb hk => ⟨hb, .inr (.inr ⟨h0, i, k, rfl, hk, rfl⟩)⟩)
  have HL := Lib.hid (dep_all h0)
  have H1 := Lib.hid (dep_open h0 hi hbr)
  have HOk := Lib.hid (chk_zero.1 h0).2.2.1
  have HBr := Lib.hid hbr
  rw [h0] at HC
  have t1 : ((l[i].c.toNat : Int) == 91) = true := by rw [hbr]; rfl
  have t2 : ((l[i].c.toNat : Int) != 91) = false := by rw [hbr]; rfl
  have t3 : ((l[i].c.toNat : Int) == 93) = false := by rw [hbr]; rfl
  have i1 : (i : Int) < (l.length : Int) := by omega
  clear hv hargs h0 hbr
  go_enter Try.func8, Try.ntmps8
  go_wp2_with fail
  refine (HC.out _ HV.out).mono ?_
  rintro e w1 ⟨rfl, hb⟩
  have B1 := Lib.hid hb
  have HV1 := Lib.hid (HV.out.later hb)
  obtain ⟨b, off, cap', q, d, hp, e1, _, _, lb⟩ := (HV.out.later hb).at hi
  obtain rfl : p = some ⟨b, off, none⟩ := by cases hp; rfl
  clear hb hp
  obtain ⟨cn, hcn⟩ : ∃ cn, l[i].c.toNat = cn := ⟨_, rfl⟩
  have HCn := Lib.hid hcn
  rw [hcn] at e1 t1 t2 t3
  clear hcn
  go_wp2_with fail
  refine (HO.out _ HV1.out).mono ?_
  rintro e w2 ⟨p2, cap2, rfl, hb, hI⟩
  have e2 := (hb.cell (p := ⟨b, off + i * 2, none⟩) lb).trans e1
  have lb2 : b < w2.heap.size := Nat.lt_of_lt_of_le lb hb.size
  have B2 := Lib.hid (B1.out.trans (hb.mono B1.out.size))
  have HI := Lib.hid hI
  clear hb hI B1 e1 lb
  obtain ⟨bo, oo, co, hpo, eo, lo⟩ := HI.out.at (k := i) (by rw [opnL_length]; exact hi)
  rw [opnL_length] at hpo
  obtain rfl : p2 = some ⟨bo, oo, none⟩ := by cases hpo; rfl
  rw [opnL_get hi] at eo
  obtain ⟨di, hdi⟩ : ∃ d, dep (l.take (i + 1)) = d := ⟨_, rfl⟩
  have HDi := Lib.hid hdi
  rw [hdi] at eo H1
  clear hpo hdi
  go_wp2_with fail
  go_loopw [8] (fun n wr => ∃ k q : Nat, k < l.length ∧ i < k ∧ n = .int .i64 (k : Int) ∧ wr = w2.drewN q ∧ ∀ j, i < j → j < k → di ≤ dep (l.take (j + 1))) (fun n _ => l.length - (intOf n).toNat)
  case atStart =>
    refine ⟨i + 1, 0, ?_, by omega, by go_num, rfl, fun j h1 h2 => by omega⟩
    rcases Nat.lt_or_ge (i + 1) l.length with h | h
    · exact h
    · have e3 : i + 1 = l.length := by omega
      have h4 := HL.out
      have h5 := H1.out
      rw [← e3, HDi.out] at h4; omega
  case round =>
    obtain ⟨k, q, hk, hik, rfl, rfl, hok⟩ := hrel
    have HK := Lib.hid hok
    clear hok
    obtain ⟨b3, o3, c3, hp3, e3, l3⟩ := HI.out.at (k := k) (by rw [opnL_length]; exact hk)
    rw [opnL_length] at hp3
    obtain ⟨rfl, rfl⟩ : b3 = bo ∧ o3 = oo := by cases hp3; exact ⟨rfl, rfl⟩
    rw [opnL_get hk] at e3
    obtain ⟨dk, hdk⟩ : ∃ d, dep (l.take (k + 1)) = d := ⟨_, rfl⟩
    have HDk := Lib.hid hdk
    rw [hdk] at e3
    have k1 : (k : Int) < (l.length : Int) := by omega
    clear hp3 hdk
    by_cases hd : di ≤ dk
    · have HG : Hid (∀ j, i < j → j < k + 1 → di ≤ dep (l.take (j + 1))) := Lib.hid (fun j h1 h2 => by
        rcases Nat.lt_or_eq_of_le (Nat.le_of_lt_succ h2) with h | h
        · exact HK.out j h1 h
        · subst h; rw [HDk.out]; exact hd)
      have hkl : k + 1 < l.length := by
        rcases Nat.lt_or_ge (k + 1) l.length with h | h
        · exact h
        · have e4 : k + 1 = l.length := by omega
          have h4 := HL.out
          have h5 := H1.out
          rw [← e4, HDk.out] at h4; omega
      go_wp2_with fail
      go_quiet (fail)
      go_wp2_with fail
      go_roundw
      case rel => exact ⟨k + 1, _, hkl, by omega, by go_num, rfl, HG.out⟩
      case measure => simp [intOf]; omega
    · have hd2 : dk < di := by omega
      have HF : Hid (IsCl l i k) := Lib.hid ⟨hi, hk, .inl ⟨HBr.out, hik, by rw [HDk.out, HDi.out]; exact hd2, fun j h1 h2 => by rw [HDi.out]; exact HK.out j h1 h2⟩⟩
      go_wp2_with fail
      go_quiet (fail)
      go_wp2_with fail
      go_ret2
      exact HE.out _ _ (below_drewN (below_drewN B2.out _) _) HF.out

theorem dep_shut {l : List Md} (h : chk l = 0) {i : Nat} (hi : i < l.length) (hc : l[i].c = 93) : 0 < i ∧ dep (l.take i) = dep (l.take (i + 1)) + 1 := by
  have h1 := dep_snoc hi
  have h3 : dlt l[i] = -1 := by unfold dlt; rw [if_neg (by rw [hc]; decide), if_pos hc]
  have h2 := okB_iff.1 (chk_zero.1 h).2.2.1 i hi
  refine ⟨?_, by omega⟩
  rcases Nat.eq_zero_or_pos i with h0 | h0
  · subst h0
    have h5 : dep (l.take 0) = 0 := by rw [List.take_zero]; rfl
    omega
  · exact h0
theorem dep_back {l : List Md} {k : Nat} (hk : k < l.length) {d : Int} (hd : 0 ≤ d) (h1 : d + 1 ≤ dep (l.take (k + 1))) (h2 : ¬ (l[k].c = 91 ∧ dep (l.take (k + 1)) = d + 1)) : 0 < k ∧ d + 1 ≤ dep (l.take k) := by
  have h3 := dep_snoc hk
  have h4 : dlt l[k] ≤ 0 ∨ (dlt l[k] = 1 ∧ l[k].c = 91) := by
    unfold dlt
    split
    · rename_i h; exact .inr ⟨rfl, h⟩
    · split <;> (left; omega)
  have h5 : d + 1 ≤ dep (l.take k) := by
    rcases h4 with h | ⟨h, hc⟩
    · omega
    · have : dep (l.take (k + 1)) ≠ d + 1 := fun e => h2 ⟨hc, e⟩
      omega
  refine ⟨?_, h5⟩
  rcases Nat.eq_zero_or_pos k with h0 | h0
  · subst h0
    have h6 : dep (l.take 0) = 0 := by rw [List.take_zero]; rfl
    omega
  · exact h0
set_option maxHeartbeats 1600000 in
theorem close_rev (v : Value) (l : List Md) (hmax : l.length ≤ 2100) (hargs : ∀ m ∈ l, m.a.length ≤ 10) (i : Nat) (h0 : chk l = 0) (hi : i < l.length) (hbr : l[i].c = 93) (w : World) (hv : Mods w v l) :
    Calls Try.prog 8 #[v, .int .i64 (i : Int)] w (ClEnd l i w) := by
  obtain ⟨p, cap, rfl⟩ := hv.slice
  have HV := Lib.hid hv
  have HC := Lib.hid (fun w hv => check_any (.slice p l.length cap) l hmax hargs w hv)
  have HO := Lib.hid (fun w hv => open_valid (.slice p l.length cap) l h0 w hv)
  have HE : Hid (∀ w' k, Below w.heap.size w w' → IsCl l i k → ClEnd l i w (.returned (.tuple #[.int .i64 (k : Int), .int .i64 0])) w') := Lib.hid (fun w' k hb hk => ⟨hb, .inr (.inr ⟨h0, i, k, rfl, hk, rfl⟩)⟩)
  have HD := dep_shut h0 hi hbr
  have hge := okB_iff.1 (chk_zero.1 h0).2.2.1 i hi
  have hle := (opn_rng (chk_zero.1 h0).2.2.1 hi).2
  have HBr := Lib.hid hbr
  have HR := Lib.hid (fun k (hk : k < l.length) => opn_rng (chk_zero.1 h0).2.2.1 hk)
  rw [h0] at HC
  have t1 : ((l[i].c.toNat : Int) == 91) = false := by rw [hbr]; rfl
  have t2 : ((l[i].c.toNat : Int) != 91) = true := by rw [hbr]; rfl
  have t3 : ((l[i].c.toNat : Int) != 93) = false := by rw [hbr]; rfl
  have i1 : (i : Int) < (l.length : Int) := by omega
  have i0 := HD.1
  have HD2 := Lib.hid HD.2
  clear hv hargs h0 hbr HD
  go_enter Try.func8, Try.ntmps8
  go_wp2_with fail
  refine (HC.out _ HV.out).mono ?_
  rintro e w1 ⟨rfl, hb⟩
  have B1 := Lib.hid hb
  have HV1 := Lib.hid (HV.out.later hb)
  obtain ⟨b, off, cap', q, d, hp, e1, _, _, lb⟩ := (HV.out.later hb).at hi
  obtain rfl : p = some ⟨b, off, none⟩ := by cases hp; rfl
  clear hb hp
  obtain ⟨cn, hcn⟩ : ∃ cn, l[i].c.toNat = cn := ⟨_, rfl⟩
  rw [hcn] at e1 t1 t2 t3
  clear hcn
  go_wp2_with fail
  refine (HO.out _ HV1.out).mono ?_
  rintro e w2 ⟨p2, cap2, rfl, hb, hI⟩
  have e2 := (hb.cell (p := ⟨b, off + i * 2, none⟩) lb).trans e1
  have lb2 : b < w2.heap.size := Nat.lt_of_lt_of_le lb hb.size
  have B2 := Lib.hid (B1.out.trans (hb.mono B1.out.size))
  have HV2 := Lib.hid (HV1.out.later hb)
  have HI := Lib.hid hI
  clear hb hI B1 e1 lb
  obtain ⟨bo, oo, co, hpo, eo, lo⟩ := HI.out.at (k := i) (by rw [opnL_length]; exact hi)
  rw [opnL_length] at hpo
  obtain rfl : p2 = some ⟨bo, oo, none⟩ := by cases hpo; rfl
  rw [opnL_get hi] at eo
  obtain ⟨di, hdi⟩ : ∃ d, dep (l.take (i + 1)) = d := ⟨_, rfl⟩
  have HDi := Lib.hid hdi
  rw [hdi] at eo hge hle HD2
  clear hpo hdi
  go_wp2_with fail
  go_loopw [9] (fun n wr => ∃ k q : Nat, k < i ∧ n = .int .i64 (k : Int) ∧ wr = w2.drewN q ∧ di + 1 ≤ dep (l.take (k + 1)) ∧ ∀ j, (hj : j < l.length) → k < j → j < i → ¬ (l[j].c = 91 ∧ dep (l.take (j + 1)) = di + 1)) (fun n _ => (intOf n).toNat)
  case atStart =>
    refine ⟨i - 1, 0, by omega, by congr 1; omega, rfl, ?_, fun j _ h1 h2 => by omega⟩
    rw [show i - 1 + 1 = i by omega, HD2.out]; omega
  case round =>
    obtain ⟨k, q, hki, rfl, rfl, hdk1, hok⟩ := hrel
    have HK := Lib.hid hok
    have hk : k < l.length := by omega
    have hup := (HR.out k hk).2
    have HBk := Lib.hid (fun h => dep_back hk hge hdk1 h)
    clear hok
    obtain ⟨b3, o3, c3, hp3, e3, l3⟩ := HI.out.at (k := k) (by rw [opnL_length]; exact hk)
    rw [opnL_length] at hp3
    obtain ⟨rfl, rfl⟩ : b3 = bo ∧ o3 = oo := by cases hp3; exact ⟨rfl, rfl⟩
    rw [opnL_get hk] at e3
    obtain ⟨b4, o4, c4, q4, d4, hp4, e4, _, _, l4⟩ := HV2.out.at hk
    obtain ⟨rfl, rfl⟩ : b4 = b ∧ o4 = off := by cases hp4; exact ⟨rfl, rfl⟩
    obtain ⟨dk, hdk⟩ : ∃ d, dep (l.take (k + 1)) = d := ⟨_, rfl⟩
    have HDk := Lib.hid hdk
    rw [hdk] at e3 hdk1 hup
    have k1 : (k : Int) < (l.length : Int) := by omega
    clear hp3 hp4 hdk
    by_cases hc : l[k].c = 91
    · have s1 : ((l[k].c.toNat : Int) != 91) = false := by rw [hc]; rfl
      have HCk := Lib.hid hc
      obtain ⟨ck, hck⟩ : ∃ cn, l[k].c.toNat = cn := ⟨_, rfl⟩
      rw [hck] at e4 s1
      clear hck hc
      by_cases hd : dk = di + 1
      · have s2 : (dk != di + 1) = false := by rw [hd]; simp
        have HF : Hid (IsCl l i k) := Lib.hid ⟨hi, hk, .inr ⟨HBr.out, hki, HCk.out, by rw [HDk.out, HDi.out]; exact hd, fun j hj h1 h2 => by rw [HDi.out]; exact HK.out j hj h1 h2⟩⟩
        clear hd
        go_wp2_with fail
        go_quiet (fail)
        go_wp2_with fail
        go_ret2
        exact HE.out _ _ (below_drewN (below_drewN B2.out _) _) HF.out
      · have s2 : (dk != di + 1) = true := by rw [bne_iff_ne]; exact hd
        have hno : ¬ (l[k].c = 91 ∧ dep (l.take (k + 1)) = di + 1) := fun h => hd (by rw [← HDk.out]; exact h.2)
        obtain ⟨kp, hn⟩ := HBk.out hno
        have HG : Hid (∀ j, (hj : j < l.length) → k - 1 < j → j < i → ¬ (l[j].c = 91 ∧ dep (l.take (j + 1)) = di + 1)) := Lib.hid (fun j hj h1 h2 => by
          rcases Nat.lt_or_eq_of_le (show k ≤ j by omega) with h | h
          · exact HK.out j hj h h2
          · subst h; exact hno)
        have HN : Hid (di + 1 ≤ dep (l.take (k - 1 + 1))) := Lib.hid (by rw [show k - 1 + 1 = k by omega]; exact hn)
        clear hd hno hn
        go_wp2_with fail
        go_quiet (fail)
        go_wp2_with fail
        go_roundw
        case rel => exact ⟨k - 1, _, by omega, by congr 1; omega, rfl, HN.out, HG.out⟩
        case measure => simp [intOf]; omega
    · have s1 : ((l[k].c.toNat : Int) != 91) = true := by
        rw [show (91 : Int) = ((91 : UInt8).toNat : Int) from rfl, u8_ne]; simp [hc]
      have hno : ¬ (l[k].c = 91 ∧ dep (l.take (k + 1)) = di + 1) := fun h => hc h.1
      obtain ⟨kp, hn⟩ := HBk.out hno
      have HG : Hid (∀ j, (hj : j < l.length) → k - 1 < j → j < i → ¬ (l[j].c = 91 ∧ dep (l.take (j + 1)) = di + 1)) := Lib.hid (fun j hj h1 h2 => by
        rcases Nat.lt_or_eq_of_le (show k ≤ j by omega) with h | h
        · exact HK.out j hj h h2
        · subst h; exact hno)
      have HN : Hid (di + 1 ≤ dep (l.take (k - 1 + 1))) := Lib.hid (by rw [show k - 1 + 1 = k by omega]; exact hn)
      obtain ⟨ck, hck⟩ : ∃ cn, l[k].c.toNat = cn := ⟨_, rfl⟩
      rw [hck] at e4 s1
      clear hck hc hno hn
      go_wp2_with fail
      go_quiet (fail)
      go_wp2_with fail
      go_roundw
      case rel => exact ⟨k - 1, _, by omega, by congr 1; omega, rfl, HN.out, HG.out⟩
      case measure => simp [intOf]; omega
theorem close_any (v : Value) (l : List Md) (hmax : l.length ≤ 2100) (hargs : ∀ m ∈ l, m.a.length ≤ 10) (i : Int) (w : World) (hv : Mods w v l) :
    Calls Try.prog 8 #[v, .int .i64 i] w (ClEnd l i w) := by
  by_cases h0 : chk l = 0
  · by_cases h1 : i < 0
    · exact close_out v l hmax hargs i h0 (.inl h1) w hv
    · by_cases h2 : (l.length : Int) ≤ i
      · exact close_out v l hmax hargs i h0 (.inr ⟨by omega, h2⟩) w hv
      · obtain ⟨k, rfl⟩ : ∃ k : Nat, i = (k : Int) := ⟨i.toNat, by omega⟩
        have hk : k < l.length := by omega
        cases hb : braB l[k].c with
        | false => exact close_no v l hmax hargs k h0 hk hb w hv
        | true =>
          rcases bra_cases hb with h | h
          · exact close_fwd v l hmax hargs k h0 hk h w hv
          · exact close_rev v l hmax hargs k h0 hk h w hv
  · exact close_bad v l hmax hargs i h0 w hv
end Go.Proofs.Ytjjjopopalcokaa
