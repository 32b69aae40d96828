/-
  Texts of the proof, merged: BConLawG.
-/
import Derived.Test.YtlmofdmbcddddaaGreatDoorBContextBranchProofM17
namespace Go.Proofs.YtlmofdmbcddddaaGreatDoor
open Go.RowKit
open WM RM CM
set_option linter.unusedVariables false
set_option linter.unusedSimpArgs false
theorem bef_rng' (g : Bs) (u : List Md) (k : Nat) (hk : k < u.length) : -1 ≤ bef g u k ∧ bef g u k < u.length := by
  rcases bef_cases g u k with h | ⟨a, h, h2, _⟩ <;> omega
theorem beh_rng' (g : Bs) (u : List Md) (k : Nat) (hk : k < u.length) : -1 ≤ beh g u k ∧ beh g u k < u.length := by
  rcases beh_cases g hk with h | ⟨b, h, h1, h2, _⟩ <;> omega
theorem add_add' (ad : Addr) (x j : Nat) : (ad.add x).add j = ad.add (x + j) := by
  unfold Addr.add
  by_cases hx : x = 0
  · subst hx; simp
  · by_cases hj : j = 0
    · subst hj; simp [hx]
    · have : x + j ≠ 0 := by omega
      simp [hx, hj, this, Nat.add_assoc]
theorem ins_all {u b : List Md} {a : Nat} {P : Md → Prop} (hu : ∀ m ∈ u, P m) (hb : ∀ m ∈ b, P m) (h1 : P ⟨91, []⟩ := by simp) (h2 : P ⟨93, []⟩ := by simp) : ∀ m ∈ insL u b a, P m := by
  intro m hm
  unfold insL at hm
  simp only [List.mem_append, List.mem_cons] at hm
  rcases hm with h | (rfl | h) | rfl | h
  · exact hu m (List.mem_of_mem_take h)
  · exact h1
  · exact hb m h
  · exact h2
  · exact hu m (List.mem_of_mem_drop h)
theorem ins_hi' {u b : List Md} {a : Nat} (ha : a ≤ u.length) {k : Nat} (hk : a ≤ k) : md (insL u b a) (k + (b.length + 2)) = md u k := by
  unfold insL md
  simp only [List.getD_eq_getElem?_getD]
  rw [List.getElem?_append_right (by rw [List.length_take]; omega)]
  have : k + (b.length + 2) - (u.take a).length = (k - a) + (b.length + 2) := by rw [List.length_take]; omega
  rw [this, List.cons_append, show k - a + (b.length + 2) = (k - a + (b.length + 1)) + 1 by omega, List.getElem?_cons_succ, List.getElem?_append_right (by omega), show k - a + (b.length + 1) - b.length = (k - a) + 1 by omega, List.getElem?_cons_succ, List.getElem?_drop, show a + (k - a) = k by omega]
theorem moved_ask {g : Bs} {u b : List Md} {a : Nat} (ha : a ≤ u.length) (hu : chk u = 0) (hb : chk b = 0) (hg : ignB g = true) (hl : u.length + (b.length + 2) ≤ 2000) {k : Nat} (hk : k < u.length) (h1 : (md u k).c ≠ 91) (h2 : (md u k).c ≠ 93) :
    askC g (insL u b a) (mvd (k : Int) a (b.length + 2)) = 0 ∧ lefV g (insL u b a) (mvd (k : Int) a (b.length + 2)) = mvd (bef g u k) a (b.length + 2) ∧ rigV g (insL u b a) (mvd (k : Int) a (b.length + 2)) = mvd (beh g u k) a (b.length + 2) := by
  obtain ⟨b1, b2, b3, b4⟩ := chk_zero.1 hb
  have e1 := bef_ins (g := g) ha b3 b4 k
  have e2 := beh_ins (g := g) ha b3 b4 hk
  obtain ⟨j, hj, hj2, hj3⟩ : ∃ j : Nat, mvd (k : Int) a (b.length + 2) = (j : Int) ∧ j < (insL u b a).length ∧ md (insL u b a) j = md u k := by
    rw [ins_len ha]
    by_cases h : a ≤ k
    · exact ⟨k + (b.length + 2), by rw [mvd_hi (by omega)]; omega, by omega, ins_hi' ha h⟩
    · exact ⟨k, mvd_lo (by omega), by omega, ins_lo ha (by omega)⟩
  rw [hj, Int.toNat_natCast] at e1 e2
  rw [hj, ← e1, ← e2]
  exact ask_ok (ins_chk ha hu hb hl) hg hj2 (by rw [hj3]; exact h1) (by rw [hj3]; exact h2)
set_option maxHeartbeats 800000 in
theorem pmoved_any (i : Int) (a n : Nat) (N : Int) (hN : N = (n : Int)) (h1 : -10000 ≤ i) (h2 : i ≤ 10000) (h3 : n ≤ 10000) (w : World) : Calls Tryz.prog 8 #[.int .i64 i, .int .i64 (a : Int), .int .i64 N] w fun e w' => e = .returned (.int .i64 (mvd i a n)) ∧ w = w' := by
  by_cases h : (a : Int) ≤ i
  · have HX : Hid (mvd i a n = i + N) := Lib.hid (by rw [mvd_hi h, hN])
    have q1 : -100000 ≤ N := by omega
    have q2 : N ≤ 10000 := by omega
    clear hN h3
    go_enter Tryz.func8, Tryz.ntmps8
    go_wp2_with fail
    go_ret
    exact ⟨ret_int (by rw [HX.out]), rfl⟩
  · have HX : Hid (mvd i a n = i) := Lib.hid (mvd_lo (by omega))
    clear hN h3
    go_enter Tryz.func8, Tryz.ntmps8
    go_wp2_with fail
    go_ret
    exact ⟨ret_int HX.out.symm, rfl⟩
set_option maxRecDepth 100000 in
set_option maxHeartbeats 12800000 in
theorem cbranch_walk (wv : Value) (u : List Md) (hu : u.length ≤ 9223372036854775807) (hua : ∀ m ∈ u, m.a.length ≤ 9223372036854775807) (bv : Value) (bu : List Md) (hbl : bu.length ≤ 9223372036854775807) (hba : ∀ m ∈ bu, m.a.length ≤ 9223372036854775807) (at' : Int) (s : ByteArray) (hss : s.size ≤ 9223372036854775807) (w : World) (hw : Mods w wv u) (hbw : Mods w bv bu) (hnw : NilOr wv) (hnb : NilOr bv) (hcap : ∀ p n c, wv = .slice p n c → n ≤ c) (he : Env w) :
    Calls Tryz.prog 3 #[wv, bv, .int .i64 at', .string s] w fun e w' => e = .returned (.bool true) ∧ Below w.heap.size w w' := by
  have HE := Lib.hid he
  have KA := Lib.hid calive_any
  have KV := Lib.hid (cvalid_any (.slice none 0 0) wv [] s u (by simp) hss hu hua w (.none _ _) hw)
  have KW := Lib.hid (fun w h => cvalid_any (.slice none 0 0) bv [] s bu (by simp) hss hbl hba w (.none _ _) h)
  have KLv := Lib.hid (fun (v : Value) (l : List Md) (hl : l.length ≤ 9223372036854775807) (ha : ∀ m ∈ l, m.a.length ≤ 9223372036854775807) (i : Int) w h => pleft_any v l hl ha i s hss w h)
  have KRv := Lib.hid (fun (v : Value) (l : List Md) (hl : l.length ≤ 9223372036854775807) (ha : ∀ m ∈ l, m.a.length ≤ 9223372036854775807) (i : Int) w h => pright_any v l hl ha i s hss w h)
  obtain ⟨p, cap, rfl⟩ := hw.slice
  obtain ⟨pb, capb, rfl⟩ := hbw.slice
  have hlc := hcap _ _ _ rfl
  have HW := Lib.hid hw
  have HB := Lib.hid hbw
  clear hw hbw he hcap
  generalize lA s = g at KV KW KLv KRv
  cases hv : clawB g [] u with
  | false =>
    rw [hv] at KV
    clear hv
    go_enter Tryz.func3, Tryz.ntmps3
    go_wp2_with fail
    refine KV.out.mono ?_
    rintro e w1 ⟨rfl, hb⟩
    have B1 := Lib.hid hb
    clear hb
    go_wp2_with fail
    refine (KA.out _ (HE.out.later B1.out)).mono ?_
    rintro e wz ⟨rfl, hb⟩
    have Bz := Lib.hid (B1.out.trans (hb.mono B1.out.size))
    clear hb
    go_wp2_with fail
    go_ret
    exact ⟨rfl, Bz.out⟩
  | true =>
    rw [hv] at KV
    obtain ⟨_, _, hc0, _, hu3, h1⟩ := clawB_iff.1 hv
    have hg := (cchk_zero hc0).2.2
    have H1 := Lib.hid h1
    have HG := Lib.hid hg
    have HU3 := Lib.hid hu3
    clear hv hc0 h1 hg hu3
    cases hv : clawB g [] bu with
    | false =>
      rw [hv] at KW
      clear hv
      go_enter Tryz.func3, Tryz.ntmps3
      go_wp2_with fail
      refine KV.out.mono ?_
      rintro e w1 ⟨rfl, hb⟩
      have B1 := Lib.hid hb
      clear hb
      go_wp2_with fail
      refine (KW.out _ (HB.out.later B1.out)).mono ?_
      rintro e w2 ⟨rfl, hb⟩
      have B2 := Lib.hid (B1.out.trans (hb.mono B1.out.size))
      clear hb
      go_wp2_with fail
      refine (KA.out _ (HE.out.later B2.out)).mono ?_
      rintro e wz ⟨rfl, hb⟩
      have Bz := Lib.hid (B2.out.trans (hb.mono B2.out.size))
      clear hb
      go_wp2_with fail
      go_ret
      exact ⟨rfl, Bz.out⟩
    | true =>
      rw [hv] at KW
      obtain ⟨_, _, _, _, hb3, h1⟩ := clawB_iff.1 hv
      have HB1 := Lib.hid h1
      have HB3 := Lib.hid hb3
      clear hv h1 hb3
      go_enter Tryz.func3, Tryz.ntmps3
      go_wp2_with fail
      refine KV.out.mono ?_
      rintro e w1 ⟨rfl, hb⟩
      have B1 := Lib.hid hb
      clear hb
      go_wp2_with fail
      refine (KW.out _ (HB.out.later B1.out)).mono ?_
      rintro e w2 ⟨rfl, hb⟩
      have B2 := Lib.hid (B1.out.trans (hb.mono B1.out.size))
      have C2 := Lib.hid hb
      clear hb KV KW
      by_cases c1 : (250 : Int) < (u.length : Int)
      · go_wp2_with fail
        refine (KA.out _ (HE.out.later B2.out)).mono ?_
        rintro e wz ⟨rfl, hb⟩
        have Bz := Lib.hid (B2.out.trans (hb.mono B2.out.size))
        clear hb
        go_wp2_with fail
        go_ret
        exact ⟨rfl, Bz.out⟩
      by_cases c2 : (30 : Int) < (bu.length : Int)
      · go_wp2_with fail
        refine (KA.out _ (HE.out.later B2.out)).mono ?_
        rintro e wz ⟨rfl, hb⟩
        have Bz := Lib.hid (B2.out.trans (hb.mono B2.out.size))
        clear hb
        go_wp2_with fail
        go_ret
        exact ⟨rfl, Bz.out⟩
      by_cases c3 : at' < 0
      · go_wp2_with fail
        refine (KA.out _ (HE.out.later B2.out)).mono ?_
        rintro e wz ⟨rfl, hb⟩
        have Bz := Lib.hid (B2.out.trans (hb.mono B2.out.size))
        clear hb
        go_wp2_with fail
        go_ret
        exact ⟨rfl, Bz.out⟩
      by_cases c4 : (u.length : Int) < at'
      · go_wp2_with fail
        refine (KA.out _ (HE.out.later B2.out)).mono ?_
        rintro e wz ⟨rfl, hb⟩
        have Bz := Lib.hid (B2.out.trans (hb.mono B2.out.size))
        clear hb
        go_wp2_with fail
        go_ret
        exact ⟨rfl, Bz.out⟩
      obtain ⟨a, rfl⟩ : ∃ a : Nat, at' = (a : Int) := ⟨at'.toNat, by omega⟩
      have ha : a ≤ u.length := by omega
      rcases hnw with hpn | ⟨ad, nn, cc, hpn⟩
      · simp only [Value.slice.injEq] at hpn
        obtain ⟨rfl, hl0, rfl⟩ := hpn
        obtain rfl : u = [] := List.length_eq_zero_iff.1 hl0
        obtain rfl : a = 0 := by simpa using ha
        clear hl0 ha hlc c1 c3 c4
        rcases hnb with hpb | ⟨bd, nd, cd, hpb⟩
        · simp only [Value.slice.injEq] at hpb
          obtain ⟨rfl, hl0, rfl⟩ := hpb
          obtain rfl : bu = [] := List.length_eq_zero_iff.1 hl0
          clear hl0 c2
          obtain ⟨j0, hj, hy0, hy1, hy2⟩ := info_parts info_mod
          have HM : Hid (maxLen = 9223372036854775807) := Lib.hid rfl
          have O0 : Hid ((w2.alloc (.cells #[] 27)).ownsRow w2.heap.size 27 2 (.slice (some ⟨w2.heap.size, 0, none⟩) 0 0) 0 []) := Lib.hid (World.ownsRow_lit w2 #[] 0 (Nat.le_refl _) (by omega) (by simp))
          have Q0 : Hid (Below w2.heap.size w2 (w2.alloc (.cells #[] 27))) := Lib.hid ((Below.refl _ _).alloc (Nat.le_refl _) _)
          go_wp2_with (at_builtin; first
              | (refine j_append_nil rfl (.tmp 51) (.tmp 54) 22 rfl w2.heap.size 27 j0 2 Tryz.underlying22 hj _ _ _ rfl O0.out rfl ?_)
              | (refine wpList_append_own _ rfl (.tmp 56) (.tmp 58) 22 rfl w2.heap.size 27 j0 (.agg #[.int .u8 0, .slice none 0 0]) 2 32 Tryz.underlying22 hj hy0 hy1 hy2 rfl (by decide) _ _ _ rfl (O0.out.alloc (.cells #[.int .u8 91, .slice none 0 0] 27)) ⟨w2.heap.size + 1, 0, none⟩ 1 1 [.int .u8 91, .slice none 0 0] rfl rfl (fun j u h => by have h9 := two_new (w2.alloc (.cells #[] 27)) _ _ 27 j u h; simpa using h9) (by simp [Value.oneCell']) (by rw [HM.out]; omega) (by omega) (by rw [World.size_alloc]; have := Q0.out.size; omega) ?_
                 intro v2 X2 ho2 hg2 _
                 have O2 := Lib.hid ho2
                 have Q2 := Lib.hid ((Q0.out.alloc Q0.out.size (.cells #[.int .u8 91, .slice none 0 0] 27)).grown hg2 (by rw [World.size_alloc]; have := Q0.out.size; omega) (fun j e => (owns_lt O0.out j e).1))
                 clear ho2 hg2)
              | (refine j_append_nil rfl (.tmp 60) (.tmp 61) 22 rfl w2.heap.size 27 j0 2 Tryz.underlying22 hj _ _ _ rfl O2.out rfl ?_)
              | (refine wpList_append_own _ rfl (.tmp 63) (.tmp 65) 22 rfl w2.heap.size 27 j0 (.agg #[.int .u8 0, .slice none 0 0]) 2 32 Tryz.underlying22 hj hy0 hy1 hy2 rfl (by decide) _ _ _ rfl (O2.out.alloc (.cells #[.int .u8 93, .slice none 0 0] 27)) ⟨X2.heap.size, 0, none⟩ 1 1 [.int .u8 93, .slice none 0 0] rfl rfl (two_new _ _ _ _) (by simp [Value.oneCell']) (by rw [HM.out]; omega) (by omega) (by rw [World.size_alloc]; have := Q2.out.size; omega) ?_
                 intro v4 X4 ho4 hg4 _
                 have O4 := Lib.hid ho4
                 have Q4 := Lib.hid ((Q2.out.alloc Q2.out.size (.cells #[.int .u8 93, .slice none 0 0] 27)).grown hg4 (by rw [World.size_alloc]; have := Q2.out.size; omega) (fun j e => (owns_lt O2.out j e).1))
                 clear ho4 hg4)
              | (refine j_append_nil rfl (.tmp 67) (.tmp 70) 22 rfl w2.heap.size 27 j0 2 Tryz.underlying22 hj _ _ _ rfl O4.out rfl ?_)
              )
          have BX := Lib.hid (B2.out.trans (Q4.out.mono B2.out.size))
          go_loopw [11] (fun i wr => i = .int .i64 0 ∧ wr = X4) (fun _ _ => 0)
          case atStart => exact ⟨rfl, rfl⟩
          case round =>
            obtain ⟨rfl, rfl⟩ := hrel
            go_wp2_with fail
            refine (KA.out _ (HE.out.later BX.out)).mono ?_
            rintro e wz ⟨rfl, hb⟩
            have Bz := Lib.hid (BX.out.trans (hb.mono BX.out.size))
            clear hb
            go_wp2_with fail
            go_ret
            exact ⟨rfl, Bz.out⟩
        · simp only [Value.slice.injEq] at hpb
          obtain ⟨rfl, -, rfl⟩ := hpb
          obtain ⟨nb, hn, hr⟩ := mods_news (HB.out.later B2.out)
          have HNb := Lib.hid hn
          have HRb := Lib.hid hr
          have HO2 : Hid (∀ u ∈ nb, u.oneCell' = true) := Lib.hid hn.ones
          have HT2 : Hid (nb.length = bu.length * 2) := Lib.hid hn.len
          have b2 : bu.length ≤ 30 := by omega
          clear hn hr
          obtain ⟨j0, hj, hy0, hy1, hy2⟩ := info_parts info_mod
          have HM : Hid (maxLen = 9223372036854775807) := Lib.hid rfl
          have O0 : Hid ((w2.alloc (.cells #[] 27)).ownsRow w2.heap.size 27 2 (.slice (some ⟨w2.heap.size, 0, none⟩) 0 0) 0 []) := Lib.hid (World.ownsRow_lit w2 #[] 0 (Nat.le_refl _) (by omega) (by simp))
          have Q0 : Hid (Below w2.heap.size w2 (w2.alloc (.cells #[] 27))) := Lib.hid ((Below.refl _ _).alloc (Nat.le_refl _) _)
          go_wp2_with (at_builtin; first
              | (refine j_append_nil rfl (.tmp 51) (.tmp 54) 22 rfl w2.heap.size 27 j0 2 Tryz.underlying22 hj _ _ _ rfl O0.out rfl ?_)
              | (refine wpList_append_own _ rfl (.tmp 56) (.tmp 58) 22 rfl w2.heap.size 27 j0 (.agg #[.int .u8 0, .slice none 0 0]) 2 32 Tryz.underlying22 hj hy0 hy1 hy2 rfl (by decide) _ _ _ rfl (O0.out.alloc (.cells #[.int .u8 91, .slice none 0 0] 27)) ⟨w2.heap.size + 1, 0, none⟩ 1 1 [.int .u8 91, .slice none 0 0] rfl rfl (fun j u h => by have h9 := two_new (w2.alloc (.cells #[] 27)) _ _ 27 j u h; simpa using h9) (by simp [Value.oneCell']) (by rw [HM.out]; omega) (by omega) (by rw [World.size_alloc]; have := Q0.out.size; omega) ?_
                 intro v2 X2 ho2 hg2 _
                 have O2 := Lib.hid ho2
                 have Q2 := Lib.hid ((Q0.out.alloc Q0.out.size (.cells #[.int .u8 91, .slice none 0 0] 27)).grown hg2 (by rw [World.size_alloc]; have := Q0.out.size; omega) (fun j e => (owns_lt O0.out j e).1))
                 clear ho2 hg2)
              | (refine wpList_append_own _ rfl (.tmp 60) (.tmp 61) 22 rfl w2.heap.size 27 j0 (.agg #[.int .u8 0, .slice none 0 0]) 2 32 Tryz.underlying22 hj hy0 hy1 hy2 rfl (by decide) _ _ _ rfl O2.out bd bu.length capb nb rfl HT2.out (fun j u h => HRb.out _ Q2.out j u h) HO2.out (by rw [HM.out]; omega) (by omega) (by have := Q2.out.size; omega) ?_
                 intro v3 X3 ho3 hg3 _
                 have O3 := Lib.hid ho3
                 have Q3 := Lib.hid (Q2.out.grown hg3 Q2.out.size (fun j e => (owns_lt O2.out j e).1))
                 clear ho3 hg3)
              | (refine wpList_append_own _ rfl (.tmp 63) (.tmp 65) 22 rfl w2.heap.size 27 j0 (.agg #[.int .u8 0, .slice none 0 0]) 2 32 Tryz.underlying22 hj hy0 hy1 hy2 rfl (by decide) _ _ _ rfl (O3.out.alloc (.cells #[.int .u8 93, .slice none 0 0] 27)) ⟨X3.heap.size, 0, none⟩ 1 1 [.int .u8 93, .slice none 0 0] rfl rfl (two_new _ _ _ _) (by simp [Value.oneCell']) (by rw [HM.out]; omega) (by omega) (by rw [World.size_alloc]; have := Q3.out.size; omega) ?_
                 intro v4 X4 ho4 hg4 _
                 have O4 := Lib.hid ho4
                 have Q4 := Lib.hid ((Q3.out.alloc Q3.out.size (.cells #[.int .u8 93, .slice none 0 0] 27)).grown hg4 (by rw [World.size_alloc]; have := Q3.out.size; omega) (fun j e => (owns_lt O3.out j e).1))
                 clear ho4 hg4)
              | (refine j_append_nil rfl (.tmp 67) (.tmp 70) 22 rfl w2.heap.size 27 j0 2 Tryz.underlying22 hj _ _ _ rfl O4.out rfl ?_)
              )
          have BX := Lib.hid (B2.out.trans (Q4.out.mono B2.out.size))
          go_loopw [11] (fun i wr => i = .int .i64 0 ∧ wr = X4) (fun _ _ => 0)
          case atStart => exact ⟨rfl, rfl⟩
          case round =>
            obtain ⟨rfl, rfl⟩ := hrel
            go_wp2_with fail
            refine (KA.out _ (HE.out.later BX.out)).mono ?_
            rintro e wz ⟨rfl, hb⟩
            have Bz := Lib.hid (BX.out.trans (hb.mono BX.out.size))
            clear hb
            go_wp2_with fail
            go_ret
            exact ⟨rfl, Bz.out⟩
      · simp only [Value.slice.injEq] at hpn
        obtain ⟨rfl, -, rfl⟩ := hpn
        by_cases hz : u.length = 0
        · obtain rfl : u = [] := List.length_eq_zero_iff.1 hz
          obtain rfl : a = 0 := by simpa using ha
          have HTz : Hid (([] : List Value).length = 0 * 2) := Lib.hid rfl
          clear hz ha hlc c1 c3 c4
          by_cases hq : cap = 0
          · subst hq
            rcases hnb with hpb | ⟨bd, nd, cd, hpb⟩
            · simp only [Value.slice.injEq] at hpb
              obtain ⟨rfl, hl0, rfl⟩ := hpb
              obtain rfl : bu = [] := List.length_eq_zero_iff.1 hl0
              clear hl0 c2
              obtain ⟨j0, hj, hy0, hy1, hy2⟩ := info_parts info_mod
              have HM : Hid (maxLen = 9223372036854775807) := Lib.hid rfl
              have O0 : Hid ((w2.alloc (.cells #[] 27)).ownsRow w2.heap.size 27 2 (.slice (some ⟨w2.heap.size, 0, none⟩) 0 0) 0 []) := Lib.hid (World.ownsRow_lit w2 #[] 0 (Nat.le_refl _) (by omega) (by simp))
              have Q0 : Hid (Below w2.heap.size w2 (w2.alloc (.cells #[] 27))) := Lib.hid ((Below.refl _ _).alloc (Nat.le_refl _) _)
              go_wp2_with (at_builtin; first
                  | (refine wpList_append_own _ rfl (.tmp 51) (.tmp 54) 22 rfl w2.heap.size 27 j0 (.agg #[.int .u8 0, .slice none 0 0]) 2 32 Tryz.underlying22 hj hy0 hy1 hy2 rfl (by decide) _ _ _ rfl O0.out _ _ _ [] rfl HTz.out (by simp) (by simp) (by rw [HM.out]; omega) (by omega) (by have := Q0.out.size; omega) ?_
                     intro v1 X1 ho1 hg1 _
                     have O1 := Lib.hid ho1
                     have Q1 := Lib.hid (Q0.out.grown hg1 Q0.out.size (fun j e => (owns_lt O0.out j e).1))
                     clear ho1 hg1)
                  | (refine wpList_append_own _ rfl (.tmp 56) (.tmp 58) 22 rfl w2.heap.size 27 j0 (.agg #[.int .u8 0, .slice none 0 0]) 2 32 Tryz.underlying22 hj hy0 hy1 hy2 rfl (by decide) _ _ _ rfl (O1.out.alloc (.cells #[.int .u8 91, .slice none 0 0] 27)) ⟨X1.heap.size, 0, none⟩ 1 1 [.int .u8 91, .slice none 0 0] rfl rfl (two_new _ _ _ _) (by simp [Value.oneCell']) (by rw [HM.out]; omega) (by omega) (by rw [World.size_alloc]; have := Q1.out.size; omega) ?_
                     intro v2 X2 ho2 hg2 _
                     have O2 := Lib.hid ho2
                     have Q2 := Lib.hid ((Q1.out.alloc Q1.out.size (.cells #[.int .u8 91, .slice none 0 0] 27)).grown hg2 (by rw [World.size_alloc]; have := Q1.out.size; omega) (fun j e => (owns_lt O1.out j e).1))
                     clear ho2 hg2)
                  | (refine j_append_nil rfl (.tmp 60) (.tmp 61) 22 rfl w2.heap.size 27 j0 2 Tryz.underlying22 hj _ _ _ rfl O2.out rfl ?_)
                  | (refine wpList_append_own _ rfl (.tmp 63) (.tmp 65) 22 rfl w2.heap.size 27 j0 (.agg #[.int .u8 0, .slice none 0 0]) 2 32 Tryz.underlying22 hj hy0 hy1 hy2 rfl (by decide) _ _ _ rfl (O2.out.alloc (.cells #[.int .u8 93, .slice none 0 0] 27)) ⟨X2.heap.size, 0, none⟩ 1 1 [.int .u8 93, .slice none 0 0] rfl rfl (two_new _ _ _ _) (by simp [Value.oneCell']) (by rw [HM.out]; omega) (by omega) (by rw [World.size_alloc]; have := Q2.out.size; omega) ?_
                     intro v4 X4 ho4 hg4 _
                     have O4 := Lib.hid ho4
                     have Q4 := Lib.hid ((Q2.out.alloc Q2.out.size (.cells #[.int .u8 93, .slice none 0 0] 27)).grown hg4 (by rw [World.size_alloc]; have := Q2.out.size; omega) (fun j e => (owns_lt O2.out j e).1))
                     clear ho4 hg4)
                  | (refine wpList_append_own _ rfl (.tmp 67) (.tmp 70) 22 rfl w2.heap.size 27 j0 (.agg #[.int .u8 0, .slice none 0 0]) 2 32 Tryz.underlying22 hj hy0 hy1 hy2 rfl (by decide) _ _ _ rfl O4.out _ _ _ [] rfl HTz.out (by simp) (by simp) (by rw [HM.out]; omega) (by omega) (by have := Q4.out.size; omega) ?_
                     intro v5 X5 ho5 hg5 _
                     have O5 := Lib.hid ho5
                     have Q5 := Lib.hid (Q4.out.grown hg5 Q4.out.size (fun j e => (owns_lt O4.out j e).1))
                     clear ho5 hg5)
                  )
              have BX := Lib.hid (B2.out.trans (Q5.out.mono B2.out.size))
              go_loopw [11] (fun i wr => i = .int .i64 0 ∧ wr = X5) (fun _ _ => 0)
              case atStart => exact ⟨rfl, rfl⟩
              case round =>
                obtain ⟨rfl, rfl⟩ := hrel
                go_wp2_with fail
                refine (KA.out _ (HE.out.later BX.out)).mono ?_
                rintro e wz ⟨rfl, hb⟩
                have Bz := Lib.hid (BX.out.trans (hb.mono BX.out.size))
                clear hb
                go_wp2_with fail
                go_ret
                exact ⟨rfl, Bz.out⟩
            · simp only [Value.slice.injEq] at hpb
              obtain ⟨rfl, -, rfl⟩ := hpb
              obtain ⟨nb, hn, hr⟩ := mods_news (HB.out.later B2.out)
              have HNb := Lib.hid hn
              have HRb := Lib.hid hr
              have HO2 : Hid (∀ u ∈ nb, u.oneCell' = true) := Lib.hid hn.ones
              have HT2 : Hid (nb.length = bu.length * 2) := Lib.hid hn.len
              have b2 : bu.length ≤ 30 := by omega
              clear hn hr
              obtain ⟨j0, hj, hy0, hy1, hy2⟩ := info_parts info_mod
              have HM : Hid (maxLen = 9223372036854775807) := Lib.hid rfl
              have O0 : Hid ((w2.alloc (.cells #[] 27)).ownsRow w2.heap.size 27 2 (.slice (some ⟨w2.heap.size, 0, none⟩) 0 0) 0 []) := Lib.hid (World.ownsRow_lit w2 #[] 0 (Nat.le_refl _) (by omega) (by simp))
              have Q0 : Hid (Below w2.heap.size w2 (w2.alloc (.cells #[] 27))) := Lib.hid ((Below.refl _ _).alloc (Nat.le_refl _) _)
              go_wp2_with (at_builtin; first
                  | (refine wpList_append_own _ rfl (.tmp 51) (.tmp 54) 22 rfl w2.heap.size 27 j0 (.agg #[.int .u8 0, .slice none 0 0]) 2 32 Tryz.underlying22 hj hy0 hy1 hy2 rfl (by decide) _ _ _ rfl O0.out _ _ _ [] rfl HTz.out (by simp) (by simp) (by rw [HM.out]; omega) (by omega) (by have := Q0.out.size; omega) ?_
                     intro v1 X1 ho1 hg1 _
                     have O1 := Lib.hid ho1
                     have Q1 := Lib.hid (Q0.out.grown hg1 Q0.out.size (fun j e => (owns_lt O0.out j e).1))
                     clear ho1 hg1)
                  | (refine wpList_append_own _ rfl (.tmp 56) (.tmp 58) 22 rfl w2.heap.size 27 j0 (.agg #[.int .u8 0, .slice none 0 0]) 2 32 Tryz.underlying22 hj hy0 hy1 hy2 rfl (by decide) _ _ _ rfl (O1.out.alloc (.cells #[.int .u8 91, .slice none 0 0] 27)) ⟨X1.heap.size, 0, none⟩ 1 1 [.int .u8 91, .slice none 0 0] rfl rfl (two_new _ _ _ _) (by simp [Value.oneCell']) (by rw [HM.out]; omega) (by omega) (by rw [World.size_alloc]; have := Q1.out.size; omega) ?_
                     intro v2 X2 ho2 hg2 _
                     have O2 := Lib.hid ho2
                     have Q2 := Lib.hid ((Q1.out.alloc Q1.out.size (.cells #[.int .u8 91, .slice none 0 0] 27)).grown hg2 (by rw [World.size_alloc]; have := Q1.out.size; omega) (fun j e => (owns_lt O1.out j e).1))
                     clear ho2 hg2)
                  | (refine wpList_append_own _ rfl (.tmp 60) (.tmp 61) 22 rfl w2.heap.size 27 j0 (.agg #[.int .u8 0, .slice none 0 0]) 2 32 Tryz.underlying22 hj hy0 hy1 hy2 rfl (by decide) _ _ _ rfl O2.out bd bu.length capb nb rfl HT2.out (fun j u h => HRb.out _ Q2.out j u h) HO2.out (by rw [HM.out]; omega) (by omega) (by have := Q2.out.size; omega) ?_
                     intro v3 X3 ho3 hg3 _
                     have O3 := Lib.hid ho3
                     have Q3 := Lib.hid (Q2.out.grown hg3 Q2.out.size (fun j e => (owns_lt O2.out j e).1))
                     clear ho3 hg3)
                  | (refine wpList_append_own _ rfl (.tmp 63) (.tmp 65) 22 rfl w2.heap.size 27 j0 (.agg #[.int .u8 0, .slice none 0 0]) 2 32 Tryz.underlying22 hj hy0 hy1 hy2 rfl (by decide) _ _ _ rfl (O3.out.alloc (.cells #[.int .u8 93, .slice none 0 0] 27)) ⟨X3.heap.size, 0, none⟩ 1 1 [.int .u8 93, .slice none 0 0] rfl rfl (two_new _ _ _ _) (by simp [Value.oneCell']) (by rw [HM.out]; omega) (by omega) (by rw [World.size_alloc]; have := Q3.out.size; omega) ?_
                     intro v4 X4 ho4 hg4 _
                     have O4 := Lib.hid ho4
                     have Q4 := Lib.hid ((Q3.out.alloc Q3.out.size (.cells #[.int .u8 93, .slice none 0 0] 27)).grown hg4 (by rw [World.size_alloc]; have := Q3.out.size; omega) (fun j e => (owns_lt O3.out j e).1))
                     clear ho4 hg4)
                  | (refine wpList_append_own _ rfl (.tmp 67) (.tmp 70) 22 rfl w2.heap.size 27 j0 (.agg #[.int .u8 0, .slice none 0 0]) 2 32 Tryz.underlying22 hj hy0 hy1 hy2 rfl (by decide) _ _ _ rfl O4.out _ _ _ [] rfl HTz.out (by simp) (by simp) (by rw [HM.out]; omega) (by omega) (by have := Q4.out.size; omega) ?_
                     intro v5 X5 ho5 hg5 _
                     have O5 := Lib.hid ho5
                     have Q5 := Lib.hid (Q4.out.grown hg5 Q4.out.size (fun j e => (owns_lt O4.out j e).1))
                     clear ho5 hg5)
                  )
              have BX := Lib.hid (B2.out.trans (Q5.out.mono B2.out.size))
              go_loopw [11] (fun i wr => i = .int .i64 0 ∧ wr = X5) (fun _ _ => 0)
              case atStart => exact ⟨rfl, rfl⟩
              case round =>
                obtain ⟨rfl, rfl⟩ := hrel
                go_wp2_with fail
                refine (KA.out _ (HE.out.later BX.out)).mono ?_
                rintro e wz ⟨rfl, hb⟩
                have Bz := Lib.hid (BX.out.trans (hb.mono BX.out.size))
                clear hb
                go_wp2_with fail
                go_ret
                exact ⟨rfl, Bz.out⟩
          · rcases hnb with hpb | ⟨bd, nd, cd, hpb⟩
            · simp only [Value.slice.injEq] at hpb
              obtain ⟨rfl, hl0, rfl⟩ := hpb
              obtain rfl : bu = [] := List.length_eq_zero_iff.1 hl0
              clear hl0 c2
              obtain ⟨j0, hj, hy0, hy1, hy2⟩ := info_parts info_mod
              have HM : Hid (maxLen = 9223372036854775807) := Lib.hid rfl
              have O0 : Hid ((w2.alloc (.cells #[] 27)).ownsRow w2.heap.size 27 2 (.slice (some ⟨w2.heap.size, 0, none⟩) 0 0) 0 []) := Lib.hid (World.ownsRow_lit w2 #[] 0 (Nat.le_refl _) (by omega) (by simp))
              have Q0 : Hid (Below w2.heap.size w2 (w2.alloc (.cells #[] 27))) := Lib.hid ((Below.refl _ _).alloc (Nat.le_refl _) _)
              go_wp2_with (at_builtin; first
                  | (refine wpList_append_own _ rfl (.tmp 51) (.tmp 54) 22 rfl w2.heap.size 27 j0 (.agg #[.int .u8 0, .slice none 0 0]) 2 32 Tryz.underlying22 hj hy0 hy1 hy2 rfl (by decide) _ _ _ rfl O0.out _ _ _ [] rfl HTz.out (by simp) (by simp) (by rw [HM.out]; omega) (by omega) (by have := Q0.out.size; omega) ?_
                     intro v1 X1 ho1 hg1 _
                     have O1 := Lib.hid ho1
                     have Q1 := Lib.hid (Q0.out.grown hg1 Q0.out.size (fun j e => (owns_lt O0.out j e).1))
                     clear ho1 hg1)
                  | (refine wpList_append_own _ rfl (.tmp 56) (.tmp 58) 22 rfl w2.heap.size 27 j0 (.agg #[.int .u8 0, .slice none 0 0]) 2 32 Tryz.underlying22 hj hy0 hy1 hy2 rfl (by decide) _ _ _ rfl (O1.out.alloc (.cells #[.int .u8 91, .slice none 0 0] 27)) ⟨X1.heap.size, 0, none⟩ 1 1 [.int .u8 91, .slice none 0 0] rfl rfl (two_new _ _ _ _) (by simp [Value.oneCell']) (by rw [HM.out]; omega) (by omega) (by rw [World.size_alloc]; have := Q1.out.size; omega) ?_
                     intro v2 X2 ho2 hg2 _
                     have O2 := Lib.hid ho2
                     have Q2 := Lib.hid ((Q1.out.alloc Q1.out.size (.cells #[.int .u8 91, .slice none 0 0] 27)).grown hg2 (by rw [World.size_alloc]; have := Q1.out.size; omega) (fun j e => (owns_lt O1.out j e).1))
                     clear ho2 hg2)
                  | (refine j_append_nil rfl (.tmp 60) (.tmp 61) 22 rfl w2.heap.size 27 j0 2 Tryz.underlying22 hj _ _ _ rfl O2.out rfl ?_)
                  | (refine wpList_append_own _ rfl (.tmp 63) (.tmp 65) 22 rfl w2.heap.size 27 j0 (.agg #[.int .u8 0, .slice none 0 0]) 2 32 Tryz.underlying22 hj hy0 hy1 hy2 rfl (by decide) _ _ _ rfl (O2.out.alloc (.cells #[.int .u8 93, .slice none 0 0] 27)) ⟨X2.heap.size, 0, none⟩ 1 1 [.int .u8 93, .slice none 0 0] rfl rfl (two_new _ _ _ _) (by simp [Value.oneCell']) (by rw [HM.out]; omega) (by omega) (by rw [World.size_alloc]; have := Q2.out.size; omega) ?_
                     intro v4 X4 ho4 hg4 _
                     have O4 := Lib.hid ho4
                     have Q4 := Lib.hid ((Q2.out.alloc Q2.out.size (.cells #[.int .u8 93, .slice none 0 0] 27)).grown hg4 (by rw [World.size_alloc]; have := Q2.out.size; omega) (fun j e => (owns_lt O2.out j e).1))
                     clear ho4 hg4)
                  | (refine wpList_append_own _ rfl (.tmp 67) (.tmp 70) 22 rfl w2.heap.size 27 j0 (.agg #[.int .u8 0, .slice none 0 0]) 2 32 Tryz.underlying22 hj hy0 hy1 hy2 rfl (by decide) _ _ _ rfl O4.out _ _ _ [] rfl HTz.out (by simp) (by simp) (by rw [HM.out]; omega) (by omega) (by have := Q4.out.size; omega) ?_
                     intro v5 X5 ho5 hg5 _
                     have O5 := Lib.hid ho5
                     have Q5 := Lib.hid (Q4.out.grown hg5 Q4.out.size (fun j e => (owns_lt O4.out j e).1))
                     clear ho5 hg5)
                  )
              have BX := Lib.hid (B2.out.trans (Q5.out.mono B2.out.size))
              go_loopw [11] (fun i wr => i = .int .i64 0 ∧ wr = X5) (fun _ _ => 0)
              case atStart => exact ⟨rfl, rfl⟩
              case round =>
                obtain ⟨rfl, rfl⟩ := hrel
                go_wp2_with fail
                refine (KA.out _ (HE.out.later BX.out)).mono ?_
                rintro e wz ⟨rfl, hb⟩
                have Bz := Lib.hid (BX.out.trans (hb.mono BX.out.size))
                clear hb
                go_wp2_with fail
                go_ret
                exact ⟨rfl, Bz.out⟩
            · simp only [Value.slice.injEq] at hpb
              obtain ⟨rfl, -, rfl⟩ := hpb
              obtain ⟨nb, hn, hr⟩ := mods_news (HB.out.later B2.out)
              have HNb := Lib.hid hn
              have HRb := Lib.hid hr
              have HO2 : Hid (∀ u ∈ nb, u.oneCell' = true) := Lib.hid hn.ones
              have HT2 : Hid (nb.length = bu.length * 2) := Lib.hid hn.len
              have b2 : bu.length ≤ 30 := by omega
              clear hn hr
              obtain ⟨j0, hj, hy0, hy1, hy2⟩ := info_parts info_mod
              have HM : Hid (maxLen = 9223372036854775807) := Lib.hid rfl
              have O0 : Hid ((w2.alloc (.cells #[] 27)).ownsRow w2.heap.size 27 2 (.slice (some ⟨w2.heap.size, 0, none⟩) 0 0) 0 []) := Lib.hid (World.ownsRow_lit w2 #[] 0 (Nat.le_refl _) (by omega) (by simp))
              have Q0 : Hid (Below w2.heap.size w2 (w2.alloc (.cells #[] 27))) := Lib.hid ((Below.refl _ _).alloc (Nat.le_refl _) _)
              go_wp2_with (at_builtin; first
                  | (refine wpList_append_own _ rfl (.tmp 51) (.tmp 54) 22 rfl w2.heap.size 27 j0 (.agg #[.int .u8 0, .slice none 0 0]) 2 32 Tryz.underlying22 hj hy0 hy1 hy2 rfl (by decide) _ _ _ rfl O0.out _ _ _ [] rfl HTz.out (by simp) (by simp) (by rw [HM.out]; omega) (by omega) (by have := Q0.out.size; omega) ?_
                     intro v1 X1 ho1 hg1 _
                     have O1 := Lib.hid ho1
                     have Q1 := Lib.hid (Q0.out.grown hg1 Q0.out.size (fun j e => (owns_lt O0.out j e).1))
                     clear ho1 hg1)
                  | (refine wpList_append_own _ rfl (.tmp 56) (.tmp 58) 22 rfl w2.heap.size 27 j0 (.agg #[.int .u8 0, .slice none 0 0]) 2 32 Tryz.underlying22 hj hy0 hy1 hy2 rfl (by decide) _ _ _ rfl (O1.out.alloc (.cells #[.int .u8 91, .slice none 0 0] 27)) ⟨X1.heap.size, 0, none⟩ 1 1 [.int .u8 91, .slice none 0 0] rfl rfl (two_new _ _ _ _) (by simp [Value.oneCell']) (by rw [HM.out]; omega) (by omega) (by rw [World.size_alloc]; have := Q1.out.size; omega) ?_
                     intro v2 X2 ho2 hg2 _
                     have O2 := Lib.hid ho2
                     have Q2 := Lib.hid ((Q1.out.alloc Q1.out.size (.cells #[.int .u8 91, .slice none 0 0] 27)).grown hg2 (by rw [World.size_alloc]; have := Q1.out.size; omega) (fun j e => (owns_lt O1.out j e).1))
                     clear ho2 hg2)
                  | (refine wpList_append_own _ rfl (.tmp 60) (.tmp 61) 22 rfl w2.heap.size 27 j0 (.agg #[.int .u8 0, .slice none 0 0]) 2 32 Tryz.underlying22 hj hy0 hy1 hy2 rfl (by decide) _ _ _ rfl O2.out bd bu.length capb nb rfl HT2.out (fun j u h => HRb.out _ Q2.out j u h) HO2.out (by rw [HM.out]; omega) (by omega) (by have := Q2.out.size; omega) ?_
                     intro v3 X3 ho3 hg3 _
                     have O3 := Lib.hid ho3
                     have Q3 := Lib.hid (Q2.out.grown hg3 Q2.out.size (fun j e => (owns_lt O2.out j e).1))
                     clear ho3 hg3)
                  | (refine wpList_append_own _ rfl (.tmp 63) (.tmp 65) 22 rfl w2.heap.size 27 j0 (.agg #[.int .u8 0, .slice none 0 0]) 2 32 Tryz.underlying22 hj hy0 hy1 hy2 rfl (by decide) _ _ _ rfl (O3.out.alloc (.cells #[.int .u8 93, .slice none 0 0] 27)) ⟨X3.heap.size, 0, none⟩ 1 1 [.int .u8 93, .slice none 0 0] rfl rfl (two_new _ _ _ _) (by simp [Value.oneCell']) (by rw [HM.out]; omega) (by omega) (by rw [World.size_alloc]; have := Q3.out.size; omega) ?_
                     intro v4 X4 ho4 hg4 _
                     have O4 := Lib.hid ho4
                     have Q4 := Lib.hid ((Q3.out.alloc Q3.out.size (.cells #[.int .u8 93, .slice none 0 0] 27)).grown hg4 (by rw [World.size_alloc]; have := Q3.out.size; omega) (fun j e => (owns_lt O3.out j e).1))
                     clear ho4 hg4)
                  | (refine wpList_append_own _ rfl (.tmp 67) (.tmp 70) 22 rfl w2.heap.size 27 j0 (.agg #[.int .u8 0, .slice none 0 0]) 2 32 Tryz.underlying22 hj hy0 hy1 hy2 rfl (by decide) _ _ _ rfl O4.out _ _ _ [] rfl HTz.out (by simp) (by simp) (by rw [HM.out]; omega) (by omega) (by have := Q4.out.size; omega) ?_
                     intro v5 X5 ho5 hg5 _
                     have O5 := Lib.hid ho5
                     have Q5 := Lib.hid (Q4.out.grown hg5 Q4.out.size (fun j e => (owns_lt O4.out j e).1))
                     clear ho5 hg5)
                  )
              have BX := Lib.hid (B2.out.trans (Q5.out.mono B2.out.size))
              go_loopw [11] (fun i wr => i = .int .i64 0 ∧ wr = X5) (fun _ _ => 0)
              case atStart => exact ⟨rfl, rfl⟩
              case round =>
                obtain ⟨rfl, rfl⟩ := hrel
                go_wp2_with fail
                refine (KA.out _ (HE.out.later BX.out)).mono ?_
                rintro e wz ⟨rfl, hb⟩
                have Bz := Lib.hid (BX.out.trans (hb.mono BX.out.size))
                clear hb
                go_wp2_with fail
                go_ret
                exact ⟨rfl, Bz.out⟩
        · by_cases hfull : (cap : Int) = (a : Int)
          · have a1 : (0 : Int) ≤ (a : Int) := by omega
            have a2 : (a : Int) ≤ (cap : Int) := by omega
            obtain rfl : a = cap := by omega
            have hla : u.length = a := by omega
            have HLa := Lib.hid hla
            have HT5 : Hid (([] : List Value).length = (u.length - a) * 2) := Lib.hid (by rw [hla]; simp)
            obtain ⟨nw, hn, hr⟩ := mods_news (HW.out.later B2.out)
            have HNw := Lib.hid hn
            have HRw := Lib.hid hr
            have HO1 : Hid (∀ u ∈ nw.take (a * 2), u.oneCell' = true) := Lib.hid (fun u h => hn.ones u (List.mem_of_mem_take h))
            have HT1 : Hid ((nw.take (a * 2)).length = a * 2) := Lib.hid (by rw [List.length_take, hn.len]; omega)
            have HTk : Hid (∀ (j : Nat) (u : Value), (nw.take (a * 2))[j]? = some u → nw[j]? = some u) := Lib.hid (fun j u h => by
              rw [List.getElem?_take] at h
              split at h
              · exact h
              · cases h)
            clear hn hr hla hlc hfull
            have hq : ¬ a = 0 := by have := HLa.out; omega
            have hq2 : ¬ (a : Int) = 0 := by omega
            rcases hnb with hpb | ⟨bd, nd, cd, hpb⟩
            · simp only [Value.slice.injEq] at hpb
              obtain ⟨rfl, hl0, rfl⟩ := hpb
              obtain rfl : bu = [] := List.length_eq_zero_iff.1 hl0
              clear hl0 c2
              obtain ⟨j0, hj, hy0, hy1, hy2⟩ := info_parts info_mod
              have HM : Hid (maxLen = 9223372036854775807) := Lib.hid rfl
              have O0 : Hid ((w2.alloc (.cells #[] 27)).ownsRow w2.heap.size 27 2 (.slice (some ⟨w2.heap.size, 0, none⟩) 0 0) 0 []) := Lib.hid (World.ownsRow_lit w2 #[] 0 (Nat.le_refl _) (by omega) (by simp))
              have Q0 : Hid (Below w2.heap.size w2 (w2.alloc (.cells #[] 27))) := Lib.hid ((Below.refl _ _).alloc (Nat.le_refl _) _)
              go_wp2_with (at_builtin; first
                  | (refine wpList_append_own _ rfl (.tmp 51) (.tmp 54) 22 rfl w2.heap.size 27 j0 (.agg #[.int .u8 0, .slice none 0 0]) 2 32 Tryz.underlying22 hj hy0 hy1 hy2 rfl (by decide) _ _ _ rfl O0.out ad a _ (nw.take (a * 2)) rfl HT1.out (fun j u h => HRw.out _ Q0.out j u (HTk.out j u h)) HO1.out (by rw [HM.out]; omega) (by omega) (by have := Q0.out.size; omega) ?_
                     intro v1 X1 ho1 hg1 _
                     have O1 := Lib.hid ho1
                     have Q1 := Lib.hid (Q0.out.grown hg1 Q0.out.size (fun j e => (owns_lt O0.out j e).1))
                     clear ho1 hg1)
                  | (refine wpList_append_own _ rfl (.tmp 56) (.tmp 58) 22 rfl w2.heap.size 27 j0 (.agg #[.int .u8 0, .slice none 0 0]) 2 32 Tryz.underlying22 hj hy0 hy1 hy2 rfl (by decide) _ _ _ rfl (O1.out.alloc (.cells #[.int .u8 91, .slice none 0 0] 27)) ⟨X1.heap.size, 0, none⟩ 1 1 [.int .u8 91, .slice none 0 0] rfl rfl (two_new _ _ _ _) (by simp [Value.oneCell']) (by rw [HM.out]; omega) (by omega) (by rw [World.size_alloc]; have := Q1.out.size; omega) ?_
                     intro v2 X2 ho2 hg2 _
                     have O2 := Lib.hid ho2
                     have Q2 := Lib.hid ((Q1.out.alloc Q1.out.size (.cells #[.int .u8 91, .slice none 0 0] 27)).grown hg2 (by rw [World.size_alloc]; have := Q1.out.size; omega) (fun j e => (owns_lt O1.out j e).1))
                     clear ho2 hg2)
                  | (refine j_append_nil rfl (.tmp 60) (.tmp 61) 22 rfl w2.heap.size 27 j0 2 Tryz.underlying22 hj _ _ _ rfl O2.out rfl ?_)
                  | (refine wpList_append_own _ rfl (.tmp 63) (.tmp 65) 22 rfl w2.heap.size 27 j0 (.agg #[.int .u8 0, .slice none 0 0]) 2 32 Tryz.underlying22 hj hy0 hy1 hy2 rfl (by decide) _ _ _ rfl (O2.out.alloc (.cells #[.int .u8 93, .slice none 0 0] 27)) ⟨X2.heap.size, 0, none⟩ 1 1 [.int .u8 93, .slice none 0 0] rfl rfl (two_new _ _ _ _) (by simp [Value.oneCell']) (by rw [HM.out]; omega) (by omega) (by rw [World.size_alloc]; have := Q2.out.size; omega) ?_
                     intro v4 X4 ho4 hg4 _
                     have O4 := Lib.hid ho4
                     have Q4 := Lib.hid ((Q2.out.alloc Q2.out.size (.cells #[.int .u8 93, .slice none 0 0] 27)).grown hg4 (by rw [World.size_alloc]; have := Q2.out.size; omega) (fun j e => (owns_lt O2.out j e).1))
                     clear ho4 hg4)
                  | (refine wpList_append_own _ rfl (.tmp 67) (.tmp 70) 22 rfl w2.heap.size 27 j0 (.agg #[.int .u8 0, .slice none 0 0]) 2 32 Tryz.underlying22 hj hy0 hy1 hy2 rfl (by decide) _ _ _ rfl O4.out _ _ _ [] rfl HT5.out (by simp) (by simp) (by rw [HM.out]; omega) (by omega) (by have := Q4.out.size; omega) ?_
                     intro v5 X5 ho5 hg5 _
                     have O5 := Lib.hid ho5
                     have Q5 := Lib.hid (Q4.out.grown hg5 Q4.out.size (fun j e => (owns_lt O4.out j e).1))
                     clear ho5 hg5)
                  )
              clear c1 c3 c4
              have BX := Lib.hid (B2.out.trans (Q5.out.mono B2.out.size))
              have hrow := (((((RowM.nil w2).app (HNw.out.take a).1).app (RowM.lit w2 91)).app (RowM.lit w2 93)).app (RowM.nil w2)).later Q5.out
              rw [show (((([] ++ u.take a) ++ [⟨91, []⟩]) ++ [⟨93, []⟩]) ++ []) = insL u [] a by simp [insL, List.drop_eq_nil_of_le (Nat.le_of_eq HLa.out)]] at hrow
              have hcnt := ins_len (u := u) (b := []) ha
              have ho := O5.out
              rw [show 0 + a + 1 + 1 + (u.length - a) = u.length + (([] : List Md).length + 2) by first | (simp; done) | (simp; omega) | omega] at ho
              have hmm := hrow.mods (by rw [hcnt]; exact ho)
              obtain ⟨p5, c5, rfl⟩ := hmm.slice
              have MM := Lib.hid hmm
              have hia : ∀ m ∈ insL u [] a, m.a.length ≤ 9223372036854775807 := ins_all hua (by simp)
              have hil : (insL u [] a).length ≤ 9223372036854775807 := by rw [hcnt]; first | (simp; done) | (simp; omega) | omega
              have HIA := Lib.hid hia
              have HIL := Lib.hid hil
              clear hrow ho hcnt hmm hia hil
              have hu3 := HU3.out
              generalize (insL u [] a).length = L5 at MM ⊢
              have HMo := Lib.hid (fun (k : Nat) hk h1 h2 => moved_ask (g := g) (u := u) (b := []) (a := a) (k := k) ha H1.out (by decide) HG.out (by first | (simp; done) | (simp; omega) | omega) hk h1 h2)
              go_loopw [11] (fun i wr => ∃ k : Nat, k ≤ u.length ∧ i = .int .i64 k ∧ Below X5.heap.size X5 wr) (fun i _ => u.length - (intOf i).toNat)
              case atStart => exact ⟨0, Nat.zero_le _, rfl, Below.refl _ _⟩
              case round =>
                obtain ⟨k, hk, rfl, hb0⟩ := hrel
                have CB := Lib.hid hb0
                have BB := Lib.hid (BX.out.trans (hb0.mono BX.out.size))
                clear hb0
                by_cases hlt : k < u.length
                · have k1 : (k : Int) < (u.length : Int) := by omega
                  have HNx : Hid (∀ w', Below X5.heap.size X5 w' → ∃ k' : Nat, k' ≤ u.length ∧ Value.int .i64 ((k : Int) + 1) = .int .i64 k' ∧ Below X5.heap.size X5 w') := Lib.hid (fun w' h => ⟨k + 1, by omega, by go_num, h⟩)
                  obtain ⟨b, off, cap', q, c, hp, e0, _, _, lb⟩ := (HW.out.later BB.out).at hlt
                  obtain rfl : ad = ⟨b, off, none⟩ := by cases hp; rfl
                  clear hp
                  by_cases z1 : (md u k).c = 91
                  · have t1 : ((u[k].c.toNat : Int) == 91) = true := by rw [← md_get hlt, z1]; rfl
                    generalize u[k].c.toNat = cn at e0 t1
                    clear z1
                    go_wp2_with fail
                    go_roundw
                    case rel => exact HNx.out _ CB.out
                    case measure => first | (simp [intOf]; done) | (simp [intOf]; omega)
                  · have t1 : ((u[k].c.toNat : Int) == 91) = false := ne_tst2 hlt z1
                    by_cases z2 : (md u k).c = 93
                    · have t2 : ((u[k].c.toNat : Int) == 93) = true := by rw [← md_get hlt, z2]; rfl
                      generalize u[k].c.toNat = cn at e0 t1 t2
                      clear z1 z2
                      go_wp2_with fail
                      go_roundw
                      case rel => exact HNx.out _ CB.out
                      case measure => first | (simp [intOf]; done) | (simp [intOf]; omega)
                    · have t2 : ((u[k].c.toNat : Int) == 93) = false := ne_tst2 hlt z2
                      obtain ⟨a1, a2, a3⟩ := ask_ok (g := g) H1.out HG.out hlt z1 z2
                      obtain ⟨m1, m2, m3⟩ := HMo.out k hlt z1 z2
                      have KL := Lib.hid (KLv.out (.slice (some ⟨b, off, none⟩) u.length a) u hu hua (k : Int))
                      have KR := Lib.hid (KRv.out (.slice (some ⟨b, off, none⟩) u.length a) u hu hua (k : Int))
                      have KLm := Lib.hid (KLv.out (.slice p5 L5 c5) (insL u [] a) HIL.out HIA.out (mvd (k : Int) a (([] : List Md).length + 2)))
                      have KRm := Lib.hid (KRv.out (.slice p5 L5 c5) (insL u [] a) HIL.out HIA.out (mvd (k : Int) a (([] : List Md).length + 2)))
                      rw [a1, a2] at KL
                      rw [a1, a3] at KR
                      rw [m1, m2] at KLm
                      rw [m1, m3] at KRm
                      have bl1 := bef_rng' g u k hlt
                      have bl2 := beh_rng' g u k hlt
                      have KM := Lib.hid (fun w => pmoved_any (k : Int) a (([] : List Md).length + 2) 2 (by first | (simp; done) | (simp; omega) | omega) (by omega) (by omega) (by first | (simp; done) | (simp; omega) | omega) w)
                      have KMa := Lib.hid (fun w => pmoved_any (bef g u k) a (([] : List Md).length + 2) 2 (by first | (simp; done) | (simp; omega) | omega) (by omega) (by omega) (by first | (simp; done) | (simp; omega) | omega) w)
                      have KMb := Lib.hid (fun w => pmoved_any (beh g u k) a (([] : List Md).length + 2) 2 (by first | (simp; done) | (simp; omega) | omega) (by omega) (by omega) (by first | (simp; done) | (simp; omega) | omega) w)
                      generalize mvd (k : Int) a (([] : List Md).length + 2) = mk at KLm KRm KM
                      generalize mvd (bef g u k) a (([] : List Md).length + 2) = mx at KLm KMa
                      generalize mvd (beh g u k) a (([] : List Md).length + 2) = my at KRm KMb
                      generalize bef g u k = x at KL KMa
                      generalize beh g u k = y at KR KMb
                      generalize u[k].c.toNat = cn at e0 t1 t2
                      clear z1 z2 a1 a2 a3 m1 m2 m3 bl1 bl2
                      go_wp2_with fail
                      refine (KL.out _ (HW.out.later BB.out)).mono ?_
                      rintro e y1 ⟨rfl, hb⟩
                      have D1 := Lib.hid (CB.out.trans (hb.mono CB.out.size))
                      have E1 := Lib.hid (BB.out.trans (hb.mono BB.out.size))
                      clear hb
                      go_wp2_with fail
                      refine (KR.out _ (HW.out.later E1.out)).mono ?_
                      rintro e y2 ⟨rfl, hb⟩
                      have D2 := Lib.hid (D1.out.trans (hb.mono D1.out.size))
                      clear hb
                      go_wp2_with fail
                      refine (KM.out _).mono ?_
                      rintro e y2' ⟨rfl, rfl⟩
                      go_wp2_with fail
                      refine (KLm.out _ (MM.out.later D2.out)).mono ?_
                      rintro e y3 ⟨rfl, hb⟩
                      have D3 := Lib.hid (D2.out.trans (hb.mono D2.out.size))
                      clear hb
                      go_wp2_with fail
                      refine (KM.out _).mono ?_
                      rintro e y3' ⟨rfl, rfl⟩
                      go_wp2_with fail
                      refine (KRm.out _ (MM.out.later D3.out)).mono ?_
                      rintro e y4 ⟨rfl, hb⟩
                      have D4 := Lib.hid (D3.out.trans (hb.mono D3.out.size))
                      clear hb
                      go_wp2_with fail
                      refine (KMa.out _).mono ?_
                      rintro e y4' ⟨rfl, rfl⟩
                      go_wp2_with fail
                      refine (KMb.out _).mono ?_
                      rintro e y4' ⟨rfl, rfl⟩
                      go_wp2_with fail
                      go_roundw
                      case rel => exact HNx.out _ D4.out
                      case measure => first | (simp [intOf]; done) | (simp [intOf]; omega)
                · obtain rfl : k = u.length := by omega
                  go_wp2_with fail
                  refine (KA.out _ (HE.out.later BB.out)).mono ?_
                  rintro e wz ⟨rfl, hb⟩
                  have Bz := Lib.hid (BB.out.trans (hb.mono BB.out.size))
                  clear hb
                  go_wp2_with fail
                  go_ret
                  exact ⟨rfl, Bz.out⟩
            · simp only [Value.slice.injEq] at hpb
              obtain ⟨rfl, -, rfl⟩ := hpb
              obtain ⟨nb, hn, hr⟩ := mods_news (HB.out.later B2.out)
              have HNb := Lib.hid hn
              have HRb := Lib.hid hr
              have HO2 : Hid (∀ u ∈ nb, u.oneCell' = true) := Lib.hid hn.ones
              have HT2 : Hid (nb.length = bu.length * 2) := Lib.hid hn.len
              have b2 : bu.length ≤ 30 := by omega
              clear hn hr
              obtain ⟨j0, hj, hy0, hy1, hy2⟩ := info_parts info_mod
              have HM : Hid (maxLen = 9223372036854775807) := Lib.hid rfl
              have O0 : Hid ((w2.alloc (.cells #[] 27)).ownsRow w2.heap.size 27 2 (.slice (some ⟨w2.heap.size, 0, none⟩) 0 0) 0 []) := Lib.hid (World.ownsRow_lit w2 #[] 0 (Nat.le_refl _) (by omega) (by simp))
              have Q0 : Hid (Below w2.heap.size w2 (w2.alloc (.cells #[] 27))) := Lib.hid ((Below.refl _ _).alloc (Nat.le_refl _) _)
              go_wp2_with (at_builtin; first
                  | (refine wpList_append_own _ rfl (.tmp 51) (.tmp 54) 22 rfl w2.heap.size 27 j0 (.agg #[.int .u8 0, .slice none 0 0]) 2 32 Tryz.underlying22 hj hy0 hy1 hy2 rfl (by decide) _ _ _ rfl O0.out ad a _ (nw.take (a * 2)) rfl HT1.out (fun j u h => HRw.out _ Q0.out j u (HTk.out j u h)) HO1.out (by rw [HM.out]; omega) (by omega) (by have := Q0.out.size; omega) ?_
                     intro v1 X1 ho1 hg1 _
                     have O1 := Lib.hid ho1
                     have Q1 := Lib.hid (Q0.out.grown hg1 Q0.out.size (fun j e => (owns_lt O0.out j e).1))
                     clear ho1 hg1)
                  | (refine wpList_append_own _ rfl (.tmp 56) (.tmp 58) 22 rfl w2.heap.size 27 j0 (.agg #[.int .u8 0, .slice none 0 0]) 2 32 Tryz.underlying22 hj hy0 hy1 hy2 rfl (by decide) _ _ _ rfl (O1.out.alloc (.cells #[.int .u8 91, .slice none 0 0] 27)) ⟨X1.heap.size, 0, none⟩ 1 1 [.int .u8 91, .slice none 0 0] rfl rfl (two_new _ _ _ _) (by simp [Value.oneCell']) (by rw [HM.out]; omega) (by omega) (by rw [World.size_alloc]; have := Q1.out.size; omega) ?_
                     intro v2 X2 ho2 hg2 _
                     have O2 := Lib.hid ho2
                     have Q2 := Lib.hid ((Q1.out.alloc Q1.out.size (.cells #[.int .u8 91, .slice none 0 0] 27)).grown hg2 (by rw [World.size_alloc]; have := Q1.out.size; omega) (fun j e => (owns_lt O1.out j e).1))
                     clear ho2 hg2)
                  | (refine wpList_append_own _ rfl (.tmp 60) (.tmp 61) 22 rfl w2.heap.size 27 j0 (.agg #[.int .u8 0, .slice none 0 0]) 2 32 Tryz.underlying22 hj hy0 hy1 hy2 rfl (by decide) _ _ _ rfl O2.out bd bu.length capb nb rfl HT2.out (fun j u h => HRb.out _ Q2.out j u h) HO2.out (by rw [HM.out]; omega) (by omega) (by have := Q2.out.size; omega) ?_
                     intro v3 X3 ho3 hg3 _
                     have O3 := Lib.hid ho3
                     have Q3 := Lib.hid (Q2.out.grown hg3 Q2.out.size (fun j e => (owns_lt O2.out j e).1))
                     clear ho3 hg3)
                  | (refine wpList_append_own _ rfl (.tmp 63) (.tmp 65) 22 rfl w2.heap.size 27 j0 (.agg #[.int .u8 0, .slice none 0 0]) 2 32 Tryz.underlying22 hj hy0 hy1 hy2 rfl (by decide) _ _ _ rfl (O3.out.alloc (.cells #[.int .u8 93, .slice none 0 0] 27)) ⟨X3.heap.size, 0, none⟩ 1 1 [.int .u8 93, .slice none 0 0] rfl rfl (two_new _ _ _ _) (by simp [Value.oneCell']) (by rw [HM.out]; omega) (by omega) (by rw [World.size_alloc]; have := Q3.out.size; omega) ?_
                     intro v4 X4 ho4 hg4 _
                     have O4 := Lib.hid ho4
                     have Q4 := Lib.hid ((Q3.out.alloc Q3.out.size (.cells #[.int .u8 93, .slice none 0 0] 27)).grown hg4 (by rw [World.size_alloc]; have := Q3.out.size; omega) (fun j e => (owns_lt O3.out j e).1))
                     clear ho4 hg4)
                  | (refine wpList_append_own _ rfl (.tmp 67) (.tmp 70) 22 rfl w2.heap.size 27 j0 (.agg #[.int .u8 0, .slice none 0 0]) 2 32 Tryz.underlying22 hj hy0 hy1 hy2 rfl (by decide) _ _ _ rfl O4.out _ _ _ [] rfl HT5.out (by simp) (by simp) (by rw [HM.out]; omega) (by omega) (by have := Q4.out.size; omega) ?_
                     intro v5 X5 ho5 hg5 _
                     have O5 := Lib.hid ho5
                     have Q5 := Lib.hid (Q4.out.grown hg5 Q4.out.size (fun j e => (owns_lt O4.out j e).1))
                     clear ho5 hg5)
                  )
              clear c1 c2 c3 c4
              have BX := Lib.hid (B2.out.trans (Q5.out.mono B2.out.size))
              have hrow := ((((((RowM.nil w2).app (HNw.out.take a).1).app (RowM.lit w2 91)).app HNb.out).app (RowM.lit w2 93)).app (RowM.nil w2)).later Q5.out
              rw [show ((((([] ++ u.take a) ++ [⟨91, []⟩]) ++ bu) ++ [⟨93, []⟩]) ++ []) = insL u bu a by simp [insL, List.drop_eq_nil_of_le (Nat.le_of_eq HLa.out)]] at hrow
              have hcnt := ins_len (u := u) (b := bu) ha
              have ho := O5.out
              rw [show 0 + a + 1 + bu.length + 1 + (u.length - a) = u.length + ((bu : List Md).length + 2) by first | (simp; done) | (simp; omega) | omega] at ho
              have hmm := hrow.mods (by rw [hcnt]; exact ho)
              obtain ⟨p5, c5, rfl⟩ := hmm.slice
              have MM := Lib.hid hmm
              have hia : ∀ m ∈ insL u bu a, m.a.length ≤ 9223372036854775807 := ins_all hua hba
              have hil : (insL u bu a).length ≤ 9223372036854775807 := by rw [hcnt]; omega
              have HIA := Lib.hid hia
              have HIL := Lib.hid hil
              clear hrow ho hcnt hmm hia hil
              have hu3 := HU3.out
              generalize (insL u bu a).length = L5 at MM ⊢
              have HMo := Lib.hid (fun (k : Nat) hk h1 h2 => moved_ask (g := g) (u := u) (b := bu) (a := a) (k := k) ha H1.out HB1.out HG.out (by omega) hk h1 h2)
              go_loopw [11] (fun i wr => ∃ k : Nat, k ≤ u.length ∧ i = .int .i64 k ∧ Below X5.heap.size X5 wr) (fun i _ => u.length - (intOf i).toNat)
              case atStart => exact ⟨0, Nat.zero_le _, rfl, Below.refl _ _⟩
              case round =>
                obtain ⟨k, hk, rfl, hb0⟩ := hrel
                have CB := Lib.hid hb0
                have BB := Lib.hid (BX.out.trans (hb0.mono BX.out.size))
                clear hb0
                by_cases hlt : k < u.length
                · have k1 : (k : Int) < (u.length : Int) := by omega
                  have HNx : Hid (∀ w', Below X5.heap.size X5 w' → ∃ k' : Nat, k' ≤ u.length ∧ Value.int .i64 ((k : Int) + 1) = .int .i64 k' ∧ Below X5.heap.size X5 w') := Lib.hid (fun w' h => ⟨k + 1, by omega, by go_num, h⟩)
                  obtain ⟨b, off, cap', q, c, hp, e0, _, _, lb⟩ := (HW.out.later BB.out).at hlt
                  obtain rfl : ad = ⟨b, off, none⟩ := by cases hp; rfl
                  clear hp
                  by_cases z1 : (md u k).c = 91
                  · have t1 : ((u[k].c.toNat : Int) == 91) = true := by rw [← md_get hlt, z1]; rfl
                    generalize u[k].c.toNat = cn at e0 t1
                    clear z1
                    go_wp2_with fail
                    go_roundw
                    case rel => exact HNx.out _ CB.out
                    case measure => first | (simp [intOf]; done) | (simp [intOf]; omega)
                  · have t1 : ((u[k].c.toNat : Int) == 91) = false := ne_tst2 hlt z1
                    by_cases z2 : (md u k).c = 93
                    · have t2 : ((u[k].c.toNat : Int) == 93) = true := by rw [← md_get hlt, z2]; rfl
                      generalize u[k].c.toNat = cn at e0 t1 t2
                      clear z1 z2
                      go_wp2_with fail
                      go_roundw
                      case rel => exact HNx.out _ CB.out
                      case measure => first | (simp [intOf]; done) | (simp [intOf]; omega)
                    · have t2 : ((u[k].c.toNat : Int) == 93) = false := ne_tst2 hlt z2
                      obtain ⟨a1, a2, a3⟩ := ask_ok (g := g) H1.out HG.out hlt z1 z2
                      obtain ⟨m1, m2, m3⟩ := HMo.out k hlt z1 z2
                      have KL := Lib.hid (KLv.out (.slice (some ⟨b, off, none⟩) u.length a) u hu hua (k : Int))
                      have KR := Lib.hid (KRv.out (.slice (some ⟨b, off, none⟩) u.length a) u hu hua (k : Int))
                      have KLm := Lib.hid (KLv.out (.slice p5 L5 c5) (insL u bu a) HIL.out HIA.out (mvd (k : Int) a ((bu : List Md).length + 2)))
                      have KRm := Lib.hid (KRv.out (.slice p5 L5 c5) (insL u bu a) HIL.out HIA.out (mvd (k : Int) a ((bu : List Md).length + 2)))
                      rw [a1, a2] at KL
                      rw [a1, a3] at KR
                      rw [m1, m2] at KLm
                      rw [m1, m3] at KRm
                      have bl1 := bef_rng' g u k hlt
                      have bl2 := beh_rng' g u k hlt
                      have KM := Lib.hid (fun w => pmoved_any (k : Int) a ((bu : List Md).length + 2) ((bu.length : Int) + 2) (by omega) (by omega) (by omega) (by omega) w)
                      have KMa := Lib.hid (fun w => pmoved_any (bef g u k) a ((bu : List Md).length + 2) ((bu.length : Int) + 2) (by omega) (by omega) (by omega) (by omega) w)
                      have KMb := Lib.hid (fun w => pmoved_any (beh g u k) a ((bu : List Md).length + 2) ((bu.length : Int) + 2) (by omega) (by omega) (by omega) (by omega) w)
                      generalize mvd (k : Int) a ((bu : List Md).length + 2) = mk at KLm KRm KM
                      generalize mvd (bef g u k) a ((bu : List Md).length + 2) = mx at KLm KMa
                      generalize mvd (beh g u k) a ((bu : List Md).length + 2) = my at KRm KMb
                      generalize bef g u k = x at KL KMa
                      generalize beh g u k = y at KR KMb
                      generalize u[k].c.toNat = cn at e0 t1 t2
                      clear z1 z2 a1 a2 a3 m1 m2 m3 bl1 bl2
                      go_wp2_with fail
                      refine (KL.out _ (HW.out.later BB.out)).mono ?_
                      rintro e y1 ⟨rfl, hb⟩
                      have D1 := Lib.hid (CB.out.trans (hb.mono CB.out.size))
                      have E1 := Lib.hid (BB.out.trans (hb.mono BB.out.size))
                      clear hb
                      go_wp2_with fail
                      refine (KR.out _ (HW.out.later E1.out)).mono ?_
                      rintro e y2 ⟨rfl, hb⟩
                      have D2 := Lib.hid (D1.out.trans (hb.mono D1.out.size))
                      clear hb
                      go_wp2_with fail
                      refine (KM.out _).mono ?_
                      rintro e y2' ⟨rfl, rfl⟩
                      go_wp2_with fail
                      refine (KLm.out _ (MM.out.later D2.out)).mono ?_
                      rintro e y3 ⟨rfl, hb⟩
                      have D3 := Lib.hid (D2.out.trans (hb.mono D2.out.size))
                      clear hb
                      go_wp2_with fail
                      refine (KM.out _).mono ?_
                      rintro e y3' ⟨rfl, rfl⟩
                      go_wp2_with fail
                      refine (KRm.out _ (MM.out.later D3.out)).mono ?_
                      rintro e y4 ⟨rfl, hb⟩
                      have D4 := Lib.hid (D3.out.trans (hb.mono D3.out.size))
                      clear hb
                      go_wp2_with fail
                      refine (KMa.out _).mono ?_
                      rintro e y4' ⟨rfl, rfl⟩
                      go_wp2_with fail
                      refine (KMb.out _).mono ?_
                      rintro e y4' ⟨rfl, rfl⟩
                      go_wp2_with fail
                      go_roundw
                      case rel => exact HNx.out _ D4.out
                      case measure => first | (simp [intOf]; done) | (simp [intOf]; omega)
                · obtain rfl : k = u.length := by omega
                  go_wp2_with fail
                  refine (KA.out _ (HE.out.later BB.out)).mono ?_
                  rintro e wz ⟨rfl, hb⟩
                  have Bz := Lib.hid (BB.out.trans (hb.mono BB.out.size))
                  clear hb
                  go_wp2_with fail
                  go_ret
                  exact ⟨rfl, Bz.out⟩
          · have a1 : (0 : Int) ≤ (a : Int) := by omega
            have a2 : (a : Int) ≤ (cap : Int) := by omega
            have hca : ¬ (cap : Int) - (a : Int) = 0 := by omega
            obtain ⟨nw, hn, hr⟩ := mods_news (HW.out.later B2.out)
            have HNw := Lib.hid hn
            have HRw := Lib.hid hr
            have HO1 : Hid (∀ u ∈ nw.take (a * 2), u.oneCell' = true) := Lib.hid (fun u h => hn.ones u (List.mem_of_mem_take h))
            have HT1 : Hid ((nw.take (a * 2)).length = a * 2) := Lib.hid (by rw [List.length_take, hn.len]; omega)
            have HTk : Hid (∀ (j : Nat) (u : Value), (nw.take (a * 2))[j]? = some u → nw[j]? = some u) := Lib.hid (fun j u h => by
              rw [List.getElem?_take] at h
              split at h
              · exact h
              · cases h)
            have HT5 : Hid ((nw.drop (a * 2)).length = (u.length - a) * 2) := Lib.hid (by rw [List.length_drop, hn.len]; omega)
            have HO5 : Hid (∀ u ∈ nw.drop (a * 2), u.oneCell' = true) := Lib.hid (fun u h => hn.ones u (List.mem_of_mem_drop h))
            have HDr : Hid (∀ (j : Nat) (u : Value), (nw.drop (a * 2))[j]? = some u → nw[a * 2 + j]? = some u) := Lib.hid (fun j u h => by rwa [List.getElem?_drop] at h)
            have HAd : Hid (∀ j, (ad.add (a * 2)).add j = ad.add (a * 2 + j)) := Lib.hid (fun j => add_add' ad (a * 2) j)
            clear hn hr
            have hq : ¬ cap = 0 := by omega
            rcases hnb with hpb | ⟨bd, nd, cd, hpb⟩
            · simp only [Value.slice.injEq] at hpb
              obtain ⟨rfl, hl0, rfl⟩ := hpb
              obtain rfl : bu = [] := List.length_eq_zero_iff.1 hl0
              clear hl0 c2
              obtain ⟨j0, hj, hy0, hy1, hy2⟩ := info_parts info_mod
              have HM : Hid (maxLen = 9223372036854775807) := Lib.hid rfl
              have O0 : Hid ((w2.alloc (.cells #[] 27)).ownsRow w2.heap.size 27 2 (.slice (some ⟨w2.heap.size, 0, none⟩) 0 0) 0 []) := Lib.hid (World.ownsRow_lit w2 #[] 0 (Nat.le_refl _) (by omega) (by simp))
              have Q0 : Hid (Below w2.heap.size w2 (w2.alloc (.cells #[] 27))) := Lib.hid ((Below.refl _ _).alloc (Nat.le_refl _) _)
              go_wp2_with (at_builtin; first
                  | (refine wpList_append_own _ rfl (.tmp 51) (.tmp 54) 22 rfl w2.heap.size 27 j0 (.agg #[.int .u8 0, .slice none 0 0]) 2 32 Tryz.underlying22 hj hy0 hy1 hy2 rfl (by decide) _ _ _ rfl O0.out ad a _ (nw.take (a * 2)) rfl HT1.out (fun j u h => HRw.out _ Q0.out j u (HTk.out j u h)) HO1.out (by rw [HM.out]; omega) (by omega) (by have := Q0.out.size; omega) ?_
                     intro v1 X1 ho1 hg1 _
                     have O1 := Lib.hid ho1
                     have Q1 := Lib.hid (Q0.out.grown hg1 Q0.out.size (fun j e => (owns_lt O0.out j e).1))
                     clear ho1 hg1)
                  | (refine wpList_append_own _ rfl (.tmp 56) (.tmp 58) 22 rfl w2.heap.size 27 j0 (.agg #[.int .u8 0, .slice none 0 0]) 2 32 Tryz.underlying22 hj hy0 hy1 hy2 rfl (by decide) _ _ _ rfl (O1.out.alloc (.cells #[.int .u8 91, .slice none 0 0] 27)) ⟨X1.heap.size, 0, none⟩ 1 1 [.int .u8 91, .slice none 0 0] rfl rfl (two_new _ _ _ _) (by simp [Value.oneCell']) (by rw [HM.out]; omega) (by omega) (by rw [World.size_alloc]; have := Q1.out.size; omega) ?_
                     intro v2 X2 ho2 hg2 _
                     have O2 := Lib.hid ho2
                     have Q2 := Lib.hid ((Q1.out.alloc Q1.out.size (.cells #[.int .u8 91, .slice none 0 0] 27)).grown hg2 (by rw [World.size_alloc]; have := Q1.out.size; omega) (fun j e => (owns_lt O1.out j e).1))
                     clear ho2 hg2)
                  | (refine j_append_nil rfl (.tmp 60) (.tmp 61) 22 rfl w2.heap.size 27 j0 2 Tryz.underlying22 hj _ _ _ rfl O2.out rfl ?_)
                  | (refine wpList_append_own _ rfl (.tmp 63) (.tmp 65) 22 rfl w2.heap.size 27 j0 (.agg #[.int .u8 0, .slice none 0 0]) 2 32 Tryz.underlying22 hj hy0 hy1 hy2 rfl (by decide) _ _ _ rfl (O2.out.alloc (.cells #[.int .u8 93, .slice none 0 0] 27)) ⟨X2.heap.size, 0, none⟩ 1 1 [.int .u8 93, .slice none 0 0] rfl rfl (two_new _ _ _ _) (by simp [Value.oneCell']) (by rw [HM.out]; omega) (by omega) (by rw [World.size_alloc]; have := Q2.out.size; omega) ?_
                     intro v4 X4 ho4 hg4 _
                     have O4 := Lib.hid ho4
                     have Q4 := Lib.hid ((Q2.out.alloc Q2.out.size (.cells #[.int .u8 93, .slice none 0 0] 27)).grown hg4 (by rw [World.size_alloc]; have := Q2.out.size; omega) (fun j e => (owns_lt O2.out j e).1))
                     clear ho4 hg4)
                  | (refine wpList_append_own _ rfl (.tmp 67) (.tmp 70) 22 rfl w2.heap.size 27 j0 (.agg #[.int .u8 0, .slice none 0 0]) 2 32 Tryz.underlying22 hj hy0 hy1 hy2 rfl (by decide) _ _ _ rfl O4.out (ad.add (a * 2)) (u.length - a) _ (nw.drop (a * 2)) rfl HT5.out (fun j u h => by rw [HAd.out]; exact HRw.out _ Q4.out _ u (HDr.out j u h)) HO5.out (by rw [HM.out]; omega) (by omega) (by have := Q4.out.size; omega) ?_
                     intro v5 X5 ho5 hg5 _
                     have O5 := Lib.hid ho5
                     have Q5 := Lib.hid (Q4.out.grown hg5 Q4.out.size (fun j e => (owns_lt O4.out j e).1))
                     clear ho5 hg5)
                  )
              clear c1 c3 c4
              have BX := Lib.hid (B2.out.trans (Q5.out.mono B2.out.size))
              have hrow := (((((RowM.nil w2).app (HNw.out.take a).1).app (RowM.lit w2 91)).app (RowM.lit w2 93)).app (HNw.out.take a).2).later Q5.out
              rw [show (((([] ++ u.take a) ++ [⟨91, []⟩]) ++ [⟨93, []⟩]) ++ u.drop a) = insL u [] a by simp [insL]] at hrow
              have hcnt := ins_len (u := u) (b := []) ha
              have ho := O5.out
              rw [show 0 + a + 1 + 1 + (u.length - a) = u.length + (([] : List Md).length + 2) by first | (simp; done) | (simp; omega) | omega] at ho
              have hmm := hrow.mods (by rw [hcnt]; exact ho)
              obtain ⟨p5, c5, rfl⟩ := hmm.slice
              have MM := Lib.hid hmm
              have hia : ∀ m ∈ insL u [] a, m.a.length ≤ 9223372036854775807 := ins_all hua (by simp)
              have hil : (insL u [] a).length ≤ 9223372036854775807 := by rw [hcnt]; first | (simp; done) | (simp; omega) | omega
              have HIA := Lib.hid hia
              have HIL := Lib.hid hil
              clear hrow ho hcnt hmm hia hil
              have hu3 := HU3.out
              generalize (insL u [] a).length = L5 at MM ⊢
              generalize ad.add (a * 2) = ad5
              have HMo := Lib.hid (fun (k : Nat) hk h1 h2 => moved_ask (g := g) (u := u) (b := []) (a := a) (k := k) ha H1.out (by decide) HG.out (by first | (simp; done) | (simp; omega) | omega) hk h1 h2)
              go_loopw [11] (fun i wr => ∃ k : Nat, k ≤ u.length ∧ i = .int .i64 k ∧ Below X5.heap.size X5 wr) (fun i _ => u.length - (intOf i).toNat)
              case atStart => exact ⟨0, Nat.zero_le _, rfl, Below.refl _ _⟩
              case round =>
                obtain ⟨k, hk, rfl, hb0⟩ := hrel
                have CB := Lib.hid hb0
                have BB := Lib.hid (BX.out.trans (hb0.mono BX.out.size))
                clear hb0
                by_cases hlt : k < u.length
                · have k1 : (k : Int) < (u.length : Int) := by omega
                  have HNx : Hid (∀ w', Below X5.heap.size X5 w' → ∃ k' : Nat, k' ≤ u.length ∧ Value.int .i64 ((k : Int) + 1) = .int .i64 k' ∧ Below X5.heap.size X5 w') := Lib.hid (fun w' h => ⟨k + 1, by omega, by go_num, h⟩)
                  obtain ⟨b, off, cap', q, c, hp, e0, _, _, lb⟩ := (HW.out.later BB.out).at hlt
                  obtain rfl : ad = ⟨b, off, none⟩ := by cases hp; rfl
                  clear hp
                  by_cases z1 : (md u k).c = 91
                  · have t1 : ((u[k].c.toNat : Int) == 91) = true := by rw [← md_get hlt, z1]; rfl
                    generalize u[k].c.toNat = cn at e0 t1
                    clear z1
                    go_wp2_with fail
                    go_roundw
                    case rel => exact HNx.out _ CB.out
                    case measure => first | (simp [intOf]; done) | (simp [intOf]; omega)
                  · have t1 : ((u[k].c.toNat : Int) == 91) = false := ne_tst2 hlt z1
                    by_cases z2 : (md u k).c = 93
                    · have t2 : ((u[k].c.toNat : Int) == 93) = true := by rw [← md_get hlt, z2]; rfl
                      generalize u[k].c.toNat = cn at e0 t1 t2
                      clear z1 z2
                      go_wp2_with fail
                      go_roundw
                      case rel => exact HNx.out _ CB.out
                      case measure => first | (simp [intOf]; done) | (simp [intOf]; omega)
                    · have t2 : ((u[k].c.toNat : Int) == 93) = false := ne_tst2 hlt z2
                      obtain ⟨a1, a2, a3⟩ := ask_ok (g := g) H1.out HG.out hlt z1 z2
                      obtain ⟨m1, m2, m3⟩ := HMo.out k hlt z1 z2
                      have KL := Lib.hid (KLv.out (.slice (some ⟨b, off, none⟩) u.length cap) u hu hua (k : Int))
                      have KR := Lib.hid (KRv.out (.slice (some ⟨b, off, none⟩) u.length cap) u hu hua (k : Int))
                      have KLm := Lib.hid (KLv.out (.slice p5 L5 c5) (insL u [] a) HIL.out HIA.out (mvd (k : Int) a (([] : List Md).length + 2)))
                      have KRm := Lib.hid (KRv.out (.slice p5 L5 c5) (insL u [] a) HIL.out HIA.out (mvd (k : Int) a (([] : List Md).length + 2)))
                      rw [a1, a2] at KL
                      rw [a1, a3] at KR
                      rw [m1, m2] at KLm
                      rw [m1, m3] at KRm
                      have bl1 := bef_rng' g u k hlt
                      have bl2 := beh_rng' g u k hlt
                      have KM := Lib.hid (fun w => pmoved_any (k : Int) a (([] : List Md).length + 2) 2 (by first | (simp; done) | (simp; omega) | omega) (by omega) (by omega) (by first | (simp; done) | (simp; omega) | omega) w)
                      have KMa := Lib.hid (fun w => pmoved_any (bef g u k) a (([] : List Md).length + 2) 2 (by first | (simp; done) | (simp; omega) | omega) (by omega) (by omega) (by first | (simp; done) | (simp; omega) | omega) w)
                      have KMb := Lib.hid (fun w => pmoved_any (beh g u k) a (([] : List Md).length + 2) 2 (by first | (simp; done) | (simp; omega) | omega) (by omega) (by omega) (by first | (simp; done) | (simp; omega) | omega) w)
                      generalize mvd (k : Int) a (([] : List Md).length + 2) = mk at KLm KRm KM
                      generalize mvd (bef g u k) a (([] : List Md).length + 2) = mx at KLm KMa
                      generalize mvd (beh g u k) a (([] : List Md).length + 2) = my at KRm KMb
                      generalize bef g u k = x at KL KMa
                      generalize beh g u k = y at KR KMb
                      generalize u[k].c.toNat = cn at e0 t1 t2
                      clear z1 z2 a1 a2 a3 m1 m2 m3 bl1 bl2
                      go_wp2_with fail
                      refine (KL.out _ (HW.out.later BB.out)).mono ?_
                      rintro e y1 ⟨rfl, hb⟩
                      have D1 := Lib.hid (CB.out.trans (hb.mono CB.out.size))
                      have E1 := Lib.hid (BB.out.trans (hb.mono BB.out.size))
                      clear hb
                      go_wp2_with fail
                      refine (KR.out _ (HW.out.later E1.out)).mono ?_
                      rintro e y2 ⟨rfl, hb⟩
                      have D2 := Lib.hid (D1.out.trans (hb.mono D1.out.size))
                      clear hb
                      go_wp2_with fail
                      refine (KM.out _).mono ?_
                      rintro e y2' ⟨rfl, rfl⟩
                      go_wp2_with fail
                      refine (KLm.out _ (MM.out.later D2.out)).mono ?_
                      rintro e y3 ⟨rfl, hb⟩
                      have D3 := Lib.hid (D2.out.trans (hb.mono D2.out.size))
                      clear hb
                      go_wp2_with fail
                      refine (KM.out _).mono ?_
                      rintro e y3' ⟨rfl, rfl⟩
                      go_wp2_with fail
                      refine (KRm.out _ (MM.out.later D3.out)).mono ?_
                      rintro e y4 ⟨rfl, hb⟩
                      have D4 := Lib.hid (D3.out.trans (hb.mono D3.out.size))
                      clear hb
                      go_wp2_with fail
                      refine (KMa.out _).mono ?_
                      rintro e y4' ⟨rfl, rfl⟩
                      go_wp2_with fail
                      refine (KMb.out _).mono ?_
                      rintro e y4' ⟨rfl, rfl⟩
                      go_wp2_with fail
                      go_roundw
                      case rel => exact HNx.out _ D4.out
                      case measure => first | (simp [intOf]; done) | (simp [intOf]; omega)
                · obtain rfl : k = u.length := by omega
                  go_wp2_with fail
                  refine (KA.out _ (HE.out.later BB.out)).mono ?_
                  rintro e wz ⟨rfl, hb⟩
                  have Bz := Lib.hid (BB.out.trans (hb.mono BB.out.size))
                  clear hb
                  go_wp2_with fail
                  go_ret
                  exact ⟨rfl, Bz.out⟩
            · simp only [Value.slice.injEq] at hpb
              obtain ⟨rfl, -, rfl⟩ := hpb
              obtain ⟨nb, hn, hr⟩ := mods_news (HB.out.later B2.out)
              have HNb := Lib.hid hn
              have HRb := Lib.hid hr
              have HO2 : Hid (∀ u ∈ nb, u.oneCell' = true) := Lib.hid hn.ones
              have HT2 : Hid (nb.length = bu.length * 2) := Lib.hid hn.len
              have b2 : bu.length ≤ 30 := by omega
              clear hn hr
              obtain ⟨j0, hj, hy0, hy1, hy2⟩ := info_parts info_mod
              have HM : Hid (maxLen = 9223372036854775807) := Lib.hid rfl
              have O0 : Hid ((w2.alloc (.cells #[] 27)).ownsRow w2.heap.size 27 2 (.slice (some ⟨w2.heap.size, 0, none⟩) 0 0) 0 []) := Lib.hid (World.ownsRow_lit w2 #[] 0 (Nat.le_refl _) (by omega) (by simp))
              have Q0 : Hid (Below w2.heap.size w2 (w2.alloc (.cells #[] 27))) := Lib.hid ((Below.refl _ _).alloc (Nat.le_refl _) _)
              go_wp2_with (at_builtin; first
                  | (refine wpList_append_own _ rfl (.tmp 51) (.tmp 54) 22 rfl w2.heap.size 27 j0 (.agg #[.int .u8 0, .slice none 0 0]) 2 32 Tryz.underlying22 hj hy0 hy1 hy2 rfl (by decide) _ _ _ rfl O0.out ad a _ (nw.take (a * 2)) rfl HT1.out (fun j u h => HRw.out _ Q0.out j u (HTk.out j u h)) HO1.out (by rw [HM.out]; omega) (by omega) (by have := Q0.out.size; omega) ?_
                     intro v1 X1 ho1 hg1 _
                     have O1 := Lib.hid ho1
                     have Q1 := Lib.hid (Q0.out.grown hg1 Q0.out.size (fun j e => (owns_lt O0.out j e).1))
                     clear ho1 hg1)
                  | (refine wpList_append_own _ rfl (.tmp 56) (.tmp 58) 22 rfl w2.heap.size 27 j0 (.agg #[.int .u8 0, .slice none 0 0]) 2 32 Tryz.underlying22 hj hy0 hy1 hy2 rfl (by decide) _ _ _ rfl (O1.out.alloc (.cells #[.int .u8 91, .slice none 0 0] 27)) ⟨X1.heap.size, 0, none⟩ 1 1 [.int .u8 91, .slice none 0 0] rfl rfl (two_new _ _ _ _) (by simp [Value.oneCell']) (by rw [HM.out]; omega) (by omega) (by rw [World.size_alloc]; have := Q1.out.size; omega) ?_
                     intro v2 X2 ho2 hg2 _
                     have O2 := Lib.hid ho2
                     have Q2 := Lib.hid ((Q1.out.alloc Q1.out.size (.cells #[.int .u8 91, .slice none 0 0] 27)).grown hg2 (by rw [World.size_alloc]; have := Q1.out.size; omega) (fun j e => (owns_lt O1.out j e).1))
                     clear ho2 hg2)
                  | (refine wpList_append_own _ rfl (.tmp 60) (.tmp 61) 22 rfl w2.heap.size 27 j0 (.agg #[.int .u8 0, .slice none 0 0]) 2 32 Tryz.underlying22 hj hy0 hy1 hy2 rfl (by decide) _ _ _ rfl O2.out bd bu.length capb nb rfl HT2.out (fun j u h => HRb.out _ Q2.out j u h) HO2.out (by rw [HM.out]; omega) (by omega) (by have := Q2.out.size; omega) ?_
                     intro v3 X3 ho3 hg3 _
                     have O3 := Lib.hid ho3
                     have Q3 := Lib.hid (Q2.out.grown hg3 Q2.out.size (fun j e => (owns_lt O2.out j e).1))
                     clear ho3 hg3)
                  | (refine wpList_append_own _ rfl (.tmp 63) (.tmp 65) 22 rfl w2.heap.size 27 j0 (.agg #[.int .u8 0, .slice none 0 0]) 2 32 Tryz.underlying22 hj hy0 hy1 hy2 rfl (by decide) _ _ _ rfl (O3.out.alloc (.cells #[.int .u8 93, .slice none 0 0] 27)) ⟨X3.heap.size, 0, none⟩ 1 1 [.int .u8 93, .slice none 0 0] rfl rfl (two_new _ _ _ _) (by simp [Value.oneCell']) (by rw [HM.out]; omega) (by omega) (by rw [World.size_alloc]; have := Q3.out.size; omega) ?_
                     intro v4 X4 ho4 hg4 _
                     have O4 := Lib.hid ho4
                     have Q4 := Lib.hid ((Q3.out.alloc Q3.out.size (.cells #[.int .u8 93, .slice none 0 0] 27)).grown hg4 (by rw [World.size_alloc]; have := Q3.out.size; omega) (fun j e => (owns_lt O3.out j e).1))
                     clear ho4 hg4)
                  | (refine wpList_append_own _ rfl (.tmp 67) (.tmp 70) 22 rfl w2.heap.size 27 j0 (.agg #[.int .u8 0, .slice none 0 0]) 2 32 Tryz.underlying22 hj hy0 hy1 hy2 rfl (by decide) _ _ _ rfl O4.out (ad.add (a * 2)) (u.length - a) _ (nw.drop (a * 2)) rfl HT5.out (fun j u h => by rw [HAd.out]; exact HRw.out _ Q4.out _ u (HDr.out j u h)) HO5.out (by rw [HM.out]; omega) (by omega) (by have := Q4.out.size; omega) ?_
                     intro v5 X5 ho5 hg5 _
                     have O5 := Lib.hid ho5
                     have Q5 := Lib.hid (Q4.out.grown hg5 Q4.out.size (fun j e => (owns_lt O4.out j e).1))
                     clear ho5 hg5)
                  )
              clear c1 c2 c3 c4
              have BX := Lib.hid (B2.out.trans (Q5.out.mono B2.out.size))
              have hrow := ((((((RowM.nil w2).app (HNw.out.take a).1).app (RowM.lit w2 91)).app HNb.out).app (RowM.lit w2 93)).app (HNw.out.take a).2).later Q5.out
              rw [show ((((([] ++ u.take a) ++ [⟨91, []⟩]) ++ bu) ++ [⟨93, []⟩]) ++ u.drop a) = insL u bu a by simp [insL]] at hrow
              have hcnt := ins_len (u := u) (b := bu) ha
              have ho := O5.out
              rw [show 0 + a + 1 + bu.length + 1 + (u.length - a) = u.length + ((bu : List Md).length + 2) by first | (simp; done) | (simp; omega) | omega] at ho
              have hmm := hrow.mods (by rw [hcnt]; exact ho)
              obtain ⟨p5, c5, rfl⟩ := hmm.slice
              have MM := Lib.hid hmm
              have hia : ∀ m ∈ insL u bu a, m.a.length ≤ 9223372036854775807 := ins_all hua hba
              have hil : (insL u bu a).length ≤ 9223372036854775807 := by rw [hcnt]; omega
              have HIA := Lib.hid hia
              have HIL := Lib.hid hil
              clear hrow ho hcnt hmm hia hil
              have hu3 := HU3.out
              generalize (insL u bu a).length = L5 at MM ⊢
              generalize ad.add (a * 2) = ad5
              have HMo := Lib.hid (fun (k : Nat) hk h1 h2 => moved_ask (g := g) (u := u) (b := bu) (a := a) (k := k) ha H1.out HB1.out HG.out (by omega) hk h1 h2)
              go_loopw [11] (fun i wr => ∃ k : Nat, k ≤ u.length ∧ i = .int .i64 k ∧ Below X5.heap.size X5 wr) (fun i _ => u.length - (intOf i).toNat)
              case atStart => exact ⟨0, Nat.zero_le _, rfl, Below.refl _ _⟩
              case round =>
                obtain ⟨k, hk, rfl, hb0⟩ := hrel
                have CB := Lib.hid hb0
                have BB := Lib.hid (BX.out.trans (hb0.mono BX.out.size))
                clear hb0
                by_cases hlt : k < u.length
                · have k1 : (k : Int) < (u.length : Int) := by omega
                  have HNx : Hid (∀ w', Below X5.heap.size X5 w' → ∃ k' : Nat, k' ≤ u.length ∧ Value.int .i64 ((k : Int) + 1) = .int .i64 k' ∧ Below X5.heap.size X5 w') := Lib.hid (fun w' h => ⟨k + 1, by omega, by go_num, h⟩)
                  obtain ⟨b, off, cap', q, c, hp, e0, _, _, lb⟩ := (HW.out.later BB.out).at hlt
                  obtain rfl : ad = ⟨b, off, none⟩ := by cases hp; rfl
                  clear hp
                  by_cases z1 : (md u k).c = 91
                  · have t1 : ((u[k].c.toNat : Int) == 91) = true := by rw [← md_get hlt, z1]; rfl
                    generalize u[k].c.toNat = cn at e0 t1
                    clear z1
                    go_wp2_with fail
                    go_roundw
                    case rel => exact HNx.out _ CB.out
                    case measure => first | (simp [intOf]; done) | (simp [intOf]; omega)
                  · have t1 : ((u[k].c.toNat : Int) == 91) = false := ne_tst2 hlt z1
                    by_cases z2 : (md u k).c = 93
                    · have t2 : ((u[k].c.toNat : Int) == 93) = true := by rw [← md_get hlt, z2]; rfl
                      generalize u[k].c.toNat = cn at e0 t1 t2
                      clear z1 z2
                      go_wp2_with fail
                      go_roundw
                      case rel => exact HNx.out _ CB.out
                      case measure => first | (simp [intOf]; done) | (simp [intOf]; omega)
                    · have t2 : ((u[k].c.toNat : Int) == 93) = false := ne_tst2 hlt z2
                      obtain ⟨a1, a2, a3⟩ := ask_ok (g := g) H1.out HG.out hlt z1 z2
                      obtain ⟨m1, m2, m3⟩ := HMo.out k hlt z1 z2
                      have KL := Lib.hid (KLv.out (.slice (some ⟨b, off, none⟩) u.length cap) u hu hua (k : Int))
                      have KR := Lib.hid (KRv.out (.slice (some ⟨b, off, none⟩) u.length cap) u hu hua (k : Int))
                      have KLm := Lib.hid (KLv.out (.slice p5 L5 c5) (insL u bu a) HIL.out HIA.out (mvd (k : Int) a ((bu : List Md).length + 2)))
                      have KRm := Lib.hid (KRv.out (.slice p5 L5 c5) (insL u bu a) HIL.out HIA.out (mvd (k : Int) a ((bu : List Md).length + 2)))
                      rw [a1, a2] at KL
                      rw [a1, a3] at KR
                      rw [m1, m2] at KLm
                      rw [m1, m3] at KRm
                      have bl1 := bef_rng' g u k hlt
                      have bl2 := beh_rng' g u k hlt
                      have KM := Lib.hid (fun w => pmoved_any (k : Int) a ((bu : List Md).length + 2) ((bu.length : Int) + 2) (by omega) (by omega) (by omega) (by omega) w)
                      have KMa := Lib.hid (fun w => pmoved_any (bef g u k) a ((bu : List Md).length + 2) ((bu.length : Int) + 2) (by omega) (by omega) (by omega) (by omega) w)
                      have KMb := Lib.hid (fun w => pmoved_any (beh g u k) a ((bu : List Md).length + 2) ((bu.length : Int) + 2) (by omega) (by omega) (by omega) (by omega) w)
                      generalize mvd (k : Int) a ((bu : List Md).length + 2) = mk at KLm KRm KM
                      generalize mvd (bef g u k) a ((bu : List Md).length + 2) = mx at KLm KMa
                      generalize mvd (beh g u k) a ((bu : List Md).length + 2) = my at KRm KMb
                      generalize bef g u k = x at KL KMa
                      generalize beh g u k = y at KR KMb
                      generalize u[k].c.toNat = cn at e0 t1 t2
                      clear z1 z2 a1 a2 a3 m1 m2 m3 bl1 bl2
                      go_wp2_with fail
                      refine (KL.out _ (HW.out.later BB.out)).mono ?_
                      rintro e y1 ⟨rfl, hb⟩
                      have D1 := Lib.hid (CB.out.trans (hb.mono CB.out.size))
                      have E1 := Lib.hid (BB.out.trans (hb.mono BB.out.size))
                      clear hb
                      go_wp2_with fail
                      refine (KR.out _ (HW.out.later E1.out)).mono ?_
                      rintro e y2 ⟨rfl, hb⟩
                      have D2 := Lib.hid (D1.out.trans (hb.mono D1.out.size))
                      clear hb
                      go_wp2_with fail
                      refine (KM.out _).mono ?_
                      rintro e y2' ⟨rfl, rfl⟩
                      go_wp2_with fail
                      refine (KLm.out _ (MM.out.later D2.out)).mono ?_
                      rintro e y3 ⟨rfl, hb⟩
                      have D3 := Lib.hid (D2.out.trans (hb.mono D2.out.size))
                      clear hb
                      go_wp2_with fail
                      refine (KM.out _).mono ?_
                      rintro e y3' ⟨rfl, rfl⟩
                      go_wp2_with fail
                      refine (KRm.out _ (MM.out.later D3.out)).mono ?_
                      rintro e y4 ⟨rfl, hb⟩
                      have D4 := Lib.hid (D3.out.trans (hb.mono D3.out.size))
                      clear hb
                      go_wp2_with fail
                      refine (KMa.out _).mono ?_
                      rintro e y4' ⟨rfl, rfl⟩
                      go_wp2_with fail
                      refine (KMb.out _).mono ?_
                      rintro e y4' ⟨rfl, rfl⟩
                      go_wp2_with fail
                      go_roundw
                      case rel => exact HNx.out _ D4.out
                      case measure => first | (simp [intOf]; done) | (simp [intOf]; omega)
                · obtain rfl : k = u.length := by omega
                  go_wp2_with fail
                  refine (KA.out _ (HE.out.later BB.out)).mono ?_
                  rintro e wz ⟨rfl, hb⟩
                  have Bz := Lib.hid (BB.out.trans (hb.mono BB.out.size))
                  clear hb
                  go_wp2_with fail
                  go_ret
                  exact ⟨rfl, Bz.out⟩
end Go.Proofs.YtlmofdmbcddddaaGreatDoor
