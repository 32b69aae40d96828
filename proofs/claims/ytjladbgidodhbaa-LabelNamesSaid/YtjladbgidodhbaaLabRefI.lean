/-
  What the reference's Join and Long hand back.
-/
import Derived.Test.YtjladbgidodhbaaLabRefH
namespace Go.Proofs.Ytjladbgidodhbaa
open Go.RowKit
open LM
set_option linter.unusedVariables false
set_option linter.unusedSimpArgs false

theorem path_strs (v : Value) (xs : List Bs) (hl : (pathL xs).length ≤ 100000) (hn2 : xs.length ≤ 200000) (w : World) (hS : Strs w v xs) :
    Calls Try.prog 39 #[v] w fun e w' => e = .returned (.string (bA (pathL xs))) ∧ w = w' := by
  rcases hS with ⟨rfl, rfl⟩ | ⟨g, cap, rfl, hR⟩
  · exact refpath_nil w
  · exact refpath_row g cap _ xs rfl hl hn2 w hR
theorem below_grows {w w1 : World} (hb : Below w.heap.size w w1) (row : Option Nat) : w.grownBy w1 row := ⟨hb.os, hb.tape, hb.output, hb.size, fun k hk _ => hb.block k hk⟩
theorem owns_below {w w1 : World} {base n : Nat} {e : TypeId} {v : Value} {xs : List Value} (h : w.ownsRow base e 1 v n xs) (hb : Below w.heap.size w w1) : w1.ownsRow base e 1 v n xs :=
  h.kept (below_grows hb none) (by cases hv : v.ownBlock <;> simp)
theorem row_news {w : World} {g cap : Nat} {xs : List Bs} (h : Row w g cap xs) : ∀ j u, (xs.map sV)[j]? = some u → w.cell? ((⟨g, 0, none⟩ : Addr).add j) = some u := by
  intro j u hj
  rw [List.getElem?_map] at hj
  have hadd : (⟨g, 0, none⟩ : Addr).add j = ⟨g, j, none⟩ := by unfold Addr.add; split <;> simp_all
  rw [hadd]
  by_cases hl : j < xs.length
  · rw [List.getElem?_eq_getElem hl] at hj
    rw [h.at j hl]; exact hj
  · rw [List.getElem?_eq_none (by omega)] at hj; simp at hj
theorem one_cells {xs : List Bs} : ∀ u ∈ xs.map sV, u.oneCell' = true := by
  intro u hu
  rw [List.mem_map] at hu
  obtain ⟨x, _, rfl⟩ := hu
  simp [Value.oneCell']
def joiE (p s : Bs) : Int := if chk p = 0 then (if stepB s = true then chk (pathL (cutL p ++ [s])) else 12) else chk p
def joiS (p s : Bs) : Bs := if joiE p s = 0 then pathL (cutL p ++ [s]) else []
theorem join_len (p s : Bs) : (pathL (cutL p ++ [s])).length ≤ p.length + 1 + s.length := by
  rw [pathL_snoc]
  split
  · omega
  · rw [pathL_cutL]; simp; omega

set_option maxHeartbeats 2000000 in
set_option maxRecDepth 100000 in
theorem refjoin_any (p s : ByteArray) (hp : p.size ≤ 50000) (hs : s.size ≤ 40000) (w : World) :
    Calls Try.prog 23 #[.string p, .string s] w fun e w' => e = .returned (.tuple #[.string (bA (joiS (lA p) (lA s))), .int .i64 (joiE (lA p) (lA s))]) ∧ Below w.heap.size w w' := by
  have B0 := Lib.hid (Below.refl w.heap.size w)
  obtain ⟨c, hc⟩ : ∃ c, chk (lA p) = c := ⟨_, rfl⟩
  have K1 := Lib.hid (fun w => refcheck_v p (by omega) c hc w)
  by_cases h0 : c = 0
  · subst h0
    have K2 : Hid (∀ w, Calls Try.prog 33 #[.string s] w fun e w' => e = .returned (.tuple #[.string (bA (stN (lA s))), .int .i64 (stI (lA s)), .bool (stepB (lA s))]) ∧ w = w') := Lib.hid (fun w => refstep_any s (by omega) w)
    cases hst : stepB (lA s)
    · have HE : Hid (joiE (lA p) (lA s) = 12) := Lib.hid (by rw [joiE, if_pos hc, if_neg (by rw [hst]; simp)])
      have HS : Hid (joiS (lA p) (lA s) = []) := Lib.hid (by rw [joiS, HE.out]; rfl)
      clear hc
      go_enter Try.func23, Try.ntmps23
      go_wp2_with fail
      refine (K1.out _).mono ?_
      rintro e w1 ⟨rfl, hb⟩
      have B1 := Lib.hid (B0.out.trans (hb.mono B0.out.size))
      clear hb B0 
      go_wp2_with fail
      refine (K2.out _).mono ?_
      rintro e ws ⟨rfl, rfl⟩
      go_wp2_with fail
      go_ret2
      exact ⟨by rw [HE.out, HS.out]; rfl, B1.out⟩
    · obtain ⟨xs, hx⟩ : ∃ xs, cutL (lA p) = xs := ⟨_, rfl⟩
      obtain ⟨n, hn⟩ : ∃ n, xs.length = n := ⟨_, rfl⟩
      have hnb : n ≤ 200000 := by rw [← hn, ← hx]; exact cutL_few (by omega)
      obtain ⟨l, hl⟩ : ∃ l, pathL (xs ++ [lA s]) = l := ⟨_, rfl⟩
      obtain ⟨d, hd⟩ : ∃ d, chk l = d := ⟨_, rfl⟩
      have hll : l.length ≤ 100000 := by
        have := join_len (lA p) (lA s)
        rw [hx, hl, lA_len, lA_len] at this; omega
      have HE : Hid (joiE (lA p) (lA s) = d) := Lib.hid (by rw [joiE, if_pos hc, if_pos hst, hx, hl, hd])
      have HS : Hid (joiS (lA p) (lA s) = if d = 0 then l else []) := Lib.hid (by rw [joiS, HE.out, hx, hl])
      have K4 : Hid (∀ v w, Strs w v (xs ++ [lA s]) → Calls Try.prog 39 #[v] w fun e w' => e = .returned (.string (bA l)) ∧ w = w') := Lib.hid (fun v w hS => by
        have := path_strs v (xs ++ [lA s]) (by rw [hl]; omega) (by rw [List.length_append, hn]; have := cutL_length (lA p); have hcc : (lA p).count 47 ≤ (lA p).length := List.count_le_length; rw [hx, hn] at this; rw [lA_len] at hcc; simp; split at this <;> omega) w hS
        rwa [hl] at this)
      have K5 := Lib.hid (fun w => refcheck_v (bA l) (by rw [bA_size]; exact hll) d (by rw [lA_bA]; exact hd) w)
      have HN : Hid ((xs.map sV).length = n * 1) := Lib.hid (by rw [List.length_map, hn, Nat.mul_one])
      obtain ⟨i0, hi, hz0, hz1, hz2⟩ := info_parts info_str
      have HM : Hid (maxLen = 9223372036854775807) := Lib.hid rfl
      have OW : Hid (∀ w1 : World, w.heap.size ≤ w1.heap.size → (w1.alloc (.cells #[] 9)).ownsRow w.heap.size 9 1 (.slice (some ⟨w1.heap.size, 0, none⟩) 0 0) 0 []) := Lib.hid (fun w1 h => World.ownsRow_made w1 #[] 0 h (by unfold maxLen; omega) rfl)
      by_cases h0' : 0 < p.size
      · have K3 := Lib.hid (fun w => cut_row p (by omega) h0' xs n hx hn w)
        clear hc hx hn hl hd hll
        go_enter Try.func23, Try.ntmps23
        go_wp2_with fail
        refine (K1.out _).mono ?_
        rintro e w1 ⟨rfl, hb⟩
        have B1 := Lib.hid (B0.out.trans (hb.mono B0.out.size))
        clear hb B0 
        go_wp2_with fail
        refine (K2.out _).mono ?_
        rintro e ws ⟨rfl, rfl⟩
        go_wp2_with fail
        refine (K3.out _).mono ?_
        rintro e w2 ⟨g, cap, rfl, hR, hb⟩
        have OWN := Lib.hid (owns_below (OW.out w1 B1.out.size) hb)
        have B2 := Lib.hid ((B1.out.alloc B1.out.size _).trans (hb.mono (by have := B1.out.size; simp; omega)))
        have SIZ := B2.out.size
        have R2 := Lib.hid hR
        clear hb hR B1
        go_wp2_with (first | (at_builtin; refine wpList_append_own _ rfl (.tmp 23) (.tmp 25) 22 rfl w.heap.size 9 i0 (.string ByteArray.empty) 1 16 Try.underlying22 hi hz0 hz1 hz2 rfl (by decide) _ 0 [] rfl OWN.out ⟨g, 0, none⟩ n cap (xs.map sV) rfl HN.out (row_news R2.out) one_cells (by rw [HM.out]; omega) (by omega) SIZ ?_; intro v1 w3 hown1 hgrow1 _) | (at_builtin; refine wpList_append_own _ rfl (.tmp 26) (.tmp 28) 22 rfl w.heap.size 9 i0 (.string ByteArray.empty) 1 16 Try.underlying22 hi hz0 hz1 hz2 rfl (by decide) _ _ _ rfl (hown1.alloc _) ⟨w3.heap.size, 0, none⟩ 1 1 [.string s] rfl rfl (cell_one_new _ _ _) (by simp [Value.oneCell']) (by rw [HM.out]; omega) (by omega) (by have := hgrow1.size; simp; omega) ?_; intro v2 w4 hown2 hgrow2 _))
        have B3 := Lib.hid (B2.out.grown hgrow1 B2.out.size (fun j e => (OWN.out.lt j e).1))
        have B4 := Lib.hid ((B3.out.alloc B3.out.size _).grown hgrow2 (by simp; have := B3.out.size; omega) (fun j e => (hown1.lt j e).1))
        have S4 : Hid (Strs w4 v2 (xs ++ [lA s])) := Lib.hid (by
          have e : [] ++ xs.map sV ++ [Value.string s] = (xs ++ [lA s]).map sV := by rw [List.map_append, List.nil_append]; rfl
          rw [e] at hown2
          obtain ⟨g2, cap2, hv, _, hr⟩ := row_of_owned hown2 (by omega)
          exact .inr ⟨g2, cap2, hv, hr⟩)
        clear hown2 hgrow2 hown1 hi hz0 hz1 hz2 hgrow1
        refine (K4.out _ _ S4.out).mono ?_
        rintro e ws ⟨rfl, rfl⟩
        by_cases hd0 : d = 0
        · subst hd0
          go_wp2_with fail
          refine (K5.out _).mono ?_
          rintro e w5 ⟨rfl, hb⟩
          have B5 := Lib.hid (B4.out.trans (hb.mono B4.out.size))
          clear hb B4 
          go_wp2_with fail
          go_ret2
          exact ⟨by rw [HE.out, HS.out]; rfl, B5.out⟩
        · have hd1 : (d != 0) = true := bne_iff_ne.2 hd0
          go_wp2_with fail
          refine (K5.out _).mono ?_
          rintro e w5 ⟨rfl, hb⟩
          have B5 := Lib.hid (B4.out.trans (hb.mono B4.out.size))
          clear hb B4 
          go_wp2_with fail
          refine (K5.out _).mono ?_
          rintro e w6 ⟨rfl, hb⟩
          have B6 := Lib.hid (B5.out.trans (hb.mono B5.out.size))
          clear hb B5 
          go_wp2_with fail
          go_ret2
          exact ⟨by rw [HE.out, HS.out, if_neg hd0]; rfl, B6.out⟩
      · obtain rfl := str_nil h0'
        have XE : Hid (xs = []) := Lib.hid (by rw [← hx]; rfl)
        clear hc hx hn hl hd hll
        go_enter Try.func23, Try.ntmps23
        go_wp2_with fail
        refine (K1.out _).mono ?_
        rintro e w1 ⟨rfl, hb⟩
        have B1 := Lib.hid (B0.out.trans (hb.mono B0.out.size))
        clear hb B0 
        go_wp2_with fail
        refine (K2.out _).mono ?_
        rintro e ws ⟨rfl, rfl⟩
        go_wp2_with fail
        refine (refcut_nil _).mono ?_
        rintro e ws ⟨rfl, rfl⟩
        have OWN := Lib.hid (OW.out w1 B1.out.size)
        have hown1 := OWN.out
        have SIZ := B1.out.size
        have B3 := Lib.hid (B1.out.alloc B1.out.size (.cells #[] 9))
        go_wp2_with (first | (at_builtin; refine wpList_append_own_none rfl (.tmp 23) (.tmp 25) 22 rfl w.heap.size 9 i0 1 Try.underlying22 hi _ 0 [] rfl OWN.out rfl ?_) | (at_builtin; refine wpList_append_own _ rfl (.tmp 26) (.tmp 28) 22 rfl w.heap.size 9 i0 (.string ByteArray.empty) 1 16 Try.underlying22 hi hz0 hz1 hz2 rfl (by decide) _ _ _ rfl (OWN.out.alloc _) ⟨w1.heap.size + 1, 0, none⟩ 1 1 [.string s] rfl rfl (by have := cell_one_new (w1.alloc (.cells #[] 9)) (.string s) 9; simpa using this) (by simp [Value.oneCell']) (by rw [HM.out]; omega) (by omega) (by simp; omega) ?_; intro v2 w4 hown2 hgrow2 _))
        have B4 := Lib.hid ((B3.out.alloc B3.out.size _).grown hgrow2 (by simp; have := B3.out.size; omega) (fun j e => (hown1.lt j e).1))
        have S4 : Hid (Strs w4 v2 (xs ++ [lA s])) := Lib.hid (by
          have e : [] ++ [Value.string s] = (xs ++ [lA s]).map sV := by rw [XE.out]; rfl
          rw [e] at hown2
          obtain ⟨g2, cap2, hv, _, hr⟩ := row_of_owned hown2 (by omega)
          exact .inr ⟨g2, cap2, hv, hr⟩)
        clear hown2 hgrow2 hown1 hi hz0 hz1 hz2
        refine (K4.out _ _ S4.out).mono ?_
        rintro e ws ⟨rfl, rfl⟩
        by_cases hd0 : d = 0
        · subst hd0
          go_wp2_with fail
          refine (K5.out _).mono ?_
          rintro e w5 ⟨rfl, hb⟩
          have B5 := Lib.hid (B4.out.trans (hb.mono B4.out.size))
          clear hb B4 
          go_wp2_with fail
          go_ret2
          exact ⟨by rw [HE.out, HS.out]; rfl, B5.out⟩
        · have hd1 : (d != 0) = true := bne_iff_ne.2 hd0
          go_wp2_with fail
          refine (K5.out _).mono ?_
          rintro e w5 ⟨rfl, hb⟩
          have B5 := Lib.hid (B4.out.trans (hb.mono B4.out.size))
          clear hb B4 
          go_wp2_with fail
          refine (K5.out _).mono ?_
          rintro e w6 ⟨rfl, hb⟩
          have B6 := Lib.hid (B5.out.trans (hb.mono B5.out.size))
          clear hb B5 
          go_wp2_with fail
          go_ret2
          exact ⟨by rw [HE.out, HS.out, if_neg hd0]; rfl, B6.out⟩
  · have h1 : (c != 0) = true := bne_iff_ne.2 h0
    have HE : Hid (joiE (lA p) (lA s) = c) := Lib.hid (by rw [joiE, hc, if_neg h0])
    have HS : Hid (joiS (lA p) (lA s) = []) := Lib.hid (by rw [joiS, HE.out, if_neg h0])
    clear hc
    go_enter Try.func23, Try.ntmps23
    go_wp2_with fail
    refine (K1.out _).mono ?_
    rintro e w1 ⟨rfl, hb⟩
    have B1 := Lib.hid (B0.out.trans (hb.mono B0.out.size))
    clear hb B0 
    go_wp2_with fail
    refine (K1.out _).mono ?_
    rintro e w2 ⟨rfl, hb⟩
    have B2 := Lib.hid (B1.out.trans (hb.mono B1.out.size))
    clear hb B1 
    go_wp2_with fail
    go_ret2
    exact ⟨by rw [HE.out, HS.out]; rfl, B2.out⟩
end Go.Proofs.Ytjladbgidodhbaa
