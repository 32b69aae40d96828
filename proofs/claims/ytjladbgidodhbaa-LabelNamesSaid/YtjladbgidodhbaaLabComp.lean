/-
  What CompareFunc at steps and compare of a path hand back.
-/
import Derived.Test.YtjladbgidodhbaaLabParsed
namespace Go.Proofs.Ytjladbgidodhbaa
open Go.RowKit Go.Shelf
open LM
set_option linter.unusedVariables false
set_option linter.unusedSimpArgs false
attribute [local go_sem] Oper.semAt_some

/-- A slice's row of steps. -/
structure SRow (w : World) (g cap : Nat) (xs : List Bs) : Prop where
  lt : g < w.heap.size
  le : xs.length ≤ cap
  cell : ∀ k (hk : k < xs.length), w.cell? ⟨g, k * 2, none⟩ = some (.string (bA (stN xs[k]))) ∧ w.cell? ⟨g, k * 2 + 1, none⟩ = some (.int .i64 (stI xs[k]))
theorem SRow.later {w w1 : World} {g cap : Nat} {xs : List Bs} (h : SRow w g cap xs) (hb : Below w.heap.size w w1) : SRow w1 g cap xs :=
  ⟨Nat.lt_of_lt_of_le h.lt hb.size, h.le, fun k hk => ⟨(hb.cell (p := ⟨g, k * 2, none⟩) h.lt).trans (h.cell k hk).1, (hb.cell (p := ⟨g, k * 2 + 1, none⟩) h.lt).trans (h.cell k hk).2⟩⟩
def SSl (w : World) (a : Option Addr) (cap : Nat) (xs : List Bs) : Prop := (a = none ∧ cap = 0 ∧ xs = []) ∨ ∃ g, a = some ⟨g, 0, none⟩ ∧ SRow w g cap xs
theorem SSl.later {w w1 : World} {a : Option Addr} {cap : Nat} {xs : List Bs} (h : SSl w a cap xs) (hb : Below w.heap.size w w1) : SSl w1 a cap xs := by
  rcases h with h | ⟨g, rfl, h⟩
  · exact .inl h
  · exact .inr ⟨g, rfl, h.later hb⟩
theorem SSl.row {w : World} {a : Option Addr} {cap : Nat} {xs : List Bs} (h : SSl w a cap xs) (hx : 0 < xs.length) : ∃ g, a = some ⟨g, 0, none⟩ ∧ SRow w g cap xs := by
  rcases h with ⟨_, _, rfl⟩ | h
  · simp at hx
  · exact h
theorem sPs_at : ∀ (xs : List Bs) (k : Nat) (hk : k < xs.length), (sPs xs)[k * 2]? = some (.string (bA (stN xs[k]))) ∧ (sPs xs)[k * 2 + 1]? = some (.int .i64 (stI xs[k]))
  | [], k, hk => by simp at hk
  | x :: xs, 0, hk => by constructor <;> rfl
  | x :: xs, k + 1, hk => by
    have := sPs_at xs k (by simpa using hk)
    have e : sPs (x :: xs) = .string (bA (stN x)) :: .int .i64 (stI x) :: sPs xs := rfl
    rw [e, show (k + 1) * 2 = k * 2 + 1 + 1 by omega]
    simpa using this
theorem ssl_of_owned {w : World} {base : Nat} {v : Value} {xs : List Bs} (h : w.ownsRow base 66 2 v xs.length (sPs xs)) (hn : v = .slice none 0 0 ↔ xs = []) : ∃ a cap, v = .slice a xs.length cap ∧ SSl w a cap xs := by
  have hcells := fun g => h.cells (g := g)
  rcases h.2 with ⟨rfl, _⟩ | ⟨g, cap, cur, rfl, hb, hg, hrest⟩
  · have := hn.1 rfl
    subst this
    exact ⟨none, 0, rfl, .inl ⟨rfl, rfl, rfl⟩⟩
  · refine ⟨some ⟨g, 0, none⟩, cap, rfl, .inr ⟨g, rfl, ⟨(Array.getElem?_eq_some_iff.1 hg).1, ?_, fun k hk => ?_⟩⟩⟩
    · exact hrest.1
    · have hadd : ∀ j, (⟨g, 0, none⟩ : Addr).add j = ⟨g, j, none⟩ := fun j => by unfold Addr.add; split <;> simp_all
      have := sPs_at xs k hk
      have h1 := hcells g rfl _ _ this.1
      have h2 := hcells g rfl _ _ this.2
      rw [hadd] at h1 h2
      exact ⟨h1, h2⟩
theorem cmpS_or {x y : Bs} (hx : stepB x = true) (hy : stepB y = true) : orI (cmpN (stN x) (stN y)) (cmpI (stI x) (stI y)) = cmpS x y := by
  rw [(stN_yes hx).1, (stN_yes hy).1, (stN_yes hx).2, (stN_yes hy).2]; rfl
theorem lexC_go {xs ys : List Bs} {k : Nat} (h1 : k < xs.length) (h2 : k < ys.length) : lexC cmpS (xs.drop k) (ys.drop k) = if cmpS xs[k] ys[k] = 0 then lexC cmpS (xs.drop (k + 1)) (ys.drop (k + 1)) else cmpS xs[k] ys[k] := by
  rw [List.drop_eq_getElem_cons h1, List.drop_eq_getElem_cons h2]; rfl
theorem lexC_long {xs ys : List Bs} {k : Nat} (h1 : k < xs.length) (h2 : ys.length ≤ k) : lexC cmpS (xs.drop k) (ys.drop k) = 1 := by
  rw [List.drop_eq_getElem_cons h1, List.drop_of_length_le h2]; rfl
theorem lexC_short {xs ys : List Bs} {k : Nat} (h1 : xs.length ≤ k) (h2 : k < ys.length) : lexC cmpS (xs.drop k) (ys.drop k) = -1 := by
  rw [List.drop_eq_getElem_cons h2, List.drop_of_length_le h1]; rfl
theorem lexC_end {xs ys : List Bs} {k : Nat} (h1 : xs.length ≤ k) (h2 : ys.length ≤ k) : lexC cmpS (xs.drop k) (ys.drop k) = 0 := by
  rw [List.drop_of_length_le h2, List.drop_of_length_le h1]; rfl

set_option maxHeartbeats 1000000 in
theorem comparefunc_any (a b : Option Addr) (cap n cap' m : Nat) (xs ys : List Bs) (hn : xs.length = n) (hm : ys.length = m) (hn2 : n ≤ 200000) (hm2 : m ≤ 200000) (hv : ∀ x ∈ xs, stepB x = true) (hv' : ∀ y ∈ ys, stepB y = true) (w : World) (hS : SSl w a cap xs) (hT : SSl w b cap' ys) :
    Calls Try.prog 63 #[.slice a n cap, .slice b m cap', .func (.func 65) #[] #[]] w fun e w' => e = .returned (.int .i64 (lexC cmpS xs ys)) ∧ Below w.heap.size w w' := by
  have HS := Lib.hid hS
  have HT := Lib.hid hT
  have HN := Lib.hid hn
  have HM := Lib.hid hm
  have HV := Lib.hid hv
  have HV' := Lib.hid hv'
  have B0 := Lib.hid (Below.refl w.heap.size w)
  clear hS hT hn hm hv hv'
  go_enter Try.func63, Try.ntmps63
  go_wp2_with fail
  go_loopw [13] (fun i wr => ∃ k : Nat, k ≤ n ∧ k ≤ m ∧ i = .int .i64 k ∧ lexC cmpS (xs.drop k) (ys.drop k) = lexC cmpS xs ys ∧ Below w.heap.size w wr) (fun i _ => n - (intOf i).toNat)
  case atStart => exact ⟨0, Nat.zero_le _, Nat.zero_le _, rfl, by simp, B0.out⟩
  case round =>
    obtain ⟨k, hkn, hkm, rfl, hsh, hB⟩ := hrel
    have HE := Lib.hid hsh
    have HB := Lib.hid hB
    clear hsh hB
    by_cases h1 : k < n
    · have l1 : k < xs.length := by rw [HN.out]; exact h1
      obtain ⟨g, rfl, hR⟩ := (HS.out.later HB.out).row (by omega)
      have c1 := (hR.cell k l1).1
      have c2 := (hR.cell k l1).2
      have hcap := hR.le
      rw [HN.out] at hcap
      have glt := hR.lt
      obtain ⟨x, hx⟩ : ∃ x, xs[k] = x := ⟨_, rfl⟩
      have hxs : stepB x = true := by rw [← hx]; exact HV.out _ (List.getElem_mem _)
      rw [hx] at c1 c2
      clear hR
      have k1 : (k : Int) < n := by omega
      have k0 : (0 : Int) ≤ k := by omega
      by_cases h2 : k < m
      · have l2 : k < ys.length := by rw [HM.out]; exact h2
        obtain ⟨g', rfl, hR⟩ := (HT.out.later HB.out).row (by omega)
        have hR1 := hR
        have d1 := (hR.cell k l2).1
        have d2 := (hR.cell k l2).2
        have hcap' := hR.le
        rw [HM.out] at hcap'
        have glt' := hR.lt
        obtain ⟨y, hy⟩ : ∃ y, ys[k] = y := ⟨_, rfl⟩
        have hys : stepB y = true := by rw [← hy]; exact HV'.out _ (List.getElem_mem _)
        rw [hy] at d1 d2
        clear hR hR1
        have hgo := lexC_go l1 l2
        rw [hx, hy, HE.out] at hgo
        have hcs := cmpS_or hxs hys
        obtain ⟨c, hc⟩ : ∃ c, cmpS x y = c := ⟨_, rfl⟩
        rw [hc] at hgo hcs
        obtain ⟨nx, hnx⟩ : ∃ z, stN x = z := ⟨_, rfl⟩
        obtain ⟨ny, hny⟩ : ∃ z, stN y = z := ⟨_, rfl⟩
        obtain ⟨ix, hix⟩ : ∃ z, stI x = z := ⟨_, rfl⟩
        obtain ⟨iy, hiy⟩ : ∃ z, stI y = z := ⟨_, rfl⟩
        rw [hnx, hny, hix, hiy] at hcs
        rw [hnx] at c1
        rw [hix] at c2
        rw [hny] at d1
        rw [hiy] at d2
        have K1 : Hid (∀ w, Calls Try.prog 65 #[.agg #[.string (bA nx), .int .i64 ix], .agg #[.string (bA ny), .int .i64 iy]] w fun e w' => e = .returned (.int .i64 c) ∧ Below w.heap.size w w') := Lib.hid (fun w => by
          have := stepcmp_any nx ny ix iy w
          rwa [hcs] at this)
        have HGo := Lib.hid hgo
        clear hgo hcs hc hnx hny hix hiy hx hy hxs hys
        have k2 : (k : Int) < m := by omega
        have hbx : ∀ w1, Below ((wr.alloc (.cells #[.string (bA nx), .int .i64 ix] 66)).alloc (.cells #[.string (bA ny), .int .i64 iy] 66)).heap.size ((wr.alloc (.cells #[.string (bA nx), .int .i64 ix] 66)).alloc (.cells #[.string (bA ny), .int .i64 iy] 66)) w1 → Below w.heap.size w w1 := fun w1 hb =>
          ((HB.out.alloc HB.out.size _).alloc (by have := HB.out.size; simp; omega) _).trans (hb.mono (by have := HB.out.size; simp; omega))
        have HBx := Lib.hid hbx
        clear hbx
        by_cases h0 : c = 0
        · have HG1 : Hid (lexC cmpS (List.drop (k + 1) xs) (List.drop (k + 1) ys) = lexC cmpS xs ys) := Lib.hid (by rw [HGo.out, if_pos h0])
          clear HGo
          subst h0
          go_wp2_with fail
          refine (K1.out _).mono ?_
          rintro e w1 ⟨rfl, hb⟩
          have HB1 := Lib.hid (HBx.out _ hb)
          clear hb
          go_wp2_with fail
          go_roundw
          case rel => exact ⟨k + 1, by omega, by omega, by go_num, HG1.out, HB1.out⟩
          case measure => simp [intOf]; omega
        · have h01 : (c != 0) = true := bne_iff_ne.2 h0
          have HG1 : Hid (lexC cmpS xs ys = c) := Lib.hid (by rw [HGo.out, if_neg h0])
          clear HGo
          go_wp2_with fail
          refine (K1.out _).mono ?_
          rintro e w1 ⟨rfl, hb⟩
          have HB1 := Lib.hid (HBx.out _ hb)
          clear hb
          go_wp2_with fail
          go_ret
          exact ⟨ret_int HG1.out.symm, HB1.out⟩
      · have HL := Lib.hid (lexC_long l1 (by rw [HM.out]; omega))
        have k2 : (m : Int) ≤ k := by omega
        have k3 : decide (m ≤ k) = true := by rw [decide_eq_true_eq]; omega
        go_wp2_with fail
        go_ret
        exact ⟨ret_int (by rw [← HE.out, HL.out]), HB.out.alloc HB.out.size _⟩
    · obtain rfl : k = n := by omega
      by_cases h2 : k < m
      · have HL := Lib.hid (lexC_short (by rw [HN.out]; exact Nat.le_refl _) (by rw [HM.out]; exact h2))
        have k1 : (k : Int) < m := by omega
        go_wp2_with fail
        go_ret
        exact ⟨ret_int (by rw [← HE.out, HL.out]), HB.out⟩
      · have HL := Lib.hid (lexC_end (by rw [HN.out]; exact Nat.le_refl _) (by rw [HM.out]; omega))
        have k1 : ¬ (k : Int) < m := by omega
        have k3 : decide (k < m) = false := by simpa using h2
        go_wp2_with fail
        go_ret
        exact ⟨ret_int (by rw [← HE.out, HL.out]), HB.out⟩

theorem compare_any (p q : ByteArray) (hp : p.size ≤ 100000) (hq : q.size ≤ 100000) (hd : chk (lA p) = 0) (hc : chk (lA q) = 0) (w : World) (hl : Len w) :
    Calls Try.prog 51 #[.string p, .string q] w fun e w' => e = .returned (.int .i64 (cmpP (lA p) (lA q))) ∧ Below w.heap.size w w' := by
  have K1 := Lib.hid (fun w hl => parsed_any p hp w hl)
  have K2 := Lib.hid (fun w hl => parsed_any q hq w hl)
  have HX := Lib.hid (fun (a b : Option Addr) (cap cap' : Nat) (w : World) h1 h2 => comparefunc_any a b cap _ cap' _ (cutL (lA p)) (cutL (lA q)) rfl rfl (cutL_few hp) (cutL_few hq) (chk_zero.1 hd).2.2 (chk_zero.1 hc).2.2 w h1 h2)
  have HL := Lib.hid hl
  clear hd hc hl
  go_enter Try.func51, Try.ntmps51
  go_wp2_with fail
  refine (K1.out _ HL.out).mono ?_
  rintro e w1 ⟨v, rfl, hv, hvn, hb⟩
  obtain ⟨a, cap, rfl, ha⟩ := ssl_of_owned hv hvn
  have HA := Lib.hid ha
  have HB1 := Lib.hid hb
  have HL1 := Lib.hid (HL.out.later hb)
  clear hv hvn ha hb
  go_wp2_with fail
  refine (K2.out _ HL1.out).mono ?_
  rintro e w2 ⟨v, rfl, hv, hvn, hb⟩
  obtain ⟨b, cap', rfl, hbs⟩ := ssl_of_owned hv hvn
  have HA2 := Lib.hid (HA.out.later hb)
  have HC := Lib.hid hbs
  have HB2 := Lib.hid (HB1.out.trans (hb.mono HB1.out.size))
  clear hv hvn hbs hb
  go_wp2_with fail
  refine (HX.out a b cap cap' _ HA2.out HC.out).mono ?_
  rintro e w3 ⟨rfl, hb⟩
  have HB3 := Lib.hid (HB2.out.trans (hb.mono HB2.out.size))
  clear hb
  go_wp2_with fail
  go_ret
  exact ⟨rfl, HB3.out⟩
theorem labcmp_any (p q : ByteArray) (hp : p.size ≤ 100000) (hq : q.size ≤ 100000) (w : World) (hl : Len w) :
    Calls Try.prog 28 #[.string p, .string q] w fun e w' => e = .returned (.tuple #[.int .i64 (cmpR (lA p) (lA q)), .int .i64 (both (lA p) (lA q))]) ∧ Below w.heap.size w w' :=
  labcompare_any p q hp hq (fun hd hc w hl => compare_any p q hp hq hd hc w hl) w hl
end Go.Proofs.Ytjladbgidodhbaa
