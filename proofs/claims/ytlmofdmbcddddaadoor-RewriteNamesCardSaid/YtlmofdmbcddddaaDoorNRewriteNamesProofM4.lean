/-
  Texts of the proof, merged: NWordPrH, NWordPrI, NWordPrJ, NWordLs, NWordUni, NWordLsB, NWordTx, NWordTxB, NWordPs.
-/
import Derived.Test.YtlmofdmbcddddaaDoorNRewriteNamesProofM3
import Derived.Lib.QuietBelow
import Derived.Test.YtlmofdmbcddddaaDoorNRewriteNamesProofM2
import Derived.Lib.FrozenHead2
namespace Go.Proofs.YtlmofdmbcddddaaDoor
open Go.RowKit
open WM
set_option linter.unusedVariables false
set_option linter.unusedSimpArgs false

theorem least (P : Nat → Prop) : ∀ n, P n → ∃ k, k ≤ n ∧ P k ∧ ∀ j, j < k → ¬ P j := by
  intro n
  induction n using Nat.strongRecOn with
  | _ n ih =>
    intro h
    by_cases hx : ∃ j, j < n ∧ P j
    · obtain ⟨j, hj, hp⟩ := hx
      obtain ⟨k, h1, h2, h3⟩ := ih j hj hp
      exact ⟨k, by omega, h2, h3⟩
    · exact ⟨n, Nat.le_refl _, h, fun j hj hp => hx ⟨j, hj, hp⟩⟩
/-- Where the open brackets climb to D for the last time ahead of b. -/
theorem climb {l : List Md} (D : Int) (a : Nat) : ∀ b, a < b → b ≤ l.length → dep (l.take a) < D → D ≤ dep (l.take b) →
    ∃ j, ∃ h : j < l.length, a ≤ j ∧ j < b ∧ l[j].c = 91 ∧ dep (l.take (j + 1)) = D ∧ ∀ i, (hi : i < l.length) → j < i → i < b → ¬ (l[i].c = 91 ∧ dep (l.take (i + 1)) = D) := by
  intro b
  induction b with
  | zero => intro h; omega
  | succ b ih =>
    intro hab hbl h1 h2
    have hb : b < l.length := by omega
    have hs := dep_snoc hb
    by_cases hP : l[b].c = 91 ∧ dep (l.take (b + 1)) = D
    · exact ⟨b, hb, by omega, by omega, hP.1, hP.2, fun i _ h3 h4 => by omega⟩
    · by_cases h3 : D ≤ dep (l.take b)
      · rcases Nat.lt_or_eq_of_le (Nat.le_of_lt_succ hab) with h4 | h4
        · obtain ⟨j, hj, g1, g2, g3, g4, g5⟩ := ih h4 (by omega) h1 h3
          refine ⟨j, hj, g1, by omega, g3, g4, fun i hi h5 h6 => ?_⟩
          rcases Nat.lt_or_eq_of_le (Nat.le_of_lt_succ h6) with h7 | h7
          · exact g5 i hi h5 h7
          · subst h7; exact hP
        · subst h4; omega
      · exfalso
        have h5 : dlt l[b] = 1 := by rcases dlt_cases l[b] with h | h | h <;> omega
        have h6 : l[b].c = 91 := by
          unfold dlt at h5
          split at h5
          · assumption
          · split at h5 <;> omega
        exact hP ⟨h6, by omega⟩
theorem isCl_ex {l : List Md} (h0 : chk l = 0) {i : Nat} (hi : i < l.length) (hb : braB l[i].c = true) : ∃ k, IsCl l i k := by
  have hok := (chk_zero.1 h0).2.2.1
  have hall : dep (l.take l.length) = 0 := by rw [List.take_length]; exact (chk_zero.1 h0).2.2.2
  have hs := dep_snoc hi
  have hge : ∀ k, k ≤ l.length → 0 ≤ dep (l.take k) := by
    intro k hk
    rcases Nat.eq_zero_or_pos k with h | h
    · subst h; simp [dep_nil]
    · have := okB_iff.1 hok (k - 1) (by omega)
      rwa [show k - 1 + 1 = k by omega] at this
  rcases bra_cases hb with hc | hc
  · have hd : dlt l[i] = 1 := by unfold dlt; rw [if_pos hc]
    have h1 := hge i (by omega)
    have hlt : i + 1 < l.length := by
      rcases Nat.lt_or_eq_of_le (show i + 1 ≤ l.length from hi) with h | h
      · exact h
      · rw [h, hall] at hs; omega
    obtain ⟨k, g1, ⟨g2, g3⟩, g4⟩ := least (fun k => i < k ∧ dep (l.take (k + 1)) < dep (l.take (i + 1))) (l.length - 1) ⟨by omega, by rw [show l.length - 1 + 1 = l.length by omega, hall]; omega⟩
    refine ⟨k, hi, by omega, .inl ⟨hc, g2, g3, fun j h3 h4 => ?_⟩⟩
    have := g4 j h4
    rcases Int.lt_or_le (dep (l.take (j + 1))) (dep (l.take (i + 1))) with h | h
    · exact absurd ⟨h3, h⟩ this
    · exact h
  · have hd : dlt l[i] = -1 := by unfold dlt; rw [if_neg (by rw [hc]; decide), if_pos hc]
    have h1 := hge (i + 1) (by omega)
    have hpos : 0 < i := by
      rcases Nat.eq_zero_or_pos i with h | h
      · subst h
        have e : dep (l.take 0) = 0 := by simp [dep_nil]
        omega
      · exact h
    obtain ⟨k, hk, g1, g2, g3, g4, g5⟩ := climb (l := l) (dep (l.take (i + 1)) + 1) 0 i hpos (by omega) (by simp [dep_nil]; omega) (by omega)
    exact ⟨k, hi, hk, .inr ⟨hc, g2, g3, g4, g5⟩⟩
/-- Does the loop stop at j? -/
def stopA (l : List Md) (i j : Nat) : Bool := braB (l.getD j ⟨0, []⟩).c && decide (lvlA l j = lvlA l i)
theorem cl_fwd {l : List Md} {i k : Nat} (h : IsCl l i k) (hi : i < l.length) (hc : l[i].c = 91) : i < k ∧ k < l.length ∧ (∀ j, (hj : j < l.length) → i < j → j < k → braB l[j].c = false ∨ lvlA l j ≠ lvlA l i) ∧ (∀ hk : k < l.length, braB l[k].c = true ∧ lvlA l k = lvlA l i) := by
  obtain ⟨_, hk, h⟩ := h
  rcases h with ⟨_, g2, g3, g4⟩ | ⟨g1, _⟩
  · have hLi : lvlA l i = dep (l.take (i + 1)) := by rw [lvlA_eq hi, if_neg (by rw [hc]; decide), Int.add_zero]
    have hbef : ∀ j, i < j → j ≤ k → dep (l.take (i + 1)) ≤ dep (l.take j) := by
      intro j h1 h2
      rcases Nat.lt_or_eq_of_le (show i + 1 ≤ j from h1) with h | h
      · have := g4 (j - 1) (by omega) (by omega)
        rwa [show j - 1 + 1 = j by omega] at this
      · rw [← h]; exact Int.le_refl _
    refine ⟨g2, hk, fun j hj h1 h2 => ?_, fun hk => ?_⟩
    · cases hb : braB l[j].c
      · exact .inl rfl
      · right
        have hs := dep_snoc hj
        have hp := hbef j h1 (by omega)
        have hq := g4 j h1 h2
        rw [hLi, lvlA_eq hj]
        rcases bra_cases hb with h | h
        · have hd : dlt l[j] = 1 := by unfold dlt; rw [if_pos h]
          rw [if_neg (by rw [h]; decide)]; omega
        · rw [if_pos h]; omega
    · have hs := dep_snoc hk
      have hp := hbef k g2 (Nat.le_refl _)
      have hd : dlt l[k] = -1 := by rcases dlt_cases l[k] with h | h | h <;> omega
      have hc2 : l[k].c = 93 := by
        unfold dlt at hd
        split at hd
        · omega
        · split at hd
          · assumption
          · omega
      refine ⟨by rw [hc2]; rfl, ?_⟩
      rw [hLi, lvlA_eq hk, if_pos hc2]; omega
  · rw [hc] at g1; exact absurd g1 (by decide)
theorem cl_bwd {l : List Md} {i k : Nat} (h : IsCl l i k) (hi : i < l.length) (hc : l[i].c = 93) : k < i ∧ (∀ j, (hj : j < l.length) → k < j → j < i → braB l[j].c = false ∨ lvlA l j ≠ lvlA l i) ∧ (∀ hk : k < l.length, braB l[k].c = true ∧ lvlA l k = lvlA l i) := by
  obtain ⟨_, hk, h⟩ := h
  rcases h with ⟨g1, _⟩ | ⟨_, g2, g3, g4, g5⟩
  · rw [hc] at g1; exact absurd g1 (by decide)
  · have hLi : lvlA l i = dep (l.take (i + 1)) + 1 := by rw [lvlA_eq hi, if_pos hc]
    have hsi := dep_snoc hi
    have hdi : dlt l[i] = -1 := by unfold dlt; rw [if_neg (by rw [hc]; decide), if_pos hc]
    refine ⟨g2, fun j hj h1 h2 => ?_, fun hk => ?_⟩
    · cases hb : braB l[j].c
      · exact .inl rfl
      · right
        rw [hLi, lvlA_eq hj]
        rcases bra_cases hb with h | h
        · rw [if_neg (by rw [h]; decide), Int.add_zero]
          exact fun e => g5 j hj h1 h2 ⟨h, e⟩
        · rw [if_pos h]
          intro e
          have e2 : dep (l.take (j + 1)) = dep (l.take (i + 1)) := by omega
          rcases Nat.lt_or_eq_of_le (show j + 1 ≤ i from h2) with h3 | h3
          · obtain ⟨m, hm, q1, q2, q3, q4, _⟩ := climb (l := l) (dep (l.take (i + 1)) + 1) (j + 1) i h3 (by omega) (by omega) (by omega)
            exact g5 m hm (by omega) q2 ⟨q3, q4⟩
          · rw [h3] at e2; omega
    · refine ⟨by rw [g3]; rfl, ?_⟩
      rw [hLi, lvlA_eq hk, if_neg (by rw [g3]; decide), Int.add_zero]; exact g4
end Go.Proofs.YtlmofdmbcddddaaDoor
namespace Go.Proofs.YtlmofdmbcddddaaDoor
open Go.RowKit
open WM
set_option linter.unusedVariables false
set_option linter.unusedSimpArgs false

end Go.Proofs.YtlmofdmbcddddaaDoor
namespace Go.Proofs.YtlmofdmbcddddaaDoor
open Go.RowKit
open WM
set_option linter.unusedVariables false
set_option linter.unusedSimpArgs false

/-- How Join ends. -/
def PJnEnd (a b : List Md) (w : World) (e : Ending) (w' : World) : Prop :=
  Below w.heap.size w w' ∧ ((chk a ≠ 0 ∧ e = .returned (.tuple #[.slice none 0 0, .int .i64 (chk a)])) ∨ (chk a = 0 ∧ chk b ≠ 0 ∧ e = .returned (.tuple #[.slice none 0 0, .int .i64 (chk b)])) ∨
    (chk a = 0 ∧ chk b = 0 ∧ 2000 < a.length + b.length ∧ e = .returned (.tuple #[.slice none 0 0, .int .i64 4])) ∨ (chk a = 0 ∧ chk b = 0 ∧ ¬ 2000 < a.length + b.length ∧ ∃ v vs, e = .returned (.tuple #[v, .int .i64 0]) ∧ ModFr w' w.heap.size v (a ++ b) vs))
end Go.Proofs.YtlmofdmbcddddaaDoor
namespace Go.Proofs.YtlmofdmbcddddaaDoor
open Go.RowKit
open WM
set_option linter.unusedVariables false
set_option linter.unusedSimpArgs false

theorem pcs_mem_len (s : Bs) : ∀ p ∈ pcs s, p.length ≤ s.length := by
  induction s with
  | nil => intro p hp; simp [pcs] at hp; simp [hp]
  | cons c t ih =>
    intro p hp
    unfold pcs at hp
    split at hp
    · rcases List.mem_cons.1 hp with h | h
      · simp [h]
      · have := ih p h; simp; omega
    · split at hp
      · rename_i q qs e
        rcases List.mem_cons.1 hp with h | h
        · have := ih q (by rw [e]; simp)
          rw [h]; simp; omega
        · have := ih p (by rw [e]; simp [h])
          simp; omega
      · simp at hp; simp [hp]
theorem looseA_length (s : Bs) : (looseA s).length = (pcs s).length := by simp [looseA]
theorem looseA_get {s : Bs} {k : Nat} (h : k < (pcs s).length) (h2 : k < (looseA s).length) : (looseA s)[k] = atoiV (pcs s)[k] := by simp [looseA]
theorem valsL_snoc {l : List Int} {k : Nat} (h : k < l.length) : valsL (l.take (k + 1)) = valsL (l.take k) ++ [.int .i64 l[k]] := by
  unfold valsL; rw [List.take_succ_eq_append_getElem h, List.map_append]; rfl
/-- Where looseArgs stands. -/
structure LaAt (w1 : World) (l : List Int) (k : Nat) (v : Value) (wr : World) : Prop where
  hi : k ≤ l.length
  below : Below w1.heap.size w1 wr
  own : wr.ownsRow w1.heap.size 3 1 v k (valsL (l.take k))
/-- How looseArgs ends. -/
def LaEnd (l : List Int) (w : World) (e : Ending) (w' : World) : Prop := ∃ v, e = .returned v ∧ Below w.heap.size w w' ∧ w'.ownsRow w.heap.size 3 1 v l.length (valsL l)
set_option maxRecDepth 100000 in
set_option maxHeartbeats 1600000 in
theorem largs_any (s : ByteArray) (hs : s.size ≤ 50000) (w : World) (he : Env w) :
    Calls Tryd.prog 45 #[.string s] w (LaEnd (looseA (lA s)) w) := by
  have KS := Lib.hid (split_lib s (by omega) w he)
  have hpl : (pcs (lA s)).length ≤ 50001 := by have := pcs_len (lA s); rw [lA_len] at this; omega
  have HPM := Lib.hid (pcs_mem_len (lA s))
  have HLL := Lib.hid (looseA_length (lA s))
  have HG := Lib.hid (fun k h h2 => looseA_get (s := lA s) (k := k) h h2)
  have HSz := Lib.hid (lA_len s)
  have HEn := Lib.hid he
  obtain ⟨i0, hi, hz0, hz1, hz2⟩ := info_parts info_int
  have HM : Hid (maxLen = 9223372036854775807) := Lib.hid rfl
  generalize looseA (lA s) = la at HLL HG ⊢
  generalize pcs (lA s) = ps at KS hpl HPM HLL HG
  obtain ⟨W1, hW1⟩ : ∃ W, W = w.alloc (.cells (ps.map fun l => Value.string (bA l)).toArray 9) := ⟨_, rfl⟩
  have B1 : Below w.heap.size w W1 := by rw [hW1]; exact (Below.refl _ _).alloc (Nat.le_refl _) _
  have S1 : W1.heap.size = w.heap.size + 1 := by rw [hW1]; simp
  have HC : Hid (∀ k, (h : k < ps.length) → W1.cell? ⟨w.heap.size, k, none⟩ = some (.string (bA ps[k]))) := Lib.hid (fun k h => by
    have : W1.heap[w.heap.size]? = some (.cells (ps.map fun l => Value.string (bA l)).toArray 9 (0, 0)) := by rw [hW1]; exact heap_alloc_new _ _
    simp only [World.cell?, this]
    simp [h])
  have HB1 := Lib.hid B1
  have HE1 := Lib.hid (he.later B1)
  rw [← hW1] at KS
  clear he B1 hW1
  go_enter Tryd.func45, Tryd.ntmps45
  go_wp2_with fail
  refine KS.out.mono ?_
  rintro e w1 ⟨rfl, rfl⟩
  go_wp2_with fail
  go_loopw [3, 11] (fun v i wr => ∃ k : Nat, i = .int .i64 k ∧ LaAt w1 la k v wr) (fun _ i _ => ps.length - (intOf i).toNat)
  case atStart => exact ⟨0, rfl, Nat.zero_le _, Below.refl _ _, World.ownsRow_nil _ _ _ _⟩
  case round =>
    obtain ⟨k, rfl, hS⟩ := hrel
    have HS := Lib.hid hS
    have n1 := hS.hi
    have hsz := hS.below.size
    rw [HLL.out] at n1
    clear hS
    by_cases hlt : k < ps.length
    · have k1 : (k : Int) < (ps.length : Int) := by omega
      have e1 := (HS.out.below.cell (p := ⟨w.heap.size, k, none⟩) (by show w.heap.size < w1.heap.size; omega)).trans (HC.out k hlt)
      have lt1 : w.heap.size < wr.heap.size := by omega
      have hpk := HPM.out _ (List.getElem_mem hlt)
      rw [HSz.out] at hpk
      have hbs : (bA ps[k]).size = ps[k].length := by rw [← lA_len, lA_bA]
      have KA := Lib.hid (atoi_lib (bA ps[k]) (by omega) wr (HE1.out.later HS.out.below))
      rw [lA_bA] at KA
      have hkl : k < la.length := by rw [HLL.out]; exact hlt
      have HX := Lib.hid (valsL_snoc hkl)
      rw [HG.out k hlt hkl] at HX
      clear hbs hpk
      generalize bA ps[k] = y at e1 KA
      generalize atoiV ps[k] = x at KA HX
      go_wp2_with fail
      refine KA.out.mono ?_
      rintro e w2 ⟨⟨xx, rfl⟩, hb⟩
      have P5 := Lib.hid ((l_own_later HS.out.own hb).alloc (.cells #[.int .i64 x] 3))
      have B2 := Lib.hid (HS.out.below.trans (hb.mono hsz))
      have z2 := B2.out.size
      clear hb
      go_wp2_with (at_builtin; refine wpList_append_own _ rfl _ _ 23 rfl w1.heap.size 3 i0 (.int .i64 0) 1 8 Tryd.underlying23 hi hz0 hz1 hz2 rfl (by decide) u3 k (valsL (la.take k)) rfl P5.out ⟨w2.heap.size, 0, none⟩ 1 1 [.int .i64 x] rfl rfl (cell_one_new _ _ _) (by simp [Value.oneCell']) (by rw [HM.out]; omega) (by omega) (by simp; omega) ?_; intro v2 w3 ho2 hg2 hn2)
      have T1 : Hid (LaAt w1 la (k + 1) v2 w3) := Lib.hid ⟨hkl, (B2.out.alloc z2 _).grown hg2 (by simp; omega) (fun j e => (owns_lt P5.out j e).1), by rw [HX.out]; exact ho2⟩
      clear ho2 hg2 hn2
      go_wp2_with fail
      go_roundw
      case rel => exact ⟨k + 1, by go_num, T1.out⟩
      case measure => simp [intOf]; omega
    · have hk : k = la.length := by rw [HLL.out]; omega
      have k1 : ¬ (k : Int) < (ps.length : Int) := by omega
      have HF : Hid (LaEnd la w (.returned u3) wr) := Lib.hid ⟨_, rfl, HB1.out.trans (HS.out.below.mono HB1.out.size), by have := owns_mono HS.out.own HB1.out.size; rw [hk, List.take_length] at this; exact this⟩
      clear hk
      go_wp2_with fail
      go_ret
      exact HF.out
end Go.Proofs.YtlmofdmbcddddaaDoor
namespace Go.Proofs.YtlmofdmbcddddaaDoor
open Go.RowKit
open WM
set_option linter.unusedVariables false
set_option linter.unusedSimpArgs false

/-- Join's error and word. -/
def jC (a b : List Md) : Int := if chk a ≠ 0 then chk a else if chk b ≠ 0 then chk b else if 2000 < a.length + b.length then 4 else 0
def jL (a b : List Md) : List Md := if jC a b = 0 then a ++ b else []
theorem jC_1 {a b : List Md} (h : chk a ≠ 0) : jC a b = chk a := by unfold jC; rw [if_pos h]
theorem jC_2 {a b : List Md} (h : chk a = 0) (h2 : chk b ≠ 0) : jC a b = chk b := by unfold jC; rw [if_neg (by simp [h]), if_pos h2]
theorem jC_3 {a b : List Md} (h : chk a = 0) (h2 : chk b = 0) (h3 : 2000 < a.length + b.length) : jC a b = 4 := by unfold jC; rw [if_neg (by simp [h]), if_neg (by simp [h2]), if_pos h3]
theorem jC_4 {a b : List Md} (h : chk a = 0) (h2 : chk b = 0) (h3 : ¬ 2000 < a.length + b.length) : jC a b = 0 := by unfold jC; rw [if_neg (by simp [h]), if_neg (by simp [h2]), if_neg h3]
theorem jL_no {a b : List Md} (h : jC a b ≠ 0) : jL a b = [] := by unfold jL; rw [if_neg h]
theorem jL_yes {a b : List Md} (h : jC a b = 0) : jL a b = a ++ b := by unfold jL; rw [if_pos h]
/-- How Join ends, in one way. -/
def UJnEnd (a b : List Md) (w : World) (e : Ending) (w' : World) : Prop :=
  ∃ v vs, e = .returned (.tuple #[v, .int .i64 (jC a b)]) ∧ Below w.heap.size w w' ∧ ModFr w' w.heap.size v (jL a b) vs
/-- Strip's word. -/
def sL (l : List Md) : List Md := if chk l = 0 then trunk l l.length else []
def UStEnd (l : List Md) (w : World) (e : Ending) (w' : World) : Prop :=
  ∃ v vs, e = .returned (.tuple #[v, .int .i64 (chk l)]) ∧ Below w.heap.size w w' ∧ ModFr w' w.heap.size v (sL l) vs
/-- Close's index and error. -/
noncomputable def clV (l : List Md) (i : Int) : Int := by
  classical
  exact if h : chk l = 0 ∧ ∃ j k : Nat, i = (j : Int) ∧ IsCl l j k then (Classical.choose (Classical.choose_spec h.2) : Nat) else 0
noncomputable def clC (l : List Md) (i : Int) : Int := if chk l ≠ 0 then chk l else if atB l i = true then 0 else 2
theorem atB_of_cl {l : List Md} {j k : Nat} (h : IsCl l j k) : atB l (j : Int) = true := by
  obtain ⟨hi, hk, h⟩ := h
  refine atB_iff.2 ⟨j, rfl, hi, ?_⟩
  rcases h with ⟨h, _⟩ | ⟨h, _⟩ <;> rw [h] <;> rfl
theorem cl_u {l : List Md} {i : Int} {w : World} {e : Ending} {w' : World} (h : ClEnd l i w e w') : e = .returned (.tuple #[.int .i64 (clV l i), .int .i64 (clC l i)]) ∧ Below w.heap.size w w' := by
  obtain ⟨hb, ⟨h0, rfl⟩ | ⟨h0, h1, rfl⟩ | ⟨h0, j, k, rfl, hk, rfl⟩⟩ := h
  · refine ⟨?_, hb⟩
    have e1 : clV l i = 0 := by unfold clV; rw [dif_neg (fun h => h0 h.1)]
    have e2 : clC l i = chk l := by unfold clC; rw [if_pos h0]
    rw [e1, e2]
  · refine ⟨?_, hb⟩
    have e1 : clV l i = 0 := by
      unfold clV; rw [dif_neg]
      rintro ⟨_, j, k, rfl, h⟩
      rw [atB_of_cl h] at h1; exact absurd h1 (by simp)
    have e2 : clC l i = 2 := by unfold clC; rw [if_neg (by simp [h0]), if_neg (by rw [h1]; simp)]
    rw [e1, e2]
  · refine ⟨?_, hb⟩
    have hx : chk l = 0 ∧ ∃ j' k' : Nat, ((j : Nat) : Int) = (j' : Int) ∧ IsCl l j' k' := ⟨h0, j, k, rfl, hk⟩
    have e1 : clV l (j : Int) = (k : Int) := by
      unfold clV; rw [dif_pos hx]
      have hs := Classical.choose_spec (Classical.choose_spec hx.2)
      have hj : Classical.choose hx.2 = j := by have := hs.1; omega
      have h2 := hs.2
      have : Classical.choose (Classical.choose_spec hx.2) = k := by
        generalize Classical.choose (Classical.choose_spec hx.2) = k2 at h2
        generalize Classical.choose hx.2 = j2 at hj h2
        subst hj
        exact isCl_one h2 hk
      rw [this]
    have e2 : clC l (j : Int) = 0 := by unfold clC; rw [if_neg (by simp [h0]), if_pos (atB_of_cl hk)]
    rw [e1, e2]
end Go.Proofs.YtlmofdmbcddddaaDoor
namespace Go.Proofs.YtlmofdmbcddddaaDoor
open Go.RowKit
open WM
set_option linter.unusedVariables false
set_option linter.unusedSimpArgs false

/-- Where loose stands. -/
structure LsAt (w : World) (s : Bs) (d : List Md) (r : ByteArray) (v : Value) (wr : World) : Prop where
  eq : looseM s = d ++ looseM (lA r)
  few : d.length + r.size ≤ s.length
  below : Below w.heap.size w wr
  own : ∃ vs, ModFr wr w.heap.size v d vs
/-- How loose ends. -/
def LsEnd (l : List Md) (w : World) (e : Ending) (w' : World) : Prop := ∃ v vs, e = .returned v ∧ Below w.heap.size w w' ∧ ModFr w' w.heap.size v l vs
set_option maxRecDepth 100000 in
set_option maxHeartbeats 3200000 in
theorem loose_any (s : ByteArray) (hs : s.size ≤ 50000) (w : World) (he : Env w) :
    Calls Tryd.prog 36 #[.string s] w (LsEnd (looseM (lA s)) w) := by
  have HEn := Lib.hid he
  obtain ⟨j0, hj, hy0, hy1, hy2⟩ := info_parts info_mod
  have HM : Hid (maxLen = 9223372036854775807) := Lib.hid rfl
  have S0 : Hid (LsAt w (lA s) [] s (.slice none 0 0) w) := Lib.hid ⟨rfl, by rw [lA_len]; simp, Below.refl _ _, [], modFr_nil _ _⟩
  have hL := lA_len s
  have hL2 : (lA s).length ≤ 50000 := by omega
  generalize lA s = L at S0 hL2 ⊢
  clear he hL hs
  go_enter Tryd.func36, Tryd.ntmps36
  go_wp2_with fail
  go_loopw [0, 3] (fun x v wr => ∃ d r, x = .string r ∧ LsAt w L d r v wr) (fun x _ _ => match x with | .string r => r.size | _ => 0)
  case atStart => exact ⟨[], s, rfl, S0.out⟩
  case round =>
    obtain ⟨d, r, rfl, hS⟩ := hrel
    have HS := Lib.hid hS
    have n1 := hS.few
    have hsz := hS.below.size
    clear hS
    rcases hr : lA r with _ | ⟨c, t⟩
    · obtain rfl : r = ⟨#[]⟩ := lA_inj (by rw [hr]; rfl)
      have HF : Hid (LsEnd (looseM L) w (.returned u3) wr) := Lib.hid (by
        obtain ⟨vs, hm⟩ := HS.out.own
        have e := HS.out.eq
        rw [hr, looseM_nil, List.append_nil] at e
        exact ⟨_, vs, rfl, HS.out.below, by rw [e]; exact hm⟩)
      go_wp2_with fail
      go_ret
      exact HF.out
    · have hsz1 := lA_len r
      rw [hr] at hsz1
      have h0 : 0 < r.size := by rw [← hsz1]; simp
      have hc : r[0] = c := by
        have := lA_get r 0 h0 (by rw [hr]; simp)
        rw [← this]
        simp [hr]
      have hne : r.toList.isEmpty = false := by
        rw [ByteArray.toList_eq]
        have : r.data.toList = c :: t := hr
        rw [this]; rfl
      have ht : lA (r.extract 1 r.size) = t := by
        unfold lA at hr ⊢
        have h9 : r.size - 1 = t.length := by
          have : (c :: t).length = r.size := hsz1
          simp at this; omega
        rw [ByteArray.data_extract, Array.toList_extract, List.extract_eq_take_drop, hr, h9]
        show (List.drop 1 (c :: t)).take t.length = t
        simp
      have hsz2 : (r.extract 1 r.size).size = t.length := by rw [← lA_len, ht]
      have htl : t.length + 1 = r.size := by simpa using hsz1
      obtain ⟨vs, hM⟩ := HS.out.own
      have HMF := Lib.hid hM
      have HEq := Lib.hid HS.out.eq
      rw [hr] at HEq
      obtain ⟨W1, hW1⟩ : ∃ W, W = wr.alloc (.cells #[.int .u8 c.toNat, .slice none 0 0] 25) := ⟨_, rfl⟩
      have N1 : W1.heap[wr.heap.size]? = some (.cells #[.int .u8 c.toNat, .slice none 0 0] 25 (0, 0)) := by rw [hW1]; exact heap_alloc_new _ _
      have B1 : Below wr.heap.size wr W1 := by rw [hW1]; exact (Below.refl _ _).alloc (Nat.le_refl _) _
      have Z1 : W1.heap.size = wr.heap.size + 1 := by rw [hW1]; simp
      have HE1 := Lib.hid (HEn.out.later (HS.out.below.trans (B1.mono hsz)))
      have KP := Lib.hid (prefix_lib (r.extract 1 r.size) 40 W1)
      rw [ht] at KP
      by_cases hh : t.head? = some 40
      · rw [decide_eq_true hh, if_pos hh] at KP
        have HEq2 : Hid (looseM L = (d ++ [⟨c, looseA (Lib.cut t.tail [41]).1⟩]) ++ looseM (Lib.cut t.tail [41]).2.1) := Lib.hid (by rw [HEq.out, looseM_arg hh]; simp)
        have htt : t.tail.length ≤ t.length := by simp
        have hbt : (bA t.tail).size = t.tail.length := by rw [← lA_len, lA_bA]
        have KC := Lib.hid (cut_lib (bA t.tail) 41 (by omega) W1 HE1.out)
        rw [lA_bA] at KC
        have hcl := cut_len t.tail 41
        have hcr := cut_rest t.tail 41
        have hti : (bA (Lib.cut t.tail [41]).1).size ≤ 50000 := by rw [← lA_len, lA_bA]; omega
        have hto : (bA (Lib.cut t.tail [41]).2.1).size ≤ t.length := by rw [← lA_len, lA_bA]; omega
        have KA := Lib.hid (fun w he => largs_any (bA (Lib.cut t.tail [41]).1) hti w he)
        rw [lA_bA] at KA
        have HLo : Hid (lA (bA (Lib.cut t.tail [41]).2.1) = (Lib.cut t.tail [41]).2.1) := Lib.hid (lA_bA _)
        generalize (Lib.cut t.tail [41]).1 = si at HEq2 KC KA hti
        generalize (Lib.cut t.tail [41]).2.1 = so at HEq2 KC hto HLo
        generalize (Lib.cut t.tail [41]).2.2 = sb at KC
        generalize bA so = SO at KC hto HLo
        generalize bA si = SI at KC KA hti
        generalize bA t.tail = ST at KP KC
        clear hcl hcr hbt htt hM
        go_wp2_with fail
        rw [← hW1]
        clear hW1
        refine KP.out.mono ?_
        rintro e wx ⟨rfl, rfl⟩
        go_wp2_with fail
        refine KC.out.mono ?_
        rintro e W2 ⟨rfl, hb⟩
        have N2 := (hb.block wr.heap.size (by omega)).trans N1
        have B2 := Lib.hid (B1.trans (hb.mono B1.size))
        have HE2 := Lib.hid (HE1.out.later hb)
        have Z2 := hb.size
        clear hb
        go_wp2_with fail
        refine (KA.out _ HE2.out).mono ?_
        rintro e W3 ⟨v', rfl, hb, ho⟩
        have N3 := (hb.block wr.heap.size (by omega)).trans N2
        have B3 := Lib.hid (B2.out.trans (hb.mono B2.out.size))
        have Z3 := hb.size
        have HO3 := Lib.hid ho
        obtain ⟨p2, n2, c2, rfl⟩ : ∃ p n c, v' = .slice p n c := by
          rcases nilOr_of_owned ho with h | ⟨ad, n, c, h⟩
          · exact ⟨_, _, _, h⟩
          · exact ⟨_, _, _, h⟩
        have q0 := cell_two0 N3
        have q1 := cell_two1 N3
        have f1 : W3.frozen? ⟨wr.heap.size, 1, none⟩ = false := by simp [World.frozen?, N3]
        have l3 := lt_of_block N3
        have BX : Hid (Below wr.heap.size wr ((W3.setCell ⟨wr.heap.size, 1, none⟩ (.slice p2 n2 c2)).alloc (.cells #[.int .u8 c.toNat, .slice p2 n2 c2] 25))) := Lib.hid ((B3.out.setCell (Nat.le_refl _) _).alloc (by simp; exact B3.out.size) _)
        have P5 := Lib.hid (l_own_later HMF.out.row BX.out)
        have A5 : Hid (((W3.setCell ⟨wr.heap.size, 1, none⟩ (.slice p2 n2 c2)).alloc (.cells #[.int .u8 c.toNat, .slice p2 n2 c2] 25)).ownsRow wr.heap.size 3 1 (.slice p2 n2 c2) (looseA si).length (valsL (looseA si))) := Lib.hid (by
          refine ((ownsRow_setCell_other (owns_mono ho (by omega)) ?_ _).alloc _)
          intro e
          have := (owns_lt ho _ e).1
          simp at this; omega)
        have hdl : d.length ≤ 50000 := by omega
        clear hb ho N1 N2 N3 B1
        obtain ⟨n, hn⟩ : ∃ n, d.length = n := ⟨_, rfl⟩
        rw [hn] at hdl P5
        have HN := Lib.hid hn
        clear hn
        go_wp2_with (at_builtin; refine wpList_append_own_at _ rfl _ _ 41 rfl w.heap.size 25 j0 (.agg #[.int .u8 0, .slice none 0 0]) 2 32 Tryd.underlying41 hj hy0 hy1 hy2 rfl (by decide) u3 n (modC d vs) rfl P5.out ⟨W3.heap.size, 0, none⟩ 1 1 [.int .u8 c.toNat, .slice p2 n2 c2] rfl rfl (fun j u h => by have h9 := two_new (W3.setCell ⟨wr.heap.size, 1, none⟩ (.slice p2 n2 c2)) (.int .u8 c.toNat) (.slice p2 n2 c2) 25 j u h; simpa using h9) (by simp [Value.oneCell']) (by rw [HM.out]; omega) (by omega) (by simp; omega) ?_; intro v2 w5 ho2 hg2 hn2 hb2)
        have M5 := Lib.hid (modFr_snoc (m := ⟨c, looseA si⟩) HMF.out hsz BX.out A5.out (by rw [HN.out]; exact ho2) hg2 hb2)
        have BW : Hid (Below w.heap.size w w5) := Lib.hid ((HS.out.below.trans (BX.out.mono hsz)).grown hg2 (by have := BX.out.size; omega) (fun j e => (owns_lt HMF.out.row j e).1))
        have HT : Hid (LsAt w L (d ++ [⟨c, looseA si⟩]) SO v2 w5) := Lib.hid ⟨by rw [HEq2.out, HLo.out], by rw [List.length_append, List.length_singleton]; have := HN.out; omega, BW.out, _, M5.out⟩
        clear ho2 hg2 hn2 hb2
        go_wp2_with fail
        go_roundw
        case rel => exact ⟨_, SO, rfl, HT.out⟩
        case measure => simp; omega
      · have HEq2 : Hid (looseM L = (d ++ [⟨c, []⟩]) ++ looseM t) := Lib.hid (by rw [HEq.out, looseM_bare hh]; simp)
        rw [decide_eq_false hh, if_neg hh] at KP
        have HLo := Lib.hid ht
        have hto := hsz2
        have BX : Hid (Below wr.heap.size wr (W1.alloc (.cells #[.int .u8 c.toNat, .slice none 0 0] 25))) := Lib.hid (B1.alloc B1.size _)
        have P5 := Lib.hid (l_own_later HMF.out.row BX.out)
        have Z2 : wr.heap.size < W1.heap.size := by omega
        clear Z1
        have A5 : Hid ((W1.alloc (.cells #[.int .u8 c.toNat, .slice none 0 0] 25)).ownsRow wr.heap.size 3 1 (.slice none 0 0) 0 (valsL [])) := Lib.hid (World.ownsRow_nil _ _ _ _)
        have q0 := cell_two0 N1
        have q1 := cell_two1 N1
        have l1 := lt_of_block N1
        have hdl : d.length ≤ 50000 := by omega
        clear hM N1 B1
        obtain ⟨n, hn⟩ : ∃ n, d.length = n := ⟨_, rfl⟩
        rw [hn] at hdl P5
        have HN := Lib.hid hn
        clear hn
        go_wp2_with fail
        rw [← hW1]
        clear hW1
        refine KP.out.mono ?_
        rintro e wx ⟨rfl, hwx⟩
        rw [← hwx]
        clear hwx
        go_wp2_with (at_builtin; refine wpList_append_own_at _ rfl _ _ 41 rfl w.heap.size 25 j0 (.agg #[.int .u8 0, .slice none 0 0]) 2 32 Tryd.underlying41 hj hy0 hy1 hy2 rfl (by decide) u3 n (modC d vs) rfl P5.out ⟨W1.heap.size, 0, none⟩ 1 1 [.int .u8 c.toNat, .slice none 0 0] rfl rfl (two_new _ _ _ _) (by simp [Value.oneCell']) (by rw [HM.out]; omega) (by omega) (by simp; omega) ?_; intro v2 w5 ho2 hg2 hn2 hb2)
        have M5 := Lib.hid (modFr_snoc (m := ⟨c, []⟩) HMF.out hsz BX.out A5.out (by rw [HN.out]; exact ho2) hg2 hb2)
        have BW : Hid (Below w.heap.size w w5) := Lib.hid ((HS.out.below.trans (BX.out.mono hsz)).grown hg2 (by have := BX.out.size; omega) (fun j e => (owns_lt HMF.out.row j e).1))
        have HT : Hid (LsAt w L (d ++ [⟨c, []⟩]) (r.extract 1 r.size) v2 w5) := Lib.hid ⟨by rw [HEq2.out, HLo.out], by rw [List.length_append, List.length_singleton]; have := HN.out; omega, BW.out, _, M5.out⟩
        clear ho2 hg2 hn2 hb2
        go_wp2_with fail
        go_roundw
        case rel => exact ⟨_, r.extract 1 r.size, rfl, HT.out⟩
        case measure => simp; omega
end Go.Proofs.YtlmofdmbcddddaaDoor
namespace Go.Proofs.YtlmofdmbcddddaaDoor
open Go.RowKit
open WM
set_option linter.unusedVariables false
set_option linter.unusedSimpArgs false

/-- A builder under way. -/
def Bon (b : Nat) (acc : Bs) (w : World) : Prop := Lib.IsBuilderF 75 5 b b (Lib.byteCells acc) w
theorem Bon.of {b : Nat} {acc : Bs} {w : World} (h : Bld b b (Lib.byteCells acc) w) : Bon b acc w := .inr h
theorem Bon.fresh (w : World) : Bon w.heap.size [] (w.alloc (.cells #[.pointer none, .slice none 0 0] 75)) := Lib.IsBuilderF.of (Lib.fresh_isBuilder 75 5 w)
theorem ownsF_later {w w1 : World} {base n size : Nat} {e : TypeId} {v : Value} {xs : List Value} (h : w.ownsRowF base e size v n xs) (hb : Below w.heap.size w w1) : w1.ownsRowF base e size v n xs := by
  refine ⟨h.1, ?_⟩
  rcases h.2 with h1 | ⟨g, cap, cur, fz, h1, h2, h3, h4⟩
  · exact .inl h1
  · exact .inr ⟨g, cap, cur, fz, h1, h2, (hb.block g (lt_of_block h3)).trans h3, h4⟩
theorem Bon.later {b : Nat} {acc : Bs} {w w1 : World} (h : Bon b acc w) (hb : Below w.heap.size w w1) : Bon b acc w1 := by
  rcases h with ⟨h0, v, h1, h2, h3⟩ | ⟨h0, v, h1, h2, h3⟩
  · exact .inl ⟨h0, v, (hb.block b (lt_of_block h1)).trans h1, ownsF_later h2 hb, h3⟩
  · exact .inr ⟨h0, v, (hb.block b (lt_of_block h1)).trans h1, ownsF_later h2 hb, h3⟩
theorem Bon.lt {b : Nat} {acc : Bs} {w : World} (h : Bon b acc w) : b < w.heap.size := by
  rcases h with ⟨h0, v, h1, _⟩ | ⟨h0, v, h1, _⟩ <;> exact lt_of_block h1
theorem wbyte (b : Nat) (acc : Bs) (c : UInt8) (w : World) (h : Bon b acc w) (hl : acc.length ≤ 1000000) :
    Calls Tryd.prog 37 #[.pointer (some ⟨b, 0, none⟩), .int .u8 c.toNat] w fun e w' => e = .returned .nilIface ∧ Bon b (acc ++ [c]) w' ∧ Below b w w' :=
  (byte_any b b (Lib.byteCells acc) c.toNat w h (by rw [Lib.byteCells_length]; exact hl) (Nat.le_of_lt h.lt)).mono fun e w' ⟨he, h1, h2⟩ => ⟨he, Bon.of (by rw [Lib.byteCells_append]; exact h1), h2.1⟩
theorem wstr (b : Nat) (acc s : Bs) (w : World) (h : Bon b acc w) (hl : acc.length + s.length ≤ 1000000) :
    Calls Tryd.prog 38 #[.pointer (some ⟨b, 0, none⟩), .string (bA s)] w fun e w' => (∃ x, e = .returned x) ∧ Bon b (acc ++ s) w' ∧ Below b w w' := by
  have hs : (bA s).size = s.length := by rw [← lA_len, lA_bA]
  refine (wstr_any b b (Lib.byteCells acc) (bA s) w h (by rw [Lib.byteCells_length, hs]; omega) (Nat.le_of_lt h.lt)).mono fun e w' ⟨he, h1, h2⟩ => ⟨⟨_, he⟩, Bon.of ?_, h2⟩
  rw [Lib.byteCells_append]
  exact h1
theorem wlen (b : Nat) (acc : Bs) (w : World) (h : Bon b acc w) :
    Calls Tryd.prog 40 #[.pointer (some ⟨b, 0, none⟩)] w fun e w' => e = .returned (.int .i64 acc.length) ∧ w' = w :=
  (Tryd.Builder_Len_f b b (Lib.byteCells acc) w h).mono fun e w' ⟨he, h1⟩ => ⟨by rw [he, Lib.byteCells_length], h1⟩
theorem wstring (b : Nat) (acc : Bs) (w : World) (h : Bon b acc w) :
    Calls Tryd.prog 41 #[.pointer (some ⟨b, 0, none⟩)] w fun e w' => e = .returned (.string (bA acc)) ∧ Below b w w' :=
  (Tryd.Builder_String_any_f b b acc w h (Nat.le_of_lt h.lt)).mono fun e w' ⟨he, _, h2⟩ => ⟨he, h2⟩
/-- Numerals as the cells of a row of strings. -/
def strC (l : List Int) : List Value := l.map fun x => .string (bA (Lib.itoa x))
theorem strC_snoc {l : List Int} {k : Nat} (h : k < l.length) : strC (l.take (k + 1)) = strC (l.take k) ++ [.string (bA (Lib.itoa l[k]))] := by
  unfold strC; rw [List.take_succ_eq_append_getElem h, List.map_append]; rfl
theorem str_info : (Tryd.prog.info? 9).map (fun i => (i.zero, i.size, i.bytes)) = some (some (.string ⟨#[]⟩), 1, 16) := by kernel_rfl
theorem join_lib {base : Nat} {w : World} {x : Int} {l : List Int} {v : Value} (h : w.ownsRow base 9 1 v (x :: l).length (strC (x :: l))) (hl : l.length ≤ 10) (hr : ∀ y ∈ x :: l, -1000000000 ≤ y ∧ y ≤ 1000000000) :
    Calls Tryd.prog 48 #[v, .string ⟨#[44]⟩] w fun e w' => e = .returned (.string (bA (Lib.itoa x ++ argsT l))) ∧ Below w.heap.size w w' := by
  rcases h.2 with ⟨rfl, h0⟩ | ⟨g, cap, cur, rfl, hb, hg, hn, hm, hs, ht⟩
  · simp at h0
  · have hc : ∀ (j : Nat) (y : ByteArray), ((x :: l).map fun x => bA (Lib.itoa x))[j]? = some y → w.cell? ⟨g, 0 + j, none⟩ = some (.string y) := by
      intro j y hy
      have e : (strC (x :: l))[j]? = some (.string y) := by
        unfold strC
        rw [List.getElem?_map] at hy ⊢
        cases hl : (x :: l)[j]? with
        | none => rw [hl] at hy; simp at hy
        | some z => rw [hl] at hy; simp only [Option.map_some, Option.some.injEq] at hy ⊢; rw [hy]
      rw [← ht, List.getElem?_take] at e
      split at e
      · simpa [World.cell?, hg] using e
      · simp at e
    have e1 : ((x :: l).map fun x => bA (Lib.itoa x)).map (·.data.toList) = (x :: l).map Lib.itoa := by
      rw [List.map_map]; rfl
    have e2 : Lib.join (((x :: l).map fun x => bA (Lib.itoa x)).map (·.data.toList)) (ByteArray.mk #[44]).data.toList = Lib.itoa x ++ argsT l := by
      rw [e1]; exact join_args x l
    have hlen : (Lib.itoa x ++ argsT l).length ≤ 1000 := by
      have := itoa_len x (hr x (by simp))
      have := argsT_len l fun y hy => hr y (by simp [hy])
      rw [List.length_append]; omega
    have K := Tryd.strings_Join g 0 cap ((x :: l).map fun x => bA (Lib.itoa x)) ⟨#[44]⟩ w hc (lt_of_block hg) (by rw [List.length_map, List.length_cons]; omega) (by rw [List.length_map]; exact hn) (by rw [e2]; omega)
    rw [e2, List.length_map] at K
    exact K.mono fun e w' h => ⟨h.1, h.2⟩
/-- Where written stands. -/
structure WrAt (w : World) (a : List Int) (k : Nat) (v : Value) (wr : World) : Prop where
  hi : k ≤ a.length
  below : Below w.heap.size w wr
  own : wr.ownsRow w.heap.size 9 1 v k (strC (a.take k))
theorem own_later {w w1 : World} {base n size : Nat} {e : TypeId} {v : Value} {xs : List Value} (h : w.ownsRow base e size v n xs) (hb : Below w.heap.size w w1) : w1.ownsRow base e size v n xs := by
  refine ⟨h.1, ?_⟩
  rcases h.2 with h1 | ⟨g, cap, cur, h1, h2, h3, h4⟩
  · exact .inl h1
  · exact .inr ⟨g, cap, cur, h1, h2, (hb.block g (lt_of_block h3)).trans h3, h4⟩
set_option maxRecDepth 100000 in
set_option maxHeartbeats 1600000 in
theorem written_any (x : Int) (l : List Int) (v : Value) (hl : l.length ≤ 10) (hr : ∀ y ∈ x :: l, -1000000000 ≤ y ∧ y ≤ 1000000000) (w : World) (hv : Ints w v (x :: l)) (he : Env w) :
    Calls Tryd.prog 39 #[v] w fun e w' => e = .returned (.string (bA (Lib.itoa x ++ argsT l))) ∧ Below w.heap.size w w' := by
  obtain ⟨p, cap, rfl⟩ := hv.slice
  have KJ := Lib.hid (fun base w v h => join_lib (base := base) (w := w) (v := v) h hl hr)
  have HV := Lib.hid hv
  have HE := Lib.hid he
  have HR := Lib.hid hr
  obtain ⟨i0, hi, hz0, hz1, hz2⟩ := info_parts str_info
  have HM : Hid (maxLen = 9223372036854775807) := Lib.hid rfl
  obtain ⟨a, ha⟩ : ∃ a, x :: l = a := ⟨_, rfl⟩
  have hal : a.length ≤ 11 := by rw [← ha]; simp; omega
  rw [ha] at KJ HV HR ⊢
  clear hv he hr ha
  go_enter Tryd.func39, Tryd.ntmps39
  go_wp2_with fail
  go_loopw [3, 8] (fun v i wr => ∃ k : Nat, i = .int .i64 k ∧ WrAt w a k v wr) (fun _ i _ => a.length - (intOf i).toNat)
  case atStart => exact ⟨0, rfl, Nat.zero_le _, Below.refl _ _, World.ownsRow_nil _ _ _ _⟩
  case round =>
    obtain ⟨k, rfl, hS⟩ := hrel
    have HS := Lib.hid hS
    have n1 := hS.hi
    have hsz := hS.below.size
    clear hS
    by_cases hlt : k < a.length
    · obtain ⟨b, off, cap', hp, e1, lb⟩ := (HV.out.later HS.out.below).at hlt
      obtain rfl : p = some ⟨b, off, none⟩ := by cases hp; rfl
      have k1 : (k : Int) < (a.length : Int) := by omega
      have hrk := HR.out a[k] (List.getElem_mem hlt)
      have KI := Lib.hid (itoa_lib a[k] (by omega) (by omega) wr (HE.out.later HS.out.below))
      have HX := Lib.hid (strC_snoc hlt)
      generalize a[k] = y at e1 KI HX hrk
      clear hp
      go_wp2_with fail
      refine KI.out.mono ?_
      rintro e w1 ⟨rfl, hb⟩
      have P5 := Lib.hid ((own_later HS.out.own hb).alloc (.cells #[.string (bA (Lib.itoa y))] 9))
      have B1 := Lib.hid (HS.out.below.trans (hb.mono hsz))
      have z1 := B1.out.size
      clear hb
      generalize bA (Lib.itoa y) = ys at P5 HX
      go_wp2_with (at_builtin; refine wpList_append_own _ rfl _ _ 90 rfl w.heap.size 9 i0 (.string ⟨#[]⟩) 1 16 Tryd.underlying90 hi hz0 hz1 hz2 rfl (by decide) u3 k (strC (a.take k)) rfl P5.out ⟨w1.heap.size, 0, none⟩ 1 1 [.string ys] rfl rfl (cell_one_new _ _ _) (by simp [Value.oneCell']) (by rw [HM.out]; omega) (by omega) (by simp; omega) ?_; intro v2 w3 ho2 hg2 hn2)
      have T1 : Hid (WrAt w a (k + 1) v2 w3) := Lib.hid ⟨hlt, (B1.out.alloc z1 _).grown hg2 (by simp; omega) (fun j e => (owns_lt P5.out j e).1), by rw [HX.out]; exact ho2⟩
      clear ho2 hg2 hn2
      go_wp2_with fail
      go_roundw
      case rel => exact ⟨k + 1, by go_num, T1.out⟩
      case measure => simp [intOf]; omega
    · have hk : k = a.length := by omega
      have KJ2 := Lib.hid (KJ.out w.heap.size wr u3 (by have := HS.out.own; rw [hk, List.take_length] at this; exact this))
      have k1 : ¬ (k : Int) < (a.length : Int) := by omega
      clear hk
      go_wp2_with fail
      refine KJ2.out.mono ?_
      rintro e w2 ⟨rfl, hb⟩
      have B2 := Lib.hid (HS.out.below.trans (hb.mono hsz))
      clear hb
      go_wp2_with fail
      go_ret
      exact ⟨rfl, B2.out⟩
end Go.Proofs.YtlmofdmbcddddaaDoor
namespace Go.Proofs.YtlmofdmbcddddaaDoor
open Go.RowKit
open WM
set_option linter.unusedVariables false
set_option linter.unusedSimpArgs false

/-- Text's error and text. -/
def tC (l : List Md) : Int := if chk l ≠ 0 then chk l else if 50000 < (txt l).length then 4 else 0
def tS (l : List Md) : Bs := if tC l = 0 then txt l else []
theorem tC_no {l : List Md} (h : chk l ≠ 0) : tC l = chk l ∧ tS l = [] := by
  have e : tC l = chk l := by unfold tC; rw [if_pos h]
  exact ⟨e, by unfold tS; rw [e, if_neg h]⟩
theorem tC_many {l : List Md} (h : chk l = 0) (h2 : 50000 < (txt l).length) : tC l = 4 ∧ tS l = [] := by
  have e : tC l = 4 := by unfold tC; rw [if_neg (by simp [h]), if_pos h2]
  exact ⟨e, by unfold tS; rw [e, if_neg (by decide)]⟩
theorem tC_yes {l : List Md} (h : chk l = 0) (h2 : ¬ 50000 < (txt l).length) : tC l = 0 ∧ tS l = txt l := by
  have e : tC l = 0 := by unfold tC; rw [if_neg (by simp [h]), if_neg h2]
  exact ⟨e, by unfold tS; rw [if_pos e]⟩
theorem bA_nil : bA [] = ByteArray.empty := rfl
theorem ptext_no (v : Value) (l : List Md) (hmax : l.length ≤ 9223372036854775807) (hargs : ∀ m ∈ l, m.a.length ≤ 9223372036854775807) (h0 : chk l ≠ 0) (w : World) (hv : Mods w v l) :
    Calls Tryd.prog 31 #[v] w fun e w' => e = .returned (.tuple #[.string (bA (tS l)), .int .i64 (tC l)]) ∧ Below w.heap.size w w' := by
  have HV := Lib.hid hv
  have HC := Lib.hid (fun w hv => pcheck_any v l hmax hargs w hv)
  rw [(tC_no h0).1, (tC_no h0).2, bA_nil]
  obtain ⟨c, hc⟩ : ∃ c, chk l = c := ⟨_, rfl⟩
  rw [hc] at HC h0 ⊢
  have h1 : (c != 0) = true := by rw [bne_iff_ne]; exact h0
  clear hv hargs h0 hc
  go_enter Tryd.func31, Tryd.ntmps31
  go_wp2_with fail
  refine (HC.out _ HV.out).mono ?_
  rintro e w1 ⟨rfl, hb⟩
  have B1 := Lib.hid hb
  clear hb
  go_wp2_with fail
  go_ret2
  exact ⟨rfl, B1.out⟩
theorem sandwich (s : Bs) : (⟨#[40]⟩ : ByteArray) ++ bA s ++ ⟨#[41]⟩ = bA (40 :: (s ++ [41])) := by
  apply lA_inj
  rw [lA_bA]
  simp [lA, bA, ByteArray.data_append]
theorem txt_pre {l : List Md} (h : ∀ m ∈ l, fineB m = true) (hl : l.length ≤ 2000) (k : Nat) : (txt (l.take k)).length ≤ 120000 := by
  have := txt_len (l.take k) fun m hm => h m (List.mem_of_mem_take hm)
  rw [List.length_take] at this; omega
theorem modT_nil {m : Md} (h : m.a = []) : modT m = [m.c] := by unfold modT; rw [h]
theorem modT_cons {m : Md} {x : Int} {a : List Int} (h : m.a = x :: a) : modT m = [m.c] ++ (40 :: ((Lib.itoa x ++ argsT a) ++ [41])) := by unfold modT; rw [h]; simp
set_option maxRecDepth 100000 in
set_option maxHeartbeats 3200000 in
theorem ptext_yes (v : Value) (l : List Md) (h0 : chk l = 0) (w : World) (hv : Mods w v l) (he : Env w) :
    Calls Tryd.prog 31 #[v] w fun e w' => e = .returned (.tuple #[.string (bA (tS l)), .int .i64 (tC l)]) ∧ Below w.heap.size w w' := by
  have hmax : l.length ≤ 2000 := (chk_zero.1 h0).1
  have hfine : ∀ m ∈ l, fineB m = true := by have := (chk_zero.1 h0).2.1; simpa using this
  have hargs : ∀ m ∈ l, m.a.length ≤ 4 ∧ rngB m.a = true := fun m hm => by
    have := hfine m hm
    unfold fineB at this
    simp only [Bool.and_eq_true, decide_eq_true_eq] at this
    exact ⟨this.1.1.2, this.2⟩
  obtain ⟨p, cap, rfl⟩ := hv.slice
  have HV := Lib.hid hv
  have HEn := Lib.hid he
  have HC := Lib.hid (fun w hv => pcheck_any (.slice p l.length cap) l (by omega) (fun m hm => by have := (hargs m hm).1; omega) w hv)
  have HA := Lib.hid hargs
  have HP := Lib.hid (fun k => txt_pre hfine hmax k)
  have HML := Lib.hid (fun m hm => modT_len (hfine m hm))
  have HY := Lib.hid (fun h => tC_yes h0 h)
  have HN := Lib.hid (fun h => tC_many h0 h)
  rw [h0] at HC
  clear hv he hargs hfine h0
  go_enter Tryd.func31, Tryd.ntmps31
  go_wp2_with fail
  refine (HC.out _ HV.out).mono ?_
  rintro e w1 ⟨rfl, hb⟩
  have B1 := Lib.hid hb
  have HV1 := Lib.hid (HV.out.later hb)
  have HE1 := Lib.hid (HEn.out.later hb)
  have HF := Lib.hid (Bon.fresh w1)
  have HFB : Hid (Below w1.heap.size w1 (w1.alloc (.cells #[.pointer none, .slice none 0 0] 75))) := Lib.hid ((Below.refl _ _).alloc (Nat.le_refl _) _)
  clear hb
  go_wp2_with fail
  go_loopw [14] (fun i wr => ∃ k : Nat, i = .int .i64 k ∧ k ≤ l.length ∧ Below w1.heap.size w1 wr ∧ Bon w1.heap.size (txt (l.take k)) wr) (fun i _ => l.length - (intOf i).toNat)
  case atStart => exact ⟨0, rfl, Nat.zero_le _, HFB.out, HF.out⟩
  case round =>
    obtain ⟨k, rfl, hk, hB, hO⟩ := hrel
    have HB := Lib.hid hB
    have HO := Lib.hid hO
    have lb := hO.lt
    clear hB hO
    by_cases hlt : k < l.length
    · obtain ⟨b, off, cap', q, c, hp, e1, e2, hin, lb1⟩ := HV1.out.at hlt
      obtain rfl : p = some ⟨b, off, none⟩ := by cases hp; rfl
      have e1 := (HB.out.cell (p := ⟨b, off + k * 2, none⟩) lb1).trans e1
      have e2 := (HB.out.cell (p := ⟨b, off + k * 2 + 1, none⟩) lb1).trans e2
      have lbr := Nat.lt_of_lt_of_le lb1 HB.out.size
      have k1 : (k : Int) < (l.length : Int) := by omega
      have hml := HML.out _ (List.getElem_mem hlt)
      have hpl := HP.out k
      have KB := Lib.hid (wbyte w1.heap.size (txt (l.take k)) l[k].c wr HO.out (by omega))
      have HS := Lib.hid (txt_snoc hlt)
      have ha := HA.out _ (List.getElem_mem hlt)
      clear hp
      cases hcase : l[k].a with
      | nil =>
        have hm := modT_nil hcase
        rw [hm] at HS
        have hz : l[k].a.length = 0 := by rw [hcase]; rfl
        rw [hz] at e2
        clear hcase hm hz hin ha hml
        generalize l[k].c = cc at e1 KB HS
        go_wp2_with fail
        refine KB.out.mono ?_
        rintro e w2 ⟨rfl, ho, hb⟩
        have HO2 := Lib.hid ho
        have HB2 := Lib.hid (HB.out.trans hb)
        have e2 := (hb.cell (p := ⟨b, off + k * 2 + 1, none⟩) lb1).trans e2
        have lb2 := Nat.lt_of_lt_of_le lbr hb.size
        clear ho hb
        go_wp2_with fail
        go_roundw
        case rel => exact ⟨k + 1, by go_num, by omega, HB2.out, by rw [HS.out]; exact HO2.out⟩
        case measure => simp [intOf]; omega
      | cons x a =>
        have hm := modT_cons hcase
        rw [hm] at HS hml
        have hz : l[k].a.length = a.length + 1 := by rw [hcase]; rfl
        have hrg := rngB_iff.1 ha.2
        rw [hcase] at hrg
        have hal := ha.1
        rw [hz] at e2 hal hin
        rw [hcase] at hin
        have HIn := Lib.hid hin
        have HW := Lib.hid (fun w2 hv he => written_any x a (.slice q (a.length + 1) c) (by omega) hrg w2 hv he)
        have z0 : (0 : Int) < ((a.length + 1 : Nat) : Int) := by omega
        have HSw := Lib.hid (sandwich (Lib.itoa x ++ argsT a))
        clear hcase hm hz hin ha hrg
        generalize l[k].c = cc at e1 KB HS hml
        obtain ⟨s, hs⟩ : ∃ s, Lib.itoa x ++ argsT a = s := ⟨_, rfl⟩
        rw [hs] at HW HS HSw hml
        have hsl : s.length ≤ 60 := by simp at hml; omega
        obtain ⟨S, hS⟩ : ∃ S, bA s = S := ⟨_, rfl⟩
        have hSz : S.size ≤ 60 := by rw [← hS, ← lA_len, lA_bA]; exact hsl
        rw [hS] at HW HSw
        clear hs hS
        generalize a.length + 1 = an at e2 HW z0 HIn hal
        go_wp2_with fail
        refine KB.out.mono ?_
        rintro e w2 ⟨rfl, ho, hb⟩
        have HO2 := Lib.hid ho
        have HB2 := Lib.hid (HB.out.trans hb)
        have e2 := (hb.cell (p := ⟨b, off + k * 2 + 1, none⟩) lb1).trans e2
        have lb2 := Nat.lt_of_lt_of_le lbr hb.size
        clear ho
        go_wp2_with fail
        refine (HW.out w2 (HIn.out.later HB2.out) (HE1.out.later HB2.out)).mono ?_
        rintro e w3 ⟨rfl, hb⟩
        have HO3 := Lib.hid (HO2.out.later hb)
        have HB3 := Lib.hid (HB2.out.trans (hb.mono HB2.out.size))
        have KS := Lib.hid (wstr w1.heap.size (txt (l.take k) ++ [cc]) (40 :: (s ++ [41])) w3 HO3.out (by simp; omega))
        rw [← HSw.out] at KS
        clear hb HSw
        go_wp2_with fail
        refine KS.out.mono ?_
        rintro e w4 ⟨⟨xx, rfl⟩, ho, hb⟩
        have HO4 := Lib.hid ho
        have HB4 := Lib.hid (HB3.out.trans hb)
        clear ho hb
        go_wp2_with fail
        go_roundw
        case rel => exact ⟨k + 1, by go_num, by omega, HB4.out, by rw [HS.out, ← List.append_assoc]; exact HO4.out⟩
        case measure => simp [intOf]; omega
    · have hkl : k = l.length := by omega
      have k1 : ¬ (k : Int) < (l.length : Int) := by omega
      rw [hkl, List.take_length] at HO
      have KL := Lib.hid (wlen w1.heap.size (txt l) wr HO.out)
      have KS := Lib.hid (wstring w1.heap.size (txt l) wr HO.out)
      have HB2 := Lib.hid (B1.out.trans (HB.out.mono B1.out.size))
      have hpl := HP.out l.length
      rw [List.take_length] at hpl
      clear hkl HP
      by_cases hlen : 50000 < (txt l).length
      · have HE2 := Lib.hid (HN.out hlen)
        have c1 : (50000 : Int) < ((txt l).length : Int) := by omega
        clear hlen
        generalize (txt l).length = tl at KL c1 hpl
        go_wp2_with fail
        refine KL.out.mono ?_
        rintro e wx ⟨rfl, rfl⟩
        go_wp2_with fail
        go_ret2
        refine ⟨?_, HB2.out⟩
        rw [HE2.out.1, HE2.out.2]; rfl
      · have HE2 := Lib.hid (HY.out hlen)
        have c1 : ¬ (50000 : Int) < ((txt l).length : Int) := by omega
        clear hlen
        generalize (txt l).length = tl at KL c1 hpl
        go_wp2_with fail
        refine KL.out.mono ?_
        rintro e wx ⟨rfl, rfl⟩
        go_wp2_with fail
        refine KS.out.mono ?_
        rintro e w2 ⟨rfl, hb⟩
        have HB3 := Lib.hid (HB2.out.trans (hb.mono (Nat.le_trans B1.out.size (Nat.le_refl _))))
        clear hb
        go_wp2_with fail
        go_ret2
        refine ⟨?_, HB3.out⟩
        rw [HE2.out.1, HE2.out.2]; rfl
theorem ptext_any (v : Value) (l : List Md) (hmax : l.length ≤ 9223372036854775807) (hargs : ∀ m ∈ l, m.a.length ≤ 9223372036854775807) (w : World) (hv : Mods w v l) (he : Env w) :
    Calls Tryd.prog 31 #[v] w fun e w' => e = .returned (.tuple #[.string (bA (tS l)), .int .i64 (tC l)]) ∧ Below w.heap.size w w' := by
  by_cases h0 : chk l = 0
  · exact ptext_yes v l h0 w hv he
  · exact ptext_no v l hmax hargs h0 w hv
end Go.Proofs.YtlmofdmbcddddaaDoor
namespace Go.Proofs.YtlmofdmbcddddaaDoor
open Go.RowKit
open WM
set_option linter.unusedVariables false
set_option linter.unusedSimpArgs false

theorem looseM_len : ∀ (n : Nat) (s : Bs), s.length ≤ n → (looseM s).length ≤ s.length ∧ ∀ m ∈ looseM s, m.a.length ≤ s.length + 1 := by
  intro n
  induction n with
  | zero =>
    intro s hs
    have : s = [] := List.length_eq_zero_iff.1 (by omega)
    subst this; rw [looseM_nil]; simp
  | succ n ih =>
    intro s hs
    cases s with
    | nil => rw [looseM_nil]; simp
    | cons c t =>
      simp at hs
      by_cases h : t.head? = some 40
      · rw [looseM_arg h]
        have h1 := cut_rest t.tail 41
        have h2 := cut_len t.tail 41
        have h3 : t.tail.length ≤ t.length := by simp
        obtain ⟨i1, i2⟩ := ih (Lib.cut t.tail [41]).2.1 (by omega)
        refine ⟨by simp; omega, fun m hm => ?_⟩
        rcases List.mem_cons.1 hm with e | e
        · subst e
          have h4 := pcs_len (Lib.cut t.tail [41]).1
          show (looseA (Lib.cut t.tail [41]).1).length ≤ _
          rw [looseA_length]; simp; omega
        · have := i2 m e; simp; omega
      · rw [looseM_bare h]
        obtain ⟨i1, i2⟩ := ih t (by omega)
        refine ⟨by simp; omega, fun m hm => ?_⟩
        rcases List.mem_cons.1 hm with e | e
        · subst e; simp
        · have := i2 m e; simp; omega
/-- Parse's error and word. -/
def pC (s : Bs) : Int := if 50000 < s.length then 12 else if (prs s).isSome = true then 0 else 12
def pL (s : Bs) : List Md := if 50000 < s.length then [] else (prs s).getD []
theorem pC_long {s : Bs} (h : 50000 < s.length) : pC s = 12 ∧ pL s = [] := by
  unfold pC pL; rw [if_pos h, if_pos h]; exact ⟨rfl, rfl⟩
theorem pC_none {s : Bs} (h : ¬ 50000 < s.length) (h2 : prs s = none) : pC s = 12 ∧ pL s = [] := by
  unfold pC pL; rw [if_neg h, if_neg h, h2]; exact ⟨rfl, rfl⟩
theorem pC_some {s : Bs} {w : List Md} (h : ¬ 50000 < s.length) (h2 : prs s = some w) : pC s = 0 ∧ pL s = w := by
  unfold pC pL; rw [if_neg h, if_neg h, h2]; exact ⟨rfl, rfl⟩
theorem prs_loose {s : Bs} (h1 : tC (looseM s) = 0) (h2 : txt (looseM s) = s) : prs s = some (looseM s) := by
  refine prs_iff.2 ⟨?_, h2⟩
  by_cases h : chk (looseM s) = 0
  · exact h
  · rw [(tC_no h).1] at h1; exact absurd h1 h
theorem prs_not {s : Bs} (hs : ¬ 50000 < s.length) (h : tC (looseM s) ≠ 0 ∨ txt (looseM s) ≠ s) : prs s = none := by
  cases hp : prs s with
  | none => rfl
  | some w =>
    exfalso
    have e := loose_prs hp
    obtain ⟨h1, h2⟩ := prs_iff.1 hp
    rw [e] at h
    rcases h with h | h
    · rw [(tC_yes h1 (by rw [h2]; exact hs)).1] at h; exact h rfl
    · exact h h2
/-- How Parse ends. -/
def PsEnd (s : Bs) (w : World) (e : Ending) (w' : World) : Prop := ∃ v vs, e = .returned (.tuple #[v, .int .i64 (pC s)]) ∧ Below w.heap.size w w' ∧ ModFr w' w.heap.size v (pL s) vs
set_option maxRecDepth 100000 in
set_option maxHeartbeats 1600000 in
theorem pparse_any (s : ByteArray) (hs : s.size ≤ 9223372036854775807) (w : World) (he : Env w) :
    Calls Tryd.prog 30 #[.string s] w (PsEnd (lA s) w) := by
  by_cases hlong : 50000 < s.size
  · have hl : 50000 < (lA s).length := by rw [lA_len]; exact hlong
    have HE : Hid (PsEnd (lA s) w (.returned (.tuple #[.slice none 0 0, .int .i64 12])) w) := Lib.hid ⟨_, [], by rw [(pC_long hl).1], Below.refl _ _, by rw [(pC_long hl).2]; exact modFr_nil _ _⟩
    have c1 : (50000 : Int) < (s.size : Int) := by omega
    clear hl
    go_enter Tryd.func30, Tryd.ntmps30
    go_wp2_with fail
    go_ret2
    exact HE.out
  · have hl : ¬ 50000 < (lA s).length := by rw [lA_len]; exact hlong
    have c1 : ¬ (50000 : Int) < (s.size : Int) := by omega
    have KL := Lib.hid (loose_any s (by omega) w he)
    have HEn := Lib.hid he
    obtain ⟨b1, b2⟩ := looseM_len _ (lA s) (Nat.le_refl _)
    have KT := Lib.hid (fun v w hv he => ptext_any v (looseM (lA s)) (by omega) (fun m hm => by have := b2 m hm; omega) w hv he)
    have HNo : Hid (∀ w', Below w.heap.size w w' → (tC (looseM (lA s)) ≠ 0 ∨ txt (looseM (lA s)) ≠ lA s) → PsEnd (lA s) w (.returned (.tuple #[.slice none 0 0, .int .i64 12])) w') := Lib.hid (fun w' hb h => by
      have hp := prs_not hl h
      exact ⟨_, [], by rw [(pC_none hl hp).1], hb, by rw [(pC_none hl hp).2]; exact modFr_nil _ _⟩)
    have HYes : Hid (∀ w' v vs, Below w.heap.size w w' → tC (looseM (lA s)) = 0 → txt (looseM (lA s)) = lA s → ModFr w' w.heap.size v (looseM (lA s)) vs → PsEnd (lA s) w (.returned (.tuple #[v, .int .i64 0])) w') := Lib.hid (fun w' v vs hb h1 h2 hm => by
      have hp := prs_loose h1 h2
      exact ⟨v, vs, by rw [(pC_some hl hp).1], hb, by rw [(pC_some hl hp).2]; exact hm⟩)
    have HTS : Hid (tC (looseM (lA s)) = 0 → tS (looseM (lA s)) = txt (looseM (lA s))) := Lib.hid (fun h => by unfold tS; rw [if_pos h])
    clear he b1 b2 hl hlong
    generalize looseM (lA s) = L at KL KT HNo HYes HTS
    obtain ⟨x, hx⟩ : ∃ x, tC L = x := ⟨_, rfl⟩
    rw [hx] at KT HNo HYes HTS
    clear hx
    by_cases h0 : x = 0
    · subst h0
      rw [HTS.out rfl] at KT
      have HNo := Lib.hid (fun w' hb h => HNo.out w' hb (.inr h))
      have HYes := Lib.hid (fun w' v vs hb h hm => HYes.out w' v vs hb rfl h hm)
      by_cases ht : txt L = lA s
      · have hbt : bA (txt L) = s := by rw [ht]; rfl
        rw [hbt] at KT
        have HY := Lib.hid (fun w' v vs hb hm => HYes.out w' v vs hb ht hm)
        have hq : (!(s.toList == s.toList)) = false := by simp
        clear ht hbt HNo HYes
        go_enter Tryd.func30, Tryd.ntmps30
        go_wp2_with fail
        refine KL.out.mono ?_
        rintro e w1 ⟨v, vs, rfl, hb, hm⟩
        have B1 := Lib.hid hb
        have M1 := Lib.hid hm
        have HE1 := Lib.hid (HEn.out.later hb)
        clear hb hm
        go_wp2_with fail
        refine (KT.out _ _ M1.out.mods HE1.out).mono ?_
        rintro e w2 ⟨rfl, hb⟩
        have B2 := Lib.hid (B1.out.trans (hb.mono B1.out.size))
        have M2 := Lib.hid (M1.out.later hb)
        clear hb
        go_wp2_with fail
        go_ret2
        exact HY.out _ _ _ B2.out M2.out
      · have hq : (!((bA (txt L)).toList == s.toList)) = true := by
          have : (bA (txt L)).toList ≠ s.toList := fun e => by
            rw [ByteArray.toList_eq, ByteArray.toList_eq] at e
            apply ht
            have e2 : (bA (txt L)).data.toList = txt L := lA_bA _
            rw [← e2]; exact e
          simpa using this
        have HN := Lib.hid (fun w' hb => HNo.out w' hb ht)
        clear ht HNo HYes
        generalize bA (txt L) = S at KT hq
        go_enter Tryd.func30, Tryd.ntmps30
        go_wp2_with fail
        refine KL.out.mono ?_
        rintro e w1 ⟨v, vs, rfl, hb, hm⟩
        have B1 := Lib.hid hb
        have M1 := Lib.hid hm
        have HE1 := Lib.hid (HEn.out.later hb)
        clear hb hm
        go_wp2_with fail
        refine (KT.out _ _ M1.out.mods HE1.out).mono ?_
        rintro e w2 ⟨rfl, hb⟩
        have B2 := Lib.hid (B1.out.trans (hb.mono B1.out.size))
        clear hb
        go_wp2_with fail
        go_ret2
        exact HN.out _ B2.out
    · have h1 : (x != 0) = true := by rw [bne_iff_ne]; exact h0
      have HN := Lib.hid (fun w' hb => HNo.out w' hb (.inl h0))
      clear h0 HNo HYes HTS
      go_enter Tryd.func30, Tryd.ntmps30
      go_wp2_with fail
      refine KL.out.mono ?_
      rintro e w1 ⟨v, vs, rfl, hb, hm⟩
      have B1 := Lib.hid hb
      have M1 := Lib.hid hm
      have HE1 := Lib.hid (HEn.out.later hb)
      clear hb hm
      go_wp2_with fail
      refine (KT.out _ _ M1.out.mods HE1.out).mono ?_
      rintro e w2 ⟨rfl, hb⟩
      have B2 := Lib.hid (B1.out.trans (hb.mono B1.out.size))
      clear hb
      go_wp2_with fail
      go_ret2
      exact HN.out _ B2.out
end Go.Proofs.YtlmofdmbcddddaaDoor
