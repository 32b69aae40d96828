/-
  What the package's looseArgs hands back; a word of the call's own that grows.
-/
import Derived.Test.YtjjjopopalcokaaDoorWordEnv
import Derived.Test.YtjjjopopalcokaaDoorWordPrJ
namespace Go.Proofs.YtjjjopopalcokaaDoor
open Go.RowKit
open WM
set_option linter.unusedVariables false
set_option linter.unusedSimpArgs false

theorem pcs_mem_len (s : Bs) : ∀ p ∈ pcs s, p.length ≤ s.length := by
  induction s with
  | nil => intro p hp; simp [pcs] at hp; simp [hp]
  | cons c t ih =>
    intro p hp
    unfold pcs at hp
    split at hp
    · rcases List.mem_cons.1 hp with h | h
      · simp [h]
      · have := ih p h; simp; omega
    · split at hp
      · rename_i q qs e
        rcases List.mem_cons.1 hp with h | h
        · have := ih q (by rw [e]; simp)
          rw [h]; simp; omega
        · have := ih p (by rw [e]; simp [h])
          simp; omega
      · simp at hp; simp [hp]
theorem looseA_length (s : Bs) : (looseA s).length = (pcs s).length := by simp [looseA]
theorem looseA_get {s : Bs} {k : Nat} (h : k < (pcs s).length) (h2 : k < (looseA s).length) : (looseA s)[k] = atoiV (pcs s)[k] := by simp [looseA]
theorem l_own_later {w w1 : World} {base n size : Nat} {e : TypeId} {v : Value} {xs : List Value} (h : w.ownsRow base e size v n xs) (hb : Below w.heap.size w w1) : w1.ownsRow base e size v n xs := by
  refine ⟨h.1, ?_⟩
  rcases h.2 with h1 | ⟨g, cap, cur, h1, h2, h3, h4⟩
  · exact .inl h1
  · exact .inr ⟨g, cap, cur, h1, h2, (hb.block g (lt_of_block h3)).trans h3, h4⟩
theorem valsL_snoc {l : List Int} {k : Nat} (h : k < l.length) : valsL (l.take (k + 1)) = valsL (l.take k) ++ [.int .i64 l[k]] := by
  unfold valsL; rw [List.take_succ_eq_append_getElem h, List.map_append]; rfl
/-- Where looseArgs stands. -/
structure LaAt (w1 : World) (l : List Int) (k : Nat) (v : Value) (wr : World) : Prop where
  hi : k ≤ l.length
  below : Below w1.heap.size w1 wr
  own : wr.ownsRow w1.heap.size 3 1 v k (valsL (l.take k))
/-- How looseArgs ends. -/
def LaEnd (l : List Int) (w : World) (e : Ending) (w' : World) : Prop := ∃ v, e = .returned v ∧ Below w.heap.size w w' ∧ w'.ownsRow w.heap.size 3 1 v l.length (valsL l)
set_option maxRecDepth 100000 in
set_option maxHeartbeats 1600000 in
theorem largs_any (s : ByteArray) (hs : s.size ≤ 50000) (w : World) (he : Env w) :
    Calls Tryd.prog 48 #[.string s] w (LaEnd (looseA (lA s)) w) := by
  have KS := Lib.hid (split_lib s (by omega) w he)
  have hpl : (pcs (lA s)).length ≤ 50001 := by have := pcs_len (lA s); rw [lA_len] at this; omega
  have HPM := Lib.hid (pcs_mem_len (lA s))
  have HLL := Lib.hid (looseA_length (lA s))
  have HG := Lib.hid (fun k h h2 => looseA_get (s := lA s) (k := k) h h2)
  have HSz := Lib.hid (lA_len s)
  have HEn := Lib.hid he
  obtain ⟨i0, hi, hz0, hz1, hz2⟩ := info_parts info_int
  have HM : Hid (maxLen = 9223372036854775807) := Lib.hid rfl
  generalize looseA (lA s) = la at HLL HG ⊢
  generalize pcs (lA s) = ps at KS hpl HPM HLL HG
  obtain ⟨W1, hW1⟩ : ∃ W, W = w.alloc (.cells (ps.map fun l => Value.string (bA l)).toArray 9) := ⟨_, rfl⟩
  have B1 : Below w.heap.size w W1 := by rw [hW1]; exact (Below.refl _ _).alloc (Nat.le_refl _) _
  have S1 : W1.heap.size = w.heap.size + 1 := by rw [hW1]; simp
  have HC : Hid (∀ k, (h : k < ps.length) → W1.cell? ⟨w.heap.size, k, none⟩ = some (.string (bA ps[k]))) := Lib.hid (fun k h => by
    have : W1.heap[w.heap.size]? = some (.cells (ps.map fun l => Value.string (bA l)).toArray 9 (0, 0)) := by rw [hW1]; exact heap_alloc_new _ _
    simp only [World.cell?, this]
    simp [h])
  have HB1 := Lib.hid B1
  have HE1 := Lib.hid (he.later B1)
  rw [← hW1] at KS
  clear he B1 hW1
  go_enter Tryd.func48, Tryd.ntmps48
  go_wp2_with fail
  refine KS.out.mono ?_
  rintro e w1 ⟨rfl, rfl⟩
  go_wp2_with fail
  go_loopw [3, 11] (fun v i wr => ∃ k : Nat, i = .int .i64 k ∧ LaAt w1 la k v wr) (fun _ i _ => ps.length - (intOf i).toNat)
  case atStart => exact ⟨0, rfl, Nat.zero_le _, Below.refl _ _, World.ownsRow_nil _ _ _ _⟩
  case round =>
    obtain ⟨k, rfl, hS⟩ := hrel
    have HS := Lib.hid hS
    have n1 := hS.hi
    have hsz := hS.below.size
    rw [HLL.out] at n1
    clear hS
    by_cases hlt : k < ps.length
    · have k1 : (k : Int) < (ps.length : Int) := by omega
      have e1 := (HS.out.below.cell (p := ⟨w.heap.size, k, none⟩) (by show w.heap.size < w1.heap.size; omega)).trans (HC.out k hlt)
      have lt1 : w.heap.size < wr.heap.size := by omega
      have hpk := HPM.out _ (List.getElem_mem hlt)
      rw [HSz.out] at hpk
      have hbs : (bA ps[k]).size = ps[k].length := by rw [← lA_len, lA_bA]
      have KA := Lib.hid (atoi_lib (bA ps[k]) (by omega) wr (HE1.out.later HS.out.below))
      rw [lA_bA] at KA
      have hkl : k < la.length := by rw [HLL.out]; exact hlt
      have HX := Lib.hid (valsL_snoc hkl)
      rw [HG.out k hlt hkl] at HX
      clear hbs hpk
      generalize bA ps[k] = y at e1 KA
      generalize atoiV ps[k] = x at KA HX
      go_wp2_with fail
      refine KA.out.mono ?_
      rintro e w2 ⟨⟨xx, rfl⟩, hb⟩
      have P5 := Lib.hid ((l_own_later HS.out.own hb).alloc (.cells #[.int .i64 x] 3))
      have B2 := Lib.hid (HS.out.below.trans (hb.mono hsz))
      have z2 := B2.out.size
      clear hb
      go_wp2_with (at_builtin; refine wpList_append_own _ rfl _ _ 25 rfl w1.heap.size 3 i0 (.int .i64 0) 1 8 Tryd.underlying25 hi hz0 hz1 hz2 rfl (by decide) u3 k (valsL (la.take k)) rfl P5.out ⟨w2.heap.size, 0, none⟩ 1 1 [.int .i64 x] rfl rfl (cell_one_new _ _ _) (by simp [Value.oneCell']) (by rw [HM.out]; omega) (by omega) (by simp; omega) ?_; intro v2 w3 ho2 hg2 hn2)
      have T1 : Hid (LaAt w1 la (k + 1) v2 w3) := Lib.hid ⟨hkl, (B2.out.alloc z2 _).grown hg2 (by simp; omega) (fun j e => (owns_lt P5.out j e).1), by rw [HX.out]; exact ho2⟩
      clear ho2 hg2 hn2
      go_wp2_with fail
      go_roundw
      case rel => exact ⟨k + 1, by go_num, T1.out⟩
      case measure => simp [intOf]; omega
    · have hk : k = la.length := by rw [HLL.out]; omega
      have k1 : ¬ (k : Int) < (ps.length : Int) := by omega
      have HF : Hid (LaEnd la w (.returned u3) wr) := Lib.hid ⟨_, rfl, HB1.out.trans (HS.out.below.mono HB1.out.size), by have := owns_mono HS.out.own HB1.out.size; rw [hk, List.take_length] at this; exact this⟩
      clear hk
      go_wp2_with fail
      go_ret
      exact HF.out
theorem modFr_snoc {base : Nat} {wr X3 X4 : World} {l : List Md} {m : Md} {v v' v2 : Value} {vs : List Value} (h : ModFr wr base v l vs) (hbase : base ≤ wr.heap.size) (e : Below wr.heap.size wr X3) (ha : X3.ownsRow wr.heap.size 3 1 v' m.a.length (valsL m.a))
    (o4 : X4.ownsRow base 27 2 v2 (l.length + 1) (modC l vs ++ [.int .u8 m.c.toNat, v'])) (g4 : X3.grownBy X4 v.ownBlock) (b4 : v2.ownBlock = v.ownBlock ∨ v2.ownBlock = some X3.heap.size) : ModFr X4 base v2 (l ++ [m]) (vs ++ [v']) := by
  have hvl := owns_lt h.row
  have z := e.size
  have hal := owns_lt ha
  have n1 : v' = .slice none 0 0 ∨ v'.ownBlock ≠ v.ownBlock := by
    rcases nilOr_of_owned ha with e | ⟨ad, n, c, e⟩
    · exact .inl e
    · right; intro e2
      have e3 : v'.ownBlock = some ad.block := by rw [e]; rfl
      have := (hal _ e3).1
      have := (hvl _ (by rw [← e2, e3])).2
      omega
  have n2 : v' = .slice none 0 0 ∨ v'.ownBlock ≠ v2.ownBlock := by
    rcases nilOr_of_owned ha with e | ⟨ad, n, c, e⟩
    · exact .inl e
    · right; intro e2
      have e3 : v'.ownBlock = some ad.block := by rw [e]; rfl
      rcases b4 with h | h
      · rcases n1 with e4 | e4
        · rw [e] at e4; simp at e4
        · exact e4 (e2.trans h)
      · have := (hal _ e3).2
        rw [e3, h] at e2
        have := Option.some.inj e2; omega
  refine ⟨by rw [List.length_append, List.length_append, h.len]; rfl, by rw [List.length_append, modC_snoc _ _ _ _ h.len.symm]; exact o4, ?_⟩
  intro k hk hk2
  rw [List.length_append, List.length_singleton] at hk
  rcases Nat.lt_or_eq_of_le (Nat.le_of_lt_succ hk) with hlt | heq
  · have hk3 : k < vs.length := by rw [h.len]; exact hlt
    rw [List.getElem_append_left hlt, List.getElem_append_left hk3]
    have A := h.args k hlt hk3
    have A2 := A.kept (rb' := v.ownBlock) (grown_of_below e none) (none_or _) A.apart
    refine A2.kept g4 (apart_or A.apart) ?_
    rcases argFr_block A with e | ⟨q, ob, q1, q2⟩
    · exact .inl e
    · right; intro e2
      rcases b4 with h | h
      · rcases A.apart with e | e
        · rw [e] at ob; simp [Value.ownBlock] at ob
        · exact e (e2.trans h)
      · rw [ob, h] at e2
        have := Option.some.inj e2; omega
  · subst heq
    have a1 : (vs ++ [v'])[l.length]'hk2 = v' := by rw [List.getElem_append_right (by rw [h.len]; exact Nat.le_refl _)]; simp
    have a2 : (l ++ [m])[l.length]'(by simp) = m := by simp
    rw [a1, a2]
    exact ⟨owns_mono (ha.kept g4 (apart_or n1)) hbase, n2⟩
end Go.Proofs.YtjjjopopalcokaaDoor
