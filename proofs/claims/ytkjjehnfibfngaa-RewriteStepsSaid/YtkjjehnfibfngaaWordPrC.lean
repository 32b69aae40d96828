/-
  What the package's levels and Check hand back.
-/
import Derived.Test.YtkjjehnfibfngaaWordPrB
import Derived.Test.YtkjjehnfibfngaaWordClM
namespace Go.Proofs.Ytkjjehnfibfngaa
open Go.RowKit
open WM
set_option linter.unusedVariables false
set_option linter.unusedSimpArgs false

/-- The brackets that are open at each module, a pair's own counted at both of its brackets. -/
def lvlA (l : List Md) (i : Nat) : Int := dep (l.take (i + 1)) + (if (l.getD i ⟨0, []⟩).c = 93 then 1 else 0)
theorem lvlA_eq {l : List Md} {i : Nat} (h : i < l.length) : lvlA l i = dep (l.take (i + 1)) + (if l[i].c = 93 then 1 else 0) := by
  unfold lvlA; simp [List.getD, h]
def lvlL (l : List Md) (k : Nat) : List Int := (List.range l.length).map fun i => if i < k then lvlA l i else 0
theorem lvlL_length (l : List Md) (k : Nat) : (lvlL l k).length = l.length := by simp [lvlL]
theorem lvlL_zero (l : List Md) : lvlL l 0 = List.replicate l.length 0 := by
  apply List.ext_getElem (by simp [lvlL])
  intro i h1 h2; simp [lvlL]
theorem lvlL_get {l : List Md} {k i : Nat} (h : i < l.length) : (lvlL l k)[i]'(by rw [lvlL_length]; exact h) = if i < k then lvlA l i else 0 := by simp [lvlL]
theorem lvlL_set {l : List Md} {k : Nat} (h : k < l.length) : (lvlL l k).set k (lvlA l k) = lvlL l (k + 1) := by
  apply List.ext_getElem (by simp [lvlL])
  intro i h1 h2
  rw [List.getElem_set]
  rw [lvlL_length] at h2
  rw [lvlL_get (k := k + 1) h2]
  by_cases e : k = i
  · subst e; rw [if_pos rfl, if_pos (by omega)]
  · rw [if_neg e, lvlL_get h2]
    by_cases e2 : i < k
    · rw [if_pos e2, if_pos (by omega)]
    · rw [if_neg e2, if_neg (by omega)]
/-- How levels ends. -/
def LvEnd (l : List Md) (w : World) (e : Ending) (w' : World) : Prop :=
  Below w.heap.size w w' ∧ ((okB l l.length = false ∧ e = .returned (.tuple #[.slice none 0 0, .bool false])) ∨ (okB l l.length = true ∧ ∃ g, e = .returned (.tuple #[.slice (some ⟨g, 0, none⟩) l.length l.length, .bool (decide (dep l = 0))]) ∧ RowI w' g (lvlL l l.length)))
/-- Where levels stands. -/
structure LvAt (w : World) (l : List Md) (k : Nat) (wr : World) : Prop where
  hi : k ≤ l.length
  ok : okB l k = true
  row : RowI wr w.heap.size (lvlL l k)
  below : Below w.heap.size w wr
theorem LvAt.rng {w wr : World} {l : List Md} {k : Nat} (h : LvAt w l k wr) : 0 ≤ dep (l.take k) ∧ dep (l.take k) ≤ k := by
  refine ⟨?_, dep_hi l k h.hi⟩
  rcases Nat.eq_zero_or_pos k with h0 | h0
  · subst h0; simp [dep_nil]
  · have := okB_iff.1 h.ok (k - 1) (by omega)
    rwa [show k - 1 + 1 = k by omega] at this
theorem lvAt_start (w : World) (l : List Md) : LvAt w l 0 (w.alloc (.cells (zeros l.length) 3)) :=
  ⟨Nat.zero_le _, okB_zero l, by rw [lvlL_zero]; exact made_row _ _, (Below.refl _ _).alloc (Nat.le_refl _) _⟩
theorem lvAt_step {w wr : World} {l : List Md} {k : Nat} (h : LvAt w l k wr) (hk : k < l.length) (hd : 0 ≤ dep (l.take (k + 1))) (x : Int) (hx : x = lvlA l k) : LvAt w l (k + 1) (wr.setCell ⟨w.heap.size, k, none⟩ (.int .i64 x)) := by
  subst hx
  refine ⟨hk, by rw [okB_succ, h.ok]; simpa using hd, ?_, h.below.setCell (Nat.le_refl _) _⟩
  have := h.row.set (i := k) (by rw [lvlL_length]; exact hk) (lvlA l k)
  rwa [lvlL_set hk] at this
set_option maxRecDepth 100000 in
set_option maxHeartbeats 1600000 in
theorem levels_any (v : Value) (l : List Md) (hmax : l.length ≤ 50000) (w : World) (hv : Mods w v l) :
    Calls Try.prog 39 #[v] w (LvEnd l w) := by
  obtain ⟨p, cap, rfl⟩ := hv.slice
  have HV := Lib.hid hv
  have hmk : ∀ w : World, (Instr.makeSlice 23 (.int .i64 (l.length : Int)) (.int .i64 (l.length : Int))).run Try.prog w = .ok (.slice (some ⟨w.heap.size, 0, none⟩) l.length l.length) (w.alloc (.cells (zeros l.length) 3)) := fun w => by
    have := run_make (P := Try.prog) w 23 3 Try.t3 (.int .i64 0) Try.underlying23 (by kernel_rfl) (by kernel_rfl) .i64 .i64 l.length l.length (by omega) (Int.le_refl _) (by show ((8 : Nat) : Int) * (l.length : Int) ≤ _; omega) (by omega)
    rw [this]; simp only [zeros, Value.cells, Int.toNat_natCast, show (Try.t3).size = 1 from rfl, Nat.mul_one]
  have S0 := Lib.hid (lvAt_start w l)
  clear hv
  go_enter Try.func39, Try.ntmps39
  go_wp2_with fail
  go_loopw [2, 4, 11] (fun v n i wr => ∃ k : Nat, v = .slice (some ⟨w.heap.size, 0, none⟩) l.length l.length ∧ i = .int .i64 k ∧ n = .int .i64 (dep (l.take k)) ∧ LvAt w l k wr) (fun _ _ i _ => l.length - (intOf i).toNat)
  case atStart => exact ⟨0, rfl, rfl, by simp [dep_nil], S0.out⟩
  case round =>
    obtain ⟨k, rfl, rfl, rfl, hO⟩ := hrel
    have HO := Lib.hid hO
    have n1 := hO.hi
    have n2 := hO.rng
    have hsz := hO.below.size
    have l2 := hO.row.lt
    have HR := Lib.hid hO.row.free
    clear hO
    by_cases hlt : k < l.length
    · obtain ⟨b, off, cap', q, c, hp, e1, _, _, lb⟩ := (HV.out.later (HO.out.below.mono (Nat.le_refl _))).at hlt
      obtain rfl : p = some ⟨b, off, none⟩ := by cases hp; rfl
      have hs := dep_snoc hlt
      have hA := lvlA_eq hlt
      have f1 := HR.out k
      have q3 := HO.out.row.cell (i := k) (by rw [lvlL_length]; exact hlt)
      generalize (lvlL l k)[k]'(by rw [lvlL_length]; exact hlt) = z at q3
      have hne : b < w.heap.size ∨ w.heap.size ≤ b := Nat.lt_or_ge _ _
      have hbw : b < w.heap.size := by
        obtain ⟨b', off', cap'', q', c', hp', _, _, _, lb'⟩ := HV.out.at hlt
        cases hp'; exact lb'
      have HD : Hid (dep (l.take (k + 1)) = dep (l.take k) + dlt l[k]) := Lib.hid hs
      have HA := Lib.hid hA
      clear hp hs hA hne
      by_cases c1 : l[k].c = 91
      · have t1 : ((l[k].c.toNat : Int) == 91) = true := by rw [c1]; rfl
        have t2 : ((l[k].c.toNat : Int) == 93) = false := by rw [c1]; rfl
        have HX : Hid (dep (l.take (k + 1)) = dep (l.take k) + 1) := Lib.hid (by rw [HD.out]; unfold dlt; rw [if_pos c1])
        have T1 := Lib.hid (lvAt_step HO.out hlt (by rw [HX.out]; omega) (dep (l.take k) + 1) (by rw [HA.out, HX.out, if_neg (by rw [c1]; decide)]; omega))
        clear c1
        generalize l[k].c.toNat = cn at e1 t1 t2
        obtain ⟨d, hd⟩ : ∃ d, dep (l.take k) = d := ⟨_, rfl⟩
        rw [hd] at HX n2 T1 ⊢
        clear hd
        go_wp2_with fail
        go_roundw
        case rel => exact ⟨k + 1, rfl, by go_num, by rw [HX.out], T1.out⟩
        case measure => simp [intOf]; omega
      · by_cases c2 : l[k].c = 93
        · have t1 : ((l[k].c.toNat : Int) == 91) = false := by rw [c2]; rfl
          have t2 : ((l[k].c.toNat : Int) == 93) = true := by rw [c2]; rfl
          have HX : Hid (dep (l.take (k + 1)) = dep (l.take k) - 1) := Lib.hid (by rw [HD.out]; unfold dlt; rw [if_neg c1, if_pos c2]; omega)
          have T1 := Lib.hid (fun h => lvAt_step HO.out hlt h (dep (l.take k)) (by rw [HA.out, HX.out, if_pos c2]; omega))
          clear c1 c2
          generalize l[k].c.toNat = cn at e1 t1 t2
          obtain ⟨d, hd⟩ : ∃ d, dep (l.take k) = d := ⟨_, rfl⟩
          rw [hd] at HX n2 T1 ⊢
          clear hd
          by_cases hneg : d - 1 < 0
          · have HF : Hid (okB l l.length = false) := Lib.hid (by
              cases h : okB l l.length
              · rfl
              · have := okB_iff.1 h k hlt
                rw [HX.out] at this; omega)
            go_wp2_with fail
            go_ret2
            exact ⟨HO.out.below.setCell (Nat.le_refl _) _, .inl ⟨HF.out, rfl⟩⟩
          · have T2 := Lib.hid (T1.out (by rw [HX.out]; omega))
            go_wp2_with fail
            go_roundw
            case rel => exact ⟨k + 1, rfl, by go_num, by rw [HX.out], T2.out⟩
            case measure => simp [intOf]; omega
        · have t1 : ((l[k].c.toNat : Int) == 91) = false := by
            rw [show (91 : Int) = ((91 : UInt8).toNat : Int) from rfl, u8_eq]; exact beq_eq_false_iff_ne.2 c1
          have t2 : ((l[k].c.toNat : Int) == 93) = false := by
            rw [show (93 : Int) = ((93 : UInt8).toNat : Int) from rfl, u8_eq]; exact beq_eq_false_iff_ne.2 c2
          have HX : Hid (dep (l.take (k + 1)) = dep (l.take k)) := Lib.hid (by rw [HD.out]; unfold dlt; rw [if_neg c1, if_neg c2]; omega)
          have T1 := Lib.hid (lvAt_step HO.out hlt (by rw [HX.out]; omega) (dep (l.take k)) (by rw [HA.out, HX.out, if_neg c2]; omega))
          clear c1 c2
          generalize l[k].c.toNat = cn at e1 t1 t2
          obtain ⟨d, hd⟩ : ∃ d, dep (l.take k) = d := ⟨_, rfl⟩
          rw [hd] at HX n2 T1 ⊢
          clear hd
          have hneg2 : 0 ≤ d := n2.1
          go_wp2_with fail
          go_roundw
          case rel => exact ⟨k + 1, rfl, by go_num, by rw [HX.out], T1.out⟩
          case measure => simp [intOf]; omega
    · obtain rfl : k = l.length := by omega
      have HI := Lib.hid HO.out.row
      rw [List.take_length] at n2 ⊢
      obtain ⟨d, hd⟩ : ∃ d, dep l = d := ⟨_, rfl⟩
      have HE : Hid (∀ b, b = decide (d = 0) → LvEnd l w (.returned (.tuple #[.slice (some ⟨w.heap.size, 0, none⟩) l.length l.length, .bool b])) wr) := Lib.hid (fun b hb => ⟨HO.out.below, .inr ⟨HO.out.ok, _, by rw [hb, ← hd], HI.out⟩⟩)
      rw [hd] at n2 ⊢
      clear hd
      by_cases h0 : d = 0
      · subst h0
        go_wp2_with fail
        go_ret2
        exact HE.out _ rfl
      · have t0 : (d == 0) = false := by simpa using h0
        have HE2 := Lib.hid (HE.out false (by simp [h0]))
        clear h0
        go_wp2_with fail
        go_ret2
        exact HE2.out
theorem bad_one {l : List Md} {k : Nat} (hk : k < l.length) (h : fineB l[k] = false) : l.all fineB = false := by
  rw [List.all_eq_false]; exact ⟨l[k], List.getElem_mem hk, by simp [h]⟩
set_option maxRecDepth 100000 in
set_option maxHeartbeats 1600000 in
theorem pcheck_any (v : Value) (l : List Md) (hmax : l.length ≤ 9223372036854775807) (hargs : ∀ m ∈ l, m.a.length ≤ 9223372036854775807) (w : World) (hv : Mods w v l) :
    Calls Try.prog 26 #[v] w fun e w' => e = .returned (.int .i64 (chk l)) ∧ Below w.heap.size w w' := by
  obtain ⟨p, cap, rfl⟩ := hv.slice
  have HV := Lib.hid hv
  have HA := Lib.hid hargs
  clear hv hargs
  by_cases hlen : 2000 < l.length
  · have HC := Lib.hid (chk_many hlen)
    have c1 : (2000 : Int) < (l.length : Int) := by omega
    go_enter Try.func26, Try.ntmps26
    go_wp2_with fail
    go_ret
    exact ⟨ret_int HC.out.symm, Below.refl _ _⟩
  · have c1 : ¬ (2000 : Int) < (l.length : Int) := by omega
    go_enter Try.func26, Try.ntmps26
    go_wp2_with fail
    go_loopw [11] (fun i wr => ∃ k : Nat, k ≤ l.length ∧ i = .int .i64 k ∧ Below w.heap.size w wr ∧ ∀ j, (h : j < l.length) → j < k → fineB l[j] = true) (fun i _ => l.length - (intOf i).toNat)
    case atStart => exact ⟨0, Nat.zero_le _, rfl, Below.refl _ _, fun j _ h => by omega⟩
    case round =>
      obtain ⟨k, hk, rfl, hb, hok⟩ := hrel
      have HK := Lib.hid hok
      have HB := Lib.hid hb
      clear hok hb
      by_cases hlt : k < l.length
      · obtain ⟨b, off, cap', q, c, hp, e1, e2, hin, lb⟩ := (HV.out.later (HB.out.mono (Nat.le_refl _))).at hlt
        obtain rfl : p = some ⟨b, off, none⟩ := by cases hp; rfl
        have HF := Lib.hid (valid_any l[k] _ (HA.out _ (List.getElem_mem hlt)) wr hin)
        obtain ⟨t, ht⟩ : ∃ t, fineB l[k] = t := ⟨_, rfl⟩
        have HT := Lib.hid ht
        rw [ht] at HF
        clear hp hin ht
        generalize l[k].c.toNat = cn at e1 HF
        generalize l[k].a.length = an at e2 HF
        cases t with
        | false =>
          have HC := Lib.hid (chk_bad hlen (bad_one hlt HT.out))
          go_wp2_with fail
          refine HF.out.mono ?_
          rintro e w1 ⟨rfl, hb⟩
          have HB1 := Lib.hid (HB.out.trans (hb.mono HB.out.size))
          clear hb
          go_wp2_with fail
          go_ret
          exact ⟨ret_int HC.out.symm, HB1.out⟩
        | true =>
          have HG : Hid (∀ j, (h : j < l.length) → j < k + 1 → fineB l[j] = true) := Lib.hid (fun j h hj => by
            rcases Nat.lt_or_eq_of_le (Nat.le_of_lt_succ hj) with h1 | h1
            · exact HK.out j h h1
            · subst h1; exact HT.out)
          go_wp2_with fail
          refine HF.out.mono ?_
          rintro e w1 ⟨rfl, hb⟩
          have HB1 := Lib.hid (HB.out.trans (hb.mono HB.out.size))
          clear hb
          go_wp2_with fail
          go_roundw
          case rel => exact ⟨k + 1, by omega, by go_num, HB1.out, HG.out⟩
          case measure => simp [intOf]; omega
      · obtain rfl : k = l.length := by omega
        have HGd := Lib.hid (good_all fun j h => HK.out j h h)
        have HO := Lib.hid (levels_any _ l (by omega) wr (HV.out.later (HB.out.mono (Nat.le_refl _))))
        go_wp2_with fail
        refine HO.out.mono ?_
        rintro e w1 ⟨hb, ⟨hno, rfl⟩ | ⟨hyes, g, rfl, hi⟩⟩
        · have HB1 := Lib.hid (HB.out.trans (hb.mono HB.out.size))
          have HC := Lib.hid (chk_open hlen HGd.out (by rw [hno]; rfl))
          clear hb hno
          go_wp2_with fail
          go_ret
          exact ⟨ret_int HC.out.symm, HB1.out⟩
        · have HB1 := Lib.hid (HB.out.trans (hb.mono HB.out.size))
          have HY := Lib.hid hyes
          obtain ⟨t, ht⟩ : ∃ t, decide (dep l = 0) = t := ⟨_, rfl⟩
          have HT := Lib.hid ht
          rw [ht]
          clear hb hyes hi ht
          cases t with
          | true =>
            have HC : Hid (chk l = 0) := Lib.hid (chk_zero.2 ⟨by omega, HGd.out, HY.out, of_decide_eq_true HT.out⟩)
            go_wp2_with fail
            go_ret
            exact ⟨ret_int HC.out.symm, HB1.out⟩
          | false =>
            have HC := Lib.hid (chk_open hlen HGd.out (by rw [HT.out]; simp))
            go_wp2_with fail
            go_ret
            exact ⟨ret_int HC.out.symm, HB1.out⟩
/-- levels of a valid word. -/
theorem levels_valid (v : Value) (l : List Md) (hc : chk l = 0) (w : World) (hv : Mods w v l) :
    Calls Try.prog 39 #[v] w fun e w' => ∃ g, e = .returned (.tuple #[.slice (some ⟨g, 0, none⟩) l.length l.length, .bool true]) ∧ Below w.heap.size w w' ∧ RowI w' g (lvlL l l.length) := by
  have hh := chk_zero.1 hc
  refine (levels_any v l (by omega) w hv).mono ?_
  rintro e w' ⟨hb, ⟨hno, _⟩ | ⟨_, g, rfl, hi⟩⟩
  · rw [hh.2.2.1] at hno; exact absurd hno (by simp)
  · exact ⟨g, by rw [decide_eq_true hh.2.2.2], hb, hi⟩
end Go.Proofs.Ytkjjehnfibfngaa
