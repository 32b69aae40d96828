/-
  What the reference's Open and Check hand back.
-/
import Derived.Test.YtkjjehnfibfngaaWordOwn
namespace Go.Proofs.Ytkjjehnfibfngaa
open Go.RowKit
open WM
set_option linter.unusedVariables false
set_option linter.unusedSimpArgs false

theorem dep_hi (l : List Md) : ∀ k, k ≤ l.length → dep (l.take k) ≤ k := by
  intro k
  induction k with
  | zero => intro _; simp [dep_nil]
  | succ k ih =>
    intro h
    have h1 := ih (by omega)
    rw [dep_snoc (by omega)]
    rcases dlt_cases l[k] with e | e | e <;> rw [e] <;> omega
/-- How Open ends. -/
def OpEnd (l : List Md) (w : World) (e : Ending) (w' : World) : Prop :=
  Below w.heap.size w w' ∧ ((okB l l.length = false ∧ e = .returned (.tuple #[.slice none 0 0, .bool false])) ∨ (okB l l.length = true ∧ ∃ v, e = .returned (.tuple #[v, .bool true]) ∧ Ints w' v (opnL l l.length)))
/-- Where Open stands. -/
structure OpAt (w : World) (l : List Md) (k : Nat) (v : Value) (wr : World) : Prop where
  hi : k ≤ l.length
  ok : okB l k = true
  own : wr.ownsRow w.heap.size 3 1 v k (valsL (opnL l k))
  below : Below w.heap.size w wr
theorem OpAt.rng {w wr : World} {l : List Md} {k : Nat} {v : Value} (h : OpAt w l k v wr) : 0 ≤ dep (l.take k) ∧ dep (l.take k) ≤ k := by
  refine ⟨?_, dep_hi l k h.hi⟩
  rcases Nat.eq_zero_or_pos k with h0 | h0
  · subst h0; simp [dep_nil]
  · have := okB_iff.1 h.ok (k - 1) (by omega)
    rwa [show k - 1 + 1 = k by omega] at this
set_option maxRecDepth 100000 in
set_option maxHeartbeats 1600000 in
theorem open_any (v : Value) (l : List Md) (hmax : l.length ≤ 2100) (w : World) (hv : Mods w v l) :
    Calls Try.prog 44 #[v] w (OpEnd l w) := by
  obtain ⟨p, cap, rfl⟩ := hv.slice
  have HV := Lib.hid hv
  obtain ⟨i0, hi, hz0, hz1, hz2⟩ := info_parts info_int
  have HM : Hid (maxLen = 9223372036854775807) := Lib.hid rfl
  clear hv
  go_enter Try.func44, Try.ntmps44
  go_wp2_with fail
  go_loopw [4, 5, 6] (fun v n i wr => ∃ k : Nat, i = .int .i64 k ∧ n = .int .i64 (dep (l.take k)) ∧ OpAt w l k v wr) (fun _ _ i _ => l.length - (intOf i).toNat)
  case atStart => exact ⟨0, rfl, by simp [dep_nil], Nat.zero_le _, okB_zero l, World.ownsRow_nil _ _ _ _, Below.refl _ _⟩
  case round =>
    obtain ⟨k, rfl, rfl, hO⟩ := hrel
    have HO := Lib.hid hO
    have n1 := hO.hi
    have n2 := hO.rng
    have hown := hO.own
    have hsz := hO.below.size
    clear hO
    by_cases hlt : k < l.length
    · obtain ⟨b, off, cap', q, c, hp, e1, e2, _, lb⟩ := (HV.out.later (HO.out.below.mono (Nat.le_refl _))).at hlt
      obtain rfl : p = some ⟨b, off, none⟩ := by cases hp; rfl
      have hs := dep_snoc hlt
      have ho := okB_succ l k
      have HS : Hid (valsL (opnL l (k + 1)) = valsL (opnL l k) ++ [.int .i64 (dep (l.take (k + 1)))]) := Lib.hid (by rw [opnL_succ, valsL_app]; rfl)
      have HD : Hid (dep (l.take (k + 1)) = dep (l.take k) + dlt l[k]) := Lib.hid hs
      have HOk : Hid (0 ≤ dep (l.take (k + 1)) → okB l (k + 1) = true) := Lib.hid (fun h => by rw [ho, HO.out.ok]; simpa using h)
      clear hp e2 hs ho
      clear HV
      by_cases c1 : l[k].c = 91
      · have t1 : ((l[k].c.toNat : Int) == 91) = true := by rw [c1]; rfl
        have t2 : ((l[k].c.toNat : Int) == 93) = false := by rw [c1]; rfl
        have HX : Hid (dep (l.take (k + 1)) = dep (l.take k) + 1) := Lib.hid (by rw [HD.out]; unfold dlt; rw [if_pos c1])
        clear c1
        generalize l[k].c.toNat = cn at e1 t1 t2
        obtain ⟨d, hd⟩ : ∃ d, dep (l.take k) = d := ⟨_, rfl⟩
        rw [hd] at HX n2 ⊢
        clear hd
        go_wp2_with (at_builtin; refine wpList_append_own _ rfl _ _ 23 rfl w.heap.size 3 i0 (.int .i64 0) 1 8 Try.underlying23 hi hz0 hz1 hz2 rfl (by decide) _ _ _ rfl (hown.alloc _) ⟨wr.heap.size, 0, none⟩ 1 1 [.int .i64 (d + 1)] rfl rfl (cell_one_new _ _ _) (by simp [Value.oneCell']) (by rw [HM.out]; omega) (by omega) (by simp; omega) ?_; intro v' w1 hown' hgrow _)
        go_roundw
        case rel => exact ⟨k + 1, by go_num, by rw [HX.out], hlt, HOk.out (by rw [HX.out]; omega), by rw [HS.out, HX.out]; exact hown', grown_step HO.out.below hown hgrow⟩
        case measure => simp [intOf]; omega
      · by_cases c2 : l[k].c = 93
        · have t1 : ((l[k].c.toNat : Int) == 91) = false := by rw [c2]; rfl
          have t2 : ((l[k].c.toNat : Int) == 93) = true := by rw [c2]; rfl
          have HX : Hid (dep (l.take (k + 1)) = dep (l.take k) - 1) := Lib.hid (by rw [HD.out]; unfold dlt; rw [if_neg c1, if_pos c2]; omega)
          clear c1 c2
          generalize l[k].c.toNat = cn at e1 t1 t2
          obtain ⟨d, hd⟩ : ∃ d, dep (l.take k) = d := ⟨_, rfl⟩
          rw [hd] at HX n2 ⊢
          clear hd
          by_cases hneg : d - 1 < 0
          · have HF : Hid (okB l l.length = false) := Lib.hid (by
              cases h : okB l l.length
              · rfl
              · have := okB_iff.1 h k hlt
                rw [HX.out] at this; omega)
            go_wp2_with fail
            go_ret2
            exact ⟨HO.out.below, .inl ⟨HF.out, rfl⟩⟩
          · have hneg2 : 0 ≤ d - 1 := by omega
            go_wp2_with (at_builtin; refine wpList_append_own _ rfl _ _ 23 rfl w.heap.size 3 i0 (.int .i64 0) 1 8 Try.underlying23 hi hz0 hz1 hz2 rfl (by decide) _ _ _ rfl (hown.alloc _) ⟨wr.heap.size, 0, none⟩ 1 1 [.int .i64 (d - 1)] rfl rfl (cell_one_new _ _ _) (by simp [Value.oneCell']) (by rw [HM.out]; omega) (by omega) (by simp; omega) ?_; intro v' w1 hown' hgrow _)
            go_roundw
            case rel => exact ⟨k + 1, by go_num, by rw [HX.out], hlt, HOk.out (by rw [HX.out]; omega), by rw [HS.out, HX.out]; exact hown', grown_step HO.out.below hown hgrow⟩
            case measure => simp [intOf]; omega
        · have t1 : ((l[k].c.toNat : Int) == 91) = false := by
            rw [show (91 : Int) = ((91 : UInt8).toNat : Int) from rfl, u8_eq]; exact beq_eq_false_iff_ne.2 c1
          have t2 : ((l[k].c.toNat : Int) == 93) = false := by
            rw [show (93 : Int) = ((93 : UInt8).toNat : Int) from rfl, u8_eq]; exact beq_eq_false_iff_ne.2 c2
          have HX : Hid (dep (l.take (k + 1)) = dep (l.take k)) := Lib.hid (by rw [HD.out]; unfold dlt; rw [if_neg c1, if_neg c2]; omega)
          clear c1 c2
          generalize l[k].c.toNat = cn at e1 t1 t2
          obtain ⟨d, hd⟩ : ∃ d, dep (l.take k) = d := ⟨_, rfl⟩
          rw [hd] at HX n2 ⊢
          clear hd
          have hneg2 : 0 ≤ d := n2.1
          go_wp2_with (at_builtin; refine wpList_append_own _ rfl _ _ 23 rfl w.heap.size 3 i0 (.int .i64 0) 1 8 Try.underlying23 hi hz0 hz1 hz2 rfl (by decide) _ _ _ rfl (hown.alloc _) ⟨wr.heap.size, 0, none⟩ 1 1 [.int .i64 (d)] rfl rfl (cell_one_new _ _ _) (by simp [Value.oneCell']) (by rw [HM.out]; omega) (by omega) (by simp; omega) ?_; intro v' w1 hown' hgrow _)
          go_roundw
          case rel => exact ⟨k + 1, by go_num, by rw [HX.out], hlt, HOk.out (by rw [HX.out]; omega), by rw [HS.out, HX.out]; exact hown', grown_step HO.out.below hown hgrow⟩
          case measure => simp [intOf]; omega
    · obtain rfl : k = l.length := by omega
      have HI := Lib.hid (ints_of_owned (l := opnL l l.length) (by rw [opnL_length]; exact hown))
      go_wp2_with fail
      go_ret2
      exact ⟨HO.out.below, .inr ⟨HO.out.ok, _, rfl, HI.out⟩⟩

theorem bad_at {l : List Md} {k : Nat} (hk : k < l.length) (h : fineB l[k] = false) : l.all fineB = false := by
  rw [List.all_eq_false]
  exact ⟨l[k], List.getElem_mem hk, by rw [h]; simp⟩
theorem good_all {l : List Md} (h : ∀ j, (hj : j < l.length) → fineB l[j] = true) : l.all fineB = true := by
  rw [List.all_eq_true]
  intro m hm
  obtain ⟨j, hj, rfl⟩ := List.mem_iff_getElem.1 hm
  exact h j hj
set_option maxRecDepth 100000 in
set_option maxHeartbeats 1600000 in
theorem check_any (v : Value) (l : List Md) (hmax : l.length ≤ 2100) (hargs : ∀ m ∈ l, m.a.length ≤ 10) (w : World) (hv : Mods w v l) :
    Calls Try.prog 32 #[v] w fun e w' => e = .returned (.int .i64 (chk l)) ∧ Below w.heap.size w w' := by
  obtain ⟨p, cap, rfl⟩ := hv.slice
  have HV := Lib.hid hv
  have HA := Lib.hid hargs
  clear hv hargs
  by_cases hlen : 2000 < l.length
  · have HC := Lib.hid (chk_many hlen)
    have c1 : (2000 : Int) < (l.length : Int) := by omega
    go_enter Try.func32, Try.ntmps32
    go_wp2_with fail
    go_ret
    exact ⟨ret_int HC.out.symm, Below.refl _ _⟩
  · have c1 : ¬ (2000 : Int) < (l.length : Int) := by omega
    go_enter Try.func32, Try.ntmps32
    go_wp2_with fail
    go_loopw [3] (fun i wr => ∃ k : Nat, k ≤ l.length ∧ i = .int .i64 k ∧ Below w.heap.size w wr ∧ ∀ j, (h : j < l.length) → j < k → fineB l[j] = true) (fun i _ => l.length - (intOf i).toNat)
    case atStart => exact ⟨0, Nat.zero_le _, rfl, Below.refl _ _, fun j _ h => by omega⟩
    case round =>
      obtain ⟨k, hk, rfl, hb, hok⟩ := hrel
      have HK := Lib.hid hok
      have HB := Lib.hid hb
      clear hok hb
      by_cases hlt : k < l.length
      · obtain ⟨b, off, cap', q, c, hp, e1, e2, hin, lb⟩ := (HV.out.later (HB.out.mono (Nat.le_refl _))).at hlt
        obtain rfl : p = some ⟨b, off, none⟩ := by cases hp; rfl
        have HF := Lib.hid (fine_any l[k] _ (by have := HA.out _ (List.getElem_mem hlt); omega) wr hin)
        obtain ⟨t, ht⟩ : ∃ t, fineB l[k] = t := ⟨_, rfl⟩
        have HT := Lib.hid ht
        rw [ht] at HF
        clear hp hin ht
        generalize l[k].c.toNat = cn at e1 HF
        generalize l[k].a.length = an at e2 HF
        cases t with
        | false =>
          have HC := Lib.hid (chk_bad hlen (bad_at hlt HT.out))
          go_wp2_with fail
          refine HF.out.mono ?_
          rintro e w1 ⟨rfl, hb⟩
          have HB1 := Lib.hid (HB.out.trans (hb.mono HB.out.size))
          clear hb
          go_wp2_with fail
          go_ret
          exact ⟨ret_int HC.out.symm, HB1.out⟩
        | true =>
          have HG : Hid (∀ j, (h : j < l.length) → j < k + 1 → fineB l[j] = true) := Lib.hid (fun j h hj => by
            rcases Nat.lt_or_eq_of_le (Nat.le_of_lt_succ hj) with h1 | h1
            · exact HK.out j h h1
            · subst h1; exact HT.out)
          go_wp2_with fail
          refine HF.out.mono ?_
          rintro e w1 ⟨rfl, hb⟩
          have HB1 := Lib.hid (HB.out.trans (hb.mono HB.out.size))
          clear hb
          go_wp2_with fail
          go_roundw
          case rel => exact ⟨k + 1, by omega, by go_num, HB1.out, HG.out⟩
          case measure => simp [intOf]; omega
      · obtain rfl : k = l.length := by omega
        have HGd := Lib.hid (good_all fun j h => HK.out j h h)
        have HO := Lib.hid (open_any _ l hmax wr (HV.out.later (HB.out.mono (Nat.le_refl _))))
        go_wp2_with fail
        refine HO.out.mono ?_
        rintro e w1 ⟨hb, ⟨hno, rfl⟩ | ⟨hyes, v1, rfl, hi⟩⟩
        · have HB1 := Lib.hid (HB.out.trans (hb.mono HB.out.size))
          have HC := Lib.hid (chk_open hlen HGd.out (by rw [hno]; rfl))
          clear hb hno
          go_wp2_with fail
          go_ret
          exact ⟨ret_int HC.out.symm, HB1.out⟩
        · have HB1 := Lib.hid (HB.out.trans (hb.mono HB.out.size))
          have HI := Lib.hid hi
          obtain ⟨p1, cap1, rfl⟩ := hi.slice
          have hlenO : (opnL l l.length).length = l.length := opnL_length _ _
          rw [hlenO] at HI ⊢
          have HY := Lib.hid hyes
          clear hb hyes hi
          by_cases h0 : 0 < l.length
          · obtain ⟨b, off, cap', hp, e1, lb⟩ := HI.out.at (k := l.length - 1) (by rw [hlenO]; omega)
            rw [hlenO] at hp
            obtain rfl : p1 = some ⟨b, off, none⟩ := by cases hp; rfl
            rw [opnL_get (by omega), show l.length - 1 + 1 = l.length by omega, List.take_length] at e1
            have hge := okB_iff.1 HY.out (l.length - 1) (by omega)
            rw [show l.length - 1 + 1 = l.length by omega, List.take_length] at hge
            have n3 : ((l.length : Int) - 1).toNat = l.length - 1 := by omega
            have n4 : (0 : Int) ≤ (l.length : Int) - 1 := by omega
            have n5 : (l.length : Int) - 1 < (l.length : Int) := by omega
            have n6 : (0 : Int) < (l.length : Int) := by omega
            clear hp hlenO
            by_cases hd : dep l = 0
            · have HC : Hid (chk l = 0) := Lib.hid (chk_zero.2 ⟨by omega, HGd.out, HY.out, hd⟩)
              obtain ⟨d, hdd⟩ : ∃ d, dep l = d := ⟨_, rfl⟩
              rw [hdd] at e1 hge hd
              clear hdd
              subst hd
              go_wp2_with fail
              go_ret
              exact ⟨ret_int HC.out.symm, HB1.out⟩
            · have HC := Lib.hid (chk_open hlen HGd.out (by simp [hd]))
              obtain ⟨d, hdd⟩ : ∃ d, dep l = d := ⟨_, rfl⟩
              rw [hdd] at e1 hge hd
              clear hdd
              have hd1 : 0 < d := by omega
              go_wp2_with fail
              go_ret
              exact ⟨ret_int HC.out.symm, HB1.out⟩
          · have hl0 : l = [] := List.length_eq_zero_iff.1 (by omega)
            have HC : Hid (chk l = 0) := Lib.hid (by rw [hl0]; rfl)
            have n6 : ¬ (0 : Int) < (l.length : Int) := by omega
            clear hl0
            go_wp2_with fail
            go_ret
            exact ⟨ret_int HC.out.symm, HB1.out⟩
end Go.Proofs.Ytkjjehnfibfngaa
