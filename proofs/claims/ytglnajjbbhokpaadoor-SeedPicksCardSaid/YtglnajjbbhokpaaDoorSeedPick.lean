/-
  What Pick, Choose and Draw hand back: the package's and the reference's.
-/
import Derived.Test.YtglnajjbbhokpaaDoorSeedSums
namespace Go.Proofs.YtglnajjbbhokpaaDoor
open Go.RowKit
open SM
set_option linter.unusedVariables false
set_option linter.unusedSimpArgs false

theorem less_any (c : Nat) (r x : Int) (t : Bool) (ht : decide (r < x) = t) (w : World) (hc : w.heap[c]? = some (.cells #[.int .i64 r] 3 (0, 0))) :
    Calls Tryd.prog 21 #[.int .i64 x, .pointer (some ⟨c, 0, none⟩)] w fun e w' => e = .returned (.bool t) ∧ w = w' := by
  subst ht
  have q1 := cell_of_one hc
  have l1 := lt_of_block hc
  clear hc
  go_enter Tryd.func21, Tryd.ntmps21
  go_wp2_with fail
  go_ret
  exact ⟨rfl, rfl⟩
set_option maxHeartbeats 400000 in
theorem idx_any (v : Value) (l : List Int) (hmax : l.length ≤ 9223372036854775807) (c : Nat) (r : Int) (k : Nat) (hk : k < l.length) (h1 : r < l[k]) (h2 : ∀ j, j < k → (hj : j < l.length) → ¬ r < l[j]) (w : World)
    (hv : Ints w v l) (hc : w.heap[c]? = some (.cells #[.int .i64 r] 3 (0, 0))) :
    Calls Tryd.prog 20 #[v, .func (.func 21) #[] #[.pointer (some ⟨c, 0, none⟩)]] w fun e w' => e = .returned (.int .i64 k) ∧ w = w' := by
  have HV := Lib.hid hv
  have HC := Lib.hid hc
  have H1 := Lib.hid h1
  have H2 := Lib.hid h2
  obtain ⟨b, off, cap, rfl, _, _⟩ := hv.at hk
  clear hv hc h1 h2
  go_enter Tryd.func20, Tryd.ntmps20
  go_wp2_with fail
  go_loop [8] (fun i => ∃ j : Nat, j ≤ k ∧ i = .int .i64 j) (fun i => l.length - (intOf i).toNat)
  case atStart => exact ⟨0, Nat.zero_le _, rfl⟩
  case round =>
    obtain ⟨j, hj, rfl⟩ := hrel
    have hlt : j < l.length := by omega
    obtain ⟨b', off', cap', hp, e1, _⟩ := HV.out.at hlt
    cases hp
    by_cases hjk : j = k
    · have HL : Hid (decide (r < l[j]) = true) := Lib.hid (decide_eq_true (by subst hjk; exact H1.out))
      have HJ := Lib.hid hjk
      clear hjk
      generalize l[j] = y at e1 HL
      go_wp2_with (go_at_call 21; refine (less_any c r y _ HL.out _ HC.out).mono ?_; rintro e w1 ⟨rfl, rfl⟩)
      go_ret
      exact ⟨by rw [← HJ.out]; rfl, rfl⟩
    · have HL : Hid (decide (r < l[j]) = false) := Lib.hid (decide_eq_false (by have := H2.out j (by omega) hlt; omega))
      generalize l[j] = y at e1 HL
      go_wp2_with (go_at_call 21; refine (less_any c r y _ HL.out _ HC.out).mono ?_; rintro e w1 ⟨rfl, rfl⟩)
      go_round
      case rel => exact ⟨j + 1, by omega, by go_num⟩
      case measure => simp [intOf]; omega

/-- What Pick hands back. -/
def pkI (l : List Int) (h : Nat) : Int := if wOk l = true then (pickN l ((h % (sumI l).toNat : Nat) : Int) : Int) else 0
def pkE (l : List Int) : Int := if wOk l = true then 0 else 2
theorem pk_no {l : List Int} (h : wOk l = false) (x : Nat) : pkI l x = 0 ∧ pkE l = 2 := by simp [pkI, pkE, h]
theorem pk_yes {l : List Int} (h : wOk l = true) (x : Nat) : pkI l x = (pickN l ((x % (sumI l).toNat : Nat) : Int) : Int) ∧ pkE l = 0 := by simp [pkI, pkE, h]
theorem ret_two {a b c d : Int} (h1 : a = b) (h2 : c = d) : Ending.returned (.tuple #[.int .i64 a, .int .i64 c]) = .returned (.tuple #[.int .i64 b, .int .i64 d]) := by rw [h1, h2]

theorem rest_lt {l : List Int} (hw : wOk l = true) (h : Nat) : ((h % (sumI l).toNat : Nat) : Int) < sumI l ∧ pickN l ((h % (sumI l).toNat : Nat) : Int) < l.length := by
  have h0 := wOk_iff.1 hw
  have h1 : h % (sumI l).toNat < (sumI l).toNat := Nat.mod_lt _ (by omega)
  have h2 : ((h % (sumI l).toNat : Nat) : Int) < sumI l := by omega
  exact ⟨h2, pickN_lt (by omega) h2⟩
/-- The first sum above the rest. -/
theorem first_sum {l : List Int} (hw : wOk l = true) {r : Int} (h0 : 0 ≤ r) (h1 : r < sumI l) :
    ∃ k, k = pickN l r ∧ k < l.length ∧ r < sumI (l.take (k + 1)) ∧ ∀ j, j < k → ¬ r < sumI (l.take (j + 1)) := by
  have hh := wOk_iff.1 hw
  have hl : 0 < l.length := by
    rcases Nat.eq_zero_or_pos l.length with h | h
    · have : l = [] := List.length_eq_zero_iff.1 h
      subst this; rw [sumI_nil] at h1; omega
    · exact h
  have key : ∀ n, n ≤ l.length → (∃ k, k < n ∧ r < sumI (l.take (k + 1)) ∧ ∀ j, j < k → ¬ r < sumI (l.take (j + 1))) ∨ (∀ j, j < n → ¬ r < sumI (l.take (j + 1))) := by
    intro n
    induction n with
    | zero => intro _; exact .inr fun j hj => by omega
    | succ n ih =>
      intro hn
      rcases ih (by omega) with ⟨k, a, b, c⟩ | hno
      · exact .inl ⟨k, by omega, b, c⟩
      · by_cases hr : r < sumI (l.take (n + 1))
        · exact .inl ⟨n, by omega, hr, hno⟩
        · refine .inr fun j hj => ?_
          rcases Nat.lt_or_eq_of_le (Nat.le_of_lt_succ hj) with h | h
          · exact hno j h
          · subst h; exact hr
  rcases key l.length (Nat.le_refl _) with ⟨k, a, b, c⟩ | hno
  · exact ⟨k, (pickN_first hh.2.1 a b c).symm, a, b, c⟩
  · exact absurd h1 (by
      have := hno (l.length - 1) (by omega)
      rwa [show l.length - 1 + 1 = l.length by omega, List.take_length] at this)

theorem sums_two {l : List Int} {w : World} {e : Ending} {w' : World} (h : SumsEnd l w e w') :
    (wOk l = false ∧ ∃ v, e = .returned (.tuple #[v, .bool false]) ∧ Below w.heap.size w w') ∨
    (wOk l = true ∧ ∃ g, e = .returned (.tuple #[.slice (some ⟨g, 0, none⟩) l.length l.length, .bool true]) ∧ Below w.heap.size w w' ∧ RowI w' g (preL l l.length)) := by
  obtain ⟨v, he, hb, hr⟩ := h
  cases hw : wOk l with
  | false => rw [hw] at he; exact .inl ⟨rfl, v, he, hb⟩
  | true =>
    rw [hw] at he
    obtain ⟨g, rfl, h2⟩ := hr hw
    exact .inr ⟨rfl, g, he, hb, h2⟩
set_option maxHeartbeats 800000 in
theorem pick_any (v : Value) (l : List Int) (hmax : l.length ≤ 9223372036854775807) (h : Nat) (hh : h < 18446744073709551616) (w : World) (hv : Ints w v l) :
    Calls Tryd.prog 10 #[v, .int .u64 h] w fun e w' => e = .returned (.tuple #[.int .i64 (pkI l h), .int .i64 (pkE l)]) ∧ Below w.heap.size w w' := by
  have HS := Lib.hid (sums_any v l hmax w hv)
  have hmf : ∀ (fn : Fn) (first cap : Array Value) (w : World), (Instr.makeFunc fn first cap).run Tryd.prog w = .ok (.func fn first cap) w := fun _ _ _ _ => rfl
  clear hv
  go_enter Tryd.func10, Tryd.ntmps10
  go_wp2_with fail
  refine HS.out.mono ?_
  intro e w1 he
  rcases sums_two he with ⟨hw, v1, rfl, hb⟩ | ⟨hw, g, rfl, hb, hR⟩
  · have HP := Lib.hid (pk_no hw h)
    have HB := Lib.hid hb
    clear hb he
    go_wp2_with fail
    go_ret2
    exact ⟨ret_two HP.out.1.symm HP.out.2.symm, HB.out⟩
  · have HP := Lib.hid (pk_yes hw h)
    have HB := Lib.hid hb
    have HR := Lib.hid hR
    obtain ⟨hr1, hr2⟩ := rest_lt hw h
    obtain ⟨k, hk, hk1, hk2, hk3⟩ := first_sum hw (r := ((h % (sumI l).toNat : Nat) : Int)) (by omega) hr1
    have HK := Lib.hid hk
    have H2 := Lib.hid hk2
    have H3 := Lib.hid hk3
    have hpos : 0 < l.length := by omega
    have h0 := wOk_iff.1 hw
    have l1 := hR.lt
    have e1 : w1.cell? ⟨g, l.length - 1, none⟩ = some (.int .i64 (sumI l)) := by
      have := hR.cell (i := l.length - 1) (by rw [preL_length]; omega)
      rw [preL_get (by omega), if_pos (by omega), show l.length - 1 + 1 = l.length by omega, List.take_length] at this
      exact this
    have HN : Hid ((((sumI l).toNat : Nat) : Int) = sumI l) := Lib.hid (by omega)
    have n1 : 1 ≤ (sumI l).toNat := by omega
    have n2 : (sumI l).toNat ≤ 9223372036854775807 := by omega
    have n3 : ((l.length : Int) - 1).toNat = l.length - 1 := by omega
    have n4 : (0 : Int) ≤ (l.length : Int) - 1 := by omega
    have n5 : (l.length : Int) - 1 < (l.length : Int) := by omega
    clear hb he hR hk hk2 hk3 h0 hr1 hr2
    have HM : Hid (∀ w, Calls Tryd.prog 18 #[.int .u64 h, .int .i64 (sumI l)] w fun e w' => e = .returned (.int .i64 (h % (sumI l).toNat : Nat)) ∧ w = w') := Lib.hid (fun w => by
      have := modulo_any h (sumI l).toNat hh n1 n2 w
      rwa [HN.out] at this)
    generalize h % (sumI l).toNat = r at HM HK H2 H3 HP
    generalize sumI l = sm at e1 HN HM n1 n2
    clear HS hw
    go_wp2_with (go_at_call 18; refine (HM.out _).mono ?_; rintro e w2 ⟨rfl, rfl⟩)
    have HI : Hid (∀ W : World, Below w1.heap.size w1 W → ∀ c, W.heap[c]? = some (.cells #[.int .i64 (r : Int)] 3 (0, 0)) →
        Calls Tryd.prog 20 #[.slice (some ⟨g, 0, none⟩) l.length l.length, .func (.func 21) #[] #[.pointer (some ⟨c, 0, none⟩)]] W fun e w' => e = .returned (.int .i64 k) ∧ W = w') := Lib.hid (by
      intro W hW c hc
      have hR := (HR.out.later hW).ints l.length
      rw [preL_length] at hR
      refine idx_any _ (preL l l.length) (by rw [preL_length]; exact hmax) c r k (by rw [preL_length]; exact hk1) ?_ ?_ W hR hc
      · rw [preL_get hk1, if_pos hk1]; exact H2.out
      · intro j hj hjl
        rw [preL_get (by omega), if_pos (by omega)]
        have := H3.out j hj; omega)
    refine (HI.out _ ((Below.refl _ _).alloc (Nat.le_refl _) _) _ (by exact heap_alloc_new _ _)).mono ?_
    rintro e w2 ⟨rfl, rfl⟩
    go_wp2_with fail
    go_ret2
    exact ⟨ret_two (by rw [HP.out.1, HK.out]) HP.out.2.symm, HB.out.alloc HB.out.size _⟩

set_option maxHeartbeats 800000 in
theorem refpick_any (v : Value) (l : List Int) (hmax : l.length ≤ 9223372036854775807) (h : Nat) (hh : h < 18446744073709551616) (w : World) (hv : Ints w v l) :
    Calls Tryd.prog 14 #[v, .int .u64 h] w fun e w' => e = .returned (.tuple #[.int .i64 (pkI l h), .int .i64 (pkE l)]) ∧ w = w' := by
  have HV := Lib.hid hv
  obtain ⟨p, cap, rfl⟩ := hv.slice
  clear hv
  cases hw : wOk l with
  | false =>
    have HP := Lib.hid (pk_no hw h)
    have hz := sumN_not hw
    have HC : Hid (∀ w, Ints w (.slice p l.length cap) l → Calls Tryd.prog 16 #[.slice p l.length cap] w fun e w' => e = .returned (.int .i64 0) ∧ w = w') := Lib.hid (fun w hw => by
      have := refsum_any _ l hmax w hw
      rwa [hz] at this)
    clear hz hw
    go_enter Tryd.func14, Tryd.ntmps14
    go_wp2_with (go_at_call 16; refine (HC.out _ HV.out).mono ?_; rintro e w2 ⟨rfl, rfl⟩)
    go_ret2
    exact ⟨ret_two HP.out.1.symm HP.out.2.symm, rfl⟩
  | true =>
    have HP := Lib.hid (pk_yes hw h)
    have h0 := wOk_iff.1 hw
    have HA := Lib.hid h0.2.1
    have HR := Lib.hid (rest_lt hw h)
    obtain ⟨n, hn⟩ : ∃ n : Nat, n = (sumI l).toNat := ⟨_, rfl⟩
    have hn2 : (n : Int) = sumI l := by omega
    have n1 : 1 ≤ n := by omega
    have n2 : n ≤ 1000000000 := by omega
    have HC : Hid (∀ w, Ints w (.slice p l.length cap) l → Calls Tryd.prog 16 #[.slice p l.length cap] w fun e w' => e = .returned (.int .i64 n) ∧ w = w') := Lib.hid (fun w hw' => by
      have := refsum_any _ l hmax w hw'
      rwa [sumN_eq hw, ← hn2] at this)
    rw [← hn] at HP HR
    have HS := Lib.hid hn2
    have n3 : ((n : Int) == 0) = false := by rw [beq_eq_false_iff_ne]; omega
    have n4 : h % n < n := Nat.mod_lt _ n1
    have HW : Hid (wrap64 ((h : Int) % (n : Int)) = ((h % n : Nat) : Int)) := Lib.hid (by rw [← Int.natCast_emod]; unfold wrap64; omega)
    clear hn hn2 hw h0
    go_enter Tryd.func14, Tryd.ntmps14
    go_wp2_with (go_at_call 16; refine (HC.out _ HV.out).mono ?_; rintro e w2 ⟨rfl, rfl⟩)
    go_loop [7, 8] (fun r i => ∃ (k : Nat) (x : Int), i = .int .i64 k ∧ r = .int .i64 x ∧ 0 ≤ x ∧ x ≤ 1000000000 ∧ x < sumI (l.drop k) ∧ k < l.length ∧ pickN l ((h % n : Nat) : Int) = k + pickN (l.drop k) x) (fun _ i => l.length - (intOf i).toNat)
    case atStart => 
      have hlen : 0 < l.length := by have := HR.out.2; omega
      exact ⟨0, ((h % n : Nat) : Int), rfl, congrArg (Value.int .i64) (Int.natCast_emod h n).symm, by omega, by omega, by rw [List.drop_zero]; exact HR.out.1, hlen, by rw [List.drop_zero]; simp⟩
    case round =>
      obtain ⟨k, x, rfl, rfl, x0, x1, hx, hk, hp⟩ := hrel
      have HX := Lib.hid hx
      have HQ := Lib.hid hp
      clear hx hp
      obtain ⟨b, off, cap', hp, e1, _⟩ := HV.out.at hk
      obtain rfl : p = some ⟨b, off, none⟩ := by cases hp; rfl
      clear hp
      have hy0 : 0 ≤ l[k] := allB_iff.1 HA.out _ (List.getElem_mem hk)
      by_cases hr : x < l[k]
      · have HE : Hid (pickN l ((h % n : Nat) : Int) = k) := Lib.hid (by rw [HQ.out, pickN_here hk hr]; rfl)
        generalize l[k] = y at e1 hr hy0
        go_wp2_with fail
        go_ret2
        exact ⟨ret_two (by rw [HP.out.1, HE.out]) HP.out.2.symm, rfl⟩
      · have hs : sumI (l.drop k) = l[k] + sumI (l.drop (k + 1)) := by rw [List.drop_eq_getElem_cons hk]; rfl
        have HX2 : Hid (x - l[k] < sumI (l.drop (k + 1))) := Lib.hid (by have := HX.out; omega)
        have hk2 : k + 1 < l.length := by
          rcases Nat.lt_or_ge (k + 1) l.length with h1 | h1
          · exact h1
          · have h2 := HX2.out
            rw [List.drop_of_length_le h1, sumI_nil] at h2; omega
        have HQ2 : Hid (pickN l ((h % n : Nat) : Int) = (k + 1 : Nat) + pickN (l.drop (k + 1)) (x - l[k])) := Lib.hid (by rw [HQ.out, pickN_drop hk (by omega)]; omega)
        clear hs HX HQ
        generalize l[k] = y at e1 hr hy0 HX2 HQ2
        go_wp2_with fail
        go_round
        case rel => exact ⟨k + 1, x - y, by go_num, rfl, by omega, by omega, HX2.out, hk2, HQ2.out⟩
        case measure => simp [intOf]; omega
end Go.Proofs.YtglnajjbbhokpaaDoor
