/-
  What the reference's Order hands back.
-/
import Derived.Test.YtglnajjbbhokpaaDoorSeedAlive
import Derived.Laws.AppendOwn
import Derived.Maps.AppendAt
namespace Go.Proofs.YtglnajjbbhokpaaDoor
open Go.RowKit
open SM
set_option linter.unusedVariables false
set_option linter.unusedSimpArgs false

theorem info_int : (Tryd.prog.info? 3).map (fun i => (i.zero, i.size, i.bytes)) = some (some (.int .i64 0), 1, 8) := by kernel_rfl
theorem info_parts {P : Program} {t : TypeId} {z : Value} {s b : Nat} (h : (P.info? t).map (fun i => (i.zero, i.size, i.bytes)) = some (some z, s, b)) : ∃ i, P.info? t = some i ∧ i.zero = some z ∧ i.size = s ∧ i.bytes = b := by
  cases hi : P.info? t with
  | none => rw [hi] at h; simp at h
  | some i => rw [hi] at h; simp at h; exact ⟨i, rfl, h.1, h.2.1, h.2.2⟩
def valsL (l : List Int) : List Value := l.map (Value.int .i64)
theorem row_of_owned {w : World} {base n : Nat} {v : Value} {l : List Int} (h : w.ownsRow base 3 1 v n (valsL l)) (hn : n ≠ 0) :
    ∃ g cap, v = .slice (some ⟨g, 0, none⟩) l.length cap ∧ base ≤ g ∧ RowI w g l := by
  obtain ⟨h1, h2⟩ := h
  have hl : l.length = n := by simpa [valsL] using h1
  rcases h2 with ⟨_, h0⟩ | ⟨g, cap, cur, hv, hb, hg, hc1, hc2, hsz, htake⟩
  · exact absurd h0 hn
  · refine ⟨g, cap, by rw [hl]; exact hv, hb, cur, hg, by rw [hsz, hl]; omega, fun i hi => ?_⟩
    have e : (cur.toList.take (n * 1))[i]? = (valsL l)[i]? := by rw [htake]
    rw [List.getElem?_take_of_lt (by omega)] at e
    rw [Array.getElem?_toList] at e
    rw [e]; simp [valsL, hi]
theorem grown_step {w wr w1 : World} {v : Value} {n : Nat} {xs : List Value} {e : TypeId} {tmp : Obj} (hB : Below w.heap.size w wr) (hown : wr.ownsRow w.heap.size e 1 v n xs) (hg : (wr.alloc tmp).grownBy w1 v.ownBlock) : Below w.heap.size w w1 :=
  (hB.alloc hB.size tmp).grown hg (by simp; have := hB.size; omega) fun j ej => (hown.lt j ej).1
theorem valsL_snoc (k : Nat) : valsL (castL (List.range (k + 1))) = valsL (castL (List.range k)) ++ [.int .i64 (k : Int)] := by
  simp [valsL, castL, List.range_succ]
theorem valsL_len (k : Nat) : (castL (List.range k)).length = k := by simp [castL]
theorem refof_ord (s : Int) (x : ByteArray) (hx : x.size ≤ 1000) (i : Nat) (h0 : 0 < i) (h1 : i < 1000) :
    ∃ d t : ByteArray, d.size ≤ 100 ∧ (∀ w, Calls Tryd.prog 26 #[.int .i64 (i : Int)] w fun e w' => e = .returned (.string d) ∧ w = w') ∧
      (∀ w, Calls Tryd.prog 25 #[.int .i64 s, .string (x ++ ⟨#[47]⟩ ++ d)] w fun e w' => e = .returned (.int .u64 (ordF s (lA x) i)) ∧ w = w') := by
  have h2 := Lib.itoa_length_le (i : Int) (by omega) (by omega)
  rw [Lib.itoa_nonneg] at h2
  have hd : (bA (Lib.decDigits i)).size ≤ 100 := by rw [← lA_len, lA_bA]; omega
  refine ⟨bA (Lib.decDigits i), x, hd, fun w => decimal_any i h0 h1 w, fun w => ?_⟩
  have e : lA (x ++ ⟨#[47]⟩ ++ bA (Lib.decDigits i)) = lA x ++ 47 :: Lib.decDigits i := by
    rw [lA_append, lA_append, lA_bA]
    show lA x ++ [47] ++ _ = _
    simp
  have hs : (x ++ ⟨#[47]⟩ ++ bA (Lib.decDigits i)).size ≤ 9223372036854775807 := by
    rw [ByteArray.size_append, ByteArray.size_append]
    have : (⟨#[47]⟩ : ByteArray).size = 1 := rfl
    omega
  have := refof_any s (x ++ ⟨#[47]⟩ ++ bA (Lib.decDigits i)) hs w
  rw [e] at this
  exact this
theorem reforder_no (s : Int) (x : ByteArray) (n : Int) (hn : oOk n = false) (w : World) :
    Calls Tryd.prog 15 #[.int .i64 s, .string x, .int .i64 n] w (OrdEnd s (lA x) n w) := by
  have HE : Hid (OrdEnd s (lA x) n w (.returned (.tuple #[.slice none 0 0, .int .i64 2])) w) := Lib.hid (.inl ⟨hn, rfl, Below.refl _ _⟩)
  by_cases h1 : n < 0
  · clear hn
    go_enter Tryd.func15, Tryd.ntmps15
    go_wp2_with fail
    go_ret2
    exact HE.out
  · have h2 : 200 < n := by
      simp [oOk] at hn; omega
    clear hn
    go_enter Tryd.func15, Tryd.ntmps15
    go_wp2_with fail
    go_ret2
    exact HE.out
set_option maxHeartbeats 1600000 in
theorem reforder_zero (s : Int) (x : ByteArray) (w : World) :
    Calls Tryd.prog 15 #[.int .i64 s, .string x, .int .i64 0] w (OrdEnd s (lA x) 0 w) := by
  have HE : Hid (OrdEnd s (lA x) 0 w (.returned (.tuple #[.slice none 0 0, .int .i64 0])) w) := Lib.hid (.inr ⟨rfl, none, 0, rfl, Below.refl _ _, by
    show Ints w (.slice none 0 0) (castL (ordN _ 0))
    rw [ordN_none]; exact .none _ _⟩)
  go_enter Tryd.func15, Tryd.ntmps15
  go_wp2_with fail
  go_loop [8, 9] (fun v i => v = .slice none 0 0 ∧ i = .int .i64 0) (fun _ _ => 0)
  case atStart => exact ⟨rfl, rfl⟩
  case round =>
    obtain ⟨rfl, rfl⟩ := hrel
    go_wp2_with fail
    go_loop [10] (fun i => i = .int .i64 (-1)) (fun _ => 0)
    case atStart => rfl
    case round =>
      obtain rfl := hrel
      go_wp2_with fail
      go_ret2
      exact HE.out
set_option maxHeartbeats 1600000 in
theorem reforder_some (s : Int) (x : ByteArray) (hx : x.size ≤ 1000) (n : Nat) (hn : n ≤ 200) (hpos : 0 < n) (w : World) :
    Calls Tryd.prog 15 #[.int .i64 s, .string x, .int .i64 (n : Int)] w (OrdEnd s (lA x) n w) := by
  obtain ⟨i0, hi, hz0, hz1, hz2⟩ := info_parts info_int
  have HM : Hid (maxLen = 9223372036854775807) := Lib.hid rfl
  have HL : Hid (∀ i, ordF s (lA x) i < 18446744073709551616) := Lib.hid (fun i => ofN_lt _ _)
  have HE : Hid (∀ w' g cap, Below w.heap.size w w' → RowI w' g (castL (ordN (ordF s (lA x)) n)) → OrdEnd s (lA x) n w (.returned (.tuple #[.slice (some ⟨g, 0, none⟩) n cap, .int .i64 0])) w') :=
    Lib.hid (fun w' g cap hb hr => .inr ⟨by simp [oOk]; omega, _, _, rfl, hb, by
      have := hr.ints cap
      rw [castL_length, ordN_length] at this
      exact this⟩)
  have n0 : ¬ (n : Int) < 0 := by omega
  have n1 : ¬ 200 < (n : Int) := by omega
  go_enter Tryd.func15, Tryd.ntmps15
  go_wp2_with fail
  go_loopw [8, 9] (fun v i wr => ∃ k : Nat, k ≤ n ∧ i = .int .i64 k ∧ wr.ownsRow w.heap.size 3 1 v k (valsL (castL (List.range k))) ∧ Below w.heap.size w wr) (fun _ i _ => n - (intOf i).toNat)
  case atStart => exact ⟨0, Nat.zero_le _, rfl, World.ownsRow_nil _ _ _ _, Below.refl _ _⟩
  case round =>
    obtain ⟨k, hk, rfl, hown, hB⟩ := hrel
    have HB := Lib.hid hB
    clear hB
    by_cases hlt : k < n
    · have hsz := HB.out.size
      go_wp2_with (at_builtin; refine wpList_append_own _ rfl _ _ 27 rfl w.heap.size 3 i0 (.int .i64 0) 1 8 Tryd.underlying27 hi hz0 hz1 hz2 rfl (by decide) _ _ _ rfl (hown.alloc _) ⟨wr.heap.size, 0, none⟩ 1 1 [.int .i64 (k : Int)] rfl rfl (cell_one_new _ _ _) (by simp [Value.oneCell']) (by rw [HM.out]; omega) (by omega) (by simp; omega) ?_; intro v' w1 hown' hgrow _)
      go_roundw
      case rel => exact ⟨k + 1, by omega, by go_num, by rw [valsL_snoc]; exact hown', grown_step HB.out hown hgrow⟩
      case measure => simp [intOf]; omega
    · obtain rfl : n = k := by omega
      obtain ⟨g, cap, hv, hg, hR⟩ := row_of_owned hown (by omega)
      rw [castL_length, List.length_range] at hv
      subst hv
      have hO := OrdAt.start (f := ordF s (lA x)) HB.out hR
      have HO := Lib.hid hO
      clear hown hi hz0 hz1 hz2 hR hO HB
      go_wp2_with fail
      go_loopw [10] (fun i wr => ∃ (j : Nat) (l : List Nat), i = .int .i64 j ∧ OrdAt w g (ordF s (lA x)) n j l wr) (fun i _ => (intOf i).toNat)
      case atStart => exact ⟨n - 1, List.range n, by congr 1; omega, HO.out⟩
      case round =>
        obtain ⟨j, l, rfl, hO⟩ := hrel
        have HO := Lib.hid hO
        have l1 := hO.row.lt
        have hlen := hO.len
        have hfew := hO.few
        clear hO
        by_cases hj : 0 < j
        · have hjn : j < l.length := by omega
          have hj2 : (0 : Int) < (j : Int) := by omega
          obtain ⟨d, _, hds, hdec, hof⟩ := refof_ord s x hx j hj (by omega)
          have HD := Lib.hid hdec
          have HF := Lib.hid hof
          have hm : ordF s (lA x) j % (j + 1) < j + 1 := Nat.mod_lt _ (by omega)
          have hlt := HL.out j
          have HRun : Hid (runO (ordF s (lA x)) (j - 1) (swapL l j (ordF s (lA x) j % (j + 1))) = ordN (ordF s (lA x)) n) := Lib.hid (HO.out.run2 hj)
          obtain ⟨h, hh⟩ : ∃ h, ordF s (lA x) j = h := ⟨_, rfl⟩
          rw [hh] at HF hm HRun hlt
          have hW : wrap64 ((h : Int) % ((j : Int) + 1)) = ((h % (j + 1) : Nat) : Int) := by
            rw [show ((j : Int) + 1) = ((j + 1 : Nat) : Int) by omega, ← Int.natCast_emod]; unfold wrap64; omega
          obtain ⟨m, hmm⟩ : ∃ m, h % (j + 1) = m := ⟨_, rfl⟩
          rw [hmm] at hm HRun hW
          clear hh hmm hdec hof
          have hml : m < l.length := by omega
          have q1 := HO.out.row.cell (i := j) (by rw [castL_length]; exact hjn)
          have f1 := HO.out.row.free j
          have BB : Hid (∀ x y, Below w.heap.size w ((wr.setCell ⟨g, j, none⟩ x).setCell ⟨g, m, none⟩ y)) := Lib.hid (fun x y => (HO.out.below.setCell hg _).setCell hg _)
          have HS : Hid (∀ (p q : Nat) (hp : p = l[m]) (hq : q = l[j]), OrdAt w g (ordF s (lA x)) n (j - 1) (swapL l j m) ((wr.setCell ⟨g, j, none⟩ (.int .i64 (p : Int))).setCell ⟨g, m, none⟩ (.int .i64 (q : Int)))) := Lib.hid (by
            intro p q hp hq
            refine ⟨by rw [swapL_length]; exact hlen, by omega, HRun.out, BB.out _ _, ?_⟩
            rw [hp, hq]; exact HO.out.row.swap hjn hml)
          rw [castL_get hjn] at q1
          have q2 := HO.out.row.cell (i := m) (by rw [castL_length]; exact hml)
          rw [castL_get hml] at q2
          have f2 := HO.out.row.free m
          have HS2 := Lib.hid (HS.out l[m] l[j] rfl rfl)
          obtain ⟨a, ha⟩ : ∃ a, l[j] = a := ⟨_, rfl⟩
          obtain ⟨b, hb⟩ : ∃ b, l[m] = b := ⟨_, rfl⟩
          rw [ha, hb] at HS2
          rw [ha] at q1
          rw [hb] at q2
          obtain ⟨v3, hy3⟩ := cell_still (w := wr) (p := ⟨g, j, none⟩) (x := .int .i64 (b : Int)) (q := ⟨g, m, none⟩) q2
          clear HS BB ha hb
          go_wp2_with (first | (go_at_call 26; refine (HD.out _).mono ?_; rintro e w2 ⟨rfl, rfl⟩) | (go_at_call 25; refine (HF.out _).mono ?_; rintro e w2 ⟨rfl, rfl⟩))
          go_region
          go_wp2_with fail
          go_roundw
          case rel => exact ⟨j - 1, swapL l j m, by congr 1; omega, HS2.out.drew⟩
          case measure => simp [intOf]; omega
        · obtain rfl : j = 0 := by omega
          have HE2 := Lib.hid (HE.out _ _ cap HO.out.below (by have := HO.out.row; rwa [HO.out.fin] at this))
          go_wp2_with fail
          go_ret2
          exact HE2.out
theorem reforder_any (s : Int) (x : ByteArray) (hx : x.size ≤ 1000) (n : Int) (w : World) :
    Calls Tryd.prog 15 #[.int .i64 s, .string x, .int .i64 n] w (OrdEnd s (lA x) n w) := by
  cases hn : oOk n with
  | false => exact reforder_no s x n hn w
  | true =>
    have h : 0 ≤ n ∧ n ≤ 200 := by simpa [oOk] using hn
    obtain ⟨m, rfl⟩ : ∃ m : Nat, n = (m : Int) := ⟨n.toNat, by omega⟩
    rcases Nat.eq_zero_or_pos m with h0 | h0
    · subst h0; exact reforder_zero s x w
    · exact reforder_some s x hx m (by omega) h0 w
end Go.Proofs.YtglnajjbbhokpaaDoor
