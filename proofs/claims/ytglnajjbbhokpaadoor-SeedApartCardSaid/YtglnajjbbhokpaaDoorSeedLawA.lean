/-
  The walk of SeedApart.
-/
import Derived.Test.YtglnajjbbhokpaaDoorSeedAlive
import Derived.Laws.IdiomStrings
import Derived.Lib.QuietBelow
namespace Go.Proofs.YtglnajjbbhokpaaDoor
open Go.RowKit
open SM
set_option linter.unusedVariables false
set_option linter.unusedSimpArgs false

theorem eq_int (a b : Nat) : ((a : Int) == (b : Int)) = decide (a = b) := by rw [Bool.eq_iff_iff]; simp; omega
theorem apart_long (s t : Int) (x : ByteArray) (k b : Int) (hx : 500 < x.size) (w : World) (ht : Tab w) :
    Calls Tryd.prog 6 #[.int .i64 s, .int .i64 t, .string x, .int .i64 k, .int .u8 b] w fun e w' => e = .returned (.bool true) ∧ Below w.heap.size w w' := by
  have HA := Lib.hid (alive_any w ht)
  have h1 : (500 : Int) < (x.size : Int) := by omega
  clear ht
  go_enter Tryd.func6, Tryd.ntmps6
  go_wp2_with fail
  refine HA.out.mono ?_
  rintro e w1 ⟨rfl, hb⟩
  have HB := Lib.hid hb
  clear hb
  go_wp2_with fail
  go_ret
  exact ⟨rfl, HB.out⟩
/-- Where the place lies outside of the path. -/
theorem apart_out (s t : Int) (hs : -9223372036854775808 ≤ s ∧ s ≤ 9223372036854775807) (ht : -9223372036854775808 ≤ t ∧ t ≤ 9223372036854775807) (x : ByteArray) (k b : Int) (hx : x.size ≤ 500) (hk : k < 0 ∨ (0 ≤ k ∧ (x.size : Int) ≤ k)) (w : World) (hT : Tab w) :
    Calls Tryd.prog 6 #[.int .i64 s, .int .i64 t, .string x, .int .i64 k, .int .u8 b] w fun e w' => e = .returned (.bool true) ∧ Below w.heap.size w w' := by
  have HA := Lib.hid (alive_any w hT)
  obtain ⟨u, hu⟩ : ∃ u, ofN s (lA x) = u := ⟨_, rfl⟩
  obtain ⟨v, hv⟩ : ∃ v, ofN t (lA x) = v := ⟨_, rfl⟩
  have H1 : Hid (∀ w, Calls Tryd.prog 17 #[.int .i64 s, .string x] w fun e w' => e = .returned (.int .u64 u) ∧ w = w') := Lib.hid (fun w => by rw [← hu]; exact of_any s x (by omega) w)
  have H2 : Hid (∀ w, Calls Tryd.prog 17 #[.int .i64 t, .string x] w fun e w' => e = .returned (.int .u64 v) ∧ w = w') := Lib.hid (fun w => by rw [← hv]; exact of_any t x (by omega) w)
  obtain ⟨q, hq⟩ : ∃ q : Bool, (s == t) = q := ⟨_, rfl⟩
  have huv : ((u : Int) == (v : Int)) = q := by
    rw [eq_int, ← hq, ← hu, ← hv, Bool.eq_iff_iff]; simp only [decide_eq_true_eq, beq_iff_eq]
    exact ofN_seed hs ht _
  have h1 : ¬ (500 : Int) < (x.size : Int) := by omega
  clear hT hu hv hs ht
  have hqq : (q != q) = false := by cases q <;> rfl
  rcases hk with hk | ⟨hk, hk2⟩
  · go_enter Tryd.func6, Tryd.ntmps6
    go_wp2_with fail
    refine (H1.out _).mono ?_
    rintro e w1 ⟨rfl, rfl⟩
    go_wp2_with fail
    refine (H2.out _).mono ?_
    rintro e w1 ⟨rfl, rfl⟩
    go_wp2_with fail
    refine HA.out.mono ?_
    rintro e w1 ⟨rfl, hb⟩
    have HB := Lib.hid hb
    clear hb
    go_wp2_with fail
    go_ret
    exact ⟨rfl, HB.out⟩
  · go_enter Tryd.func6, Tryd.ntmps6
    go_wp2_with fail
    refine (H1.out _).mono ?_
    rintro e w1 ⟨rfl, rfl⟩
    go_wp2_with fail
    refine (H2.out _).mono ?_
    rintro e w1 ⟨rfl, rfl⟩
    go_wp2_with fail
    refine HA.out.mono ?_
    rintro e w1 ⟨rfl, hb⟩
    have HB := Lib.hid hb
    clear hb
    go_wp2_with fail
    go_ret
    exact ⟨rfl, HB.out⟩
theorem byte_string (b : UInt8) (w : World) : (convert 40 9 (.slice (some ⟨w.heap.size, 0, none⟩) 1 1)).run Tryd.prog (w.alloc (.cells #[.int .u8 (b.toNat : Int)] 5)).drew =
    .ok (.string ⟨#[b]⟩) (w.alloc (.cells #[.int .u8 (b.toNat : Int)] 5)).drew := by
  have := run_convert_bytes_back (P := Tryd.prog) (w.alloc (.cells #[.int .u8 (b.toNat : Int)] 5)).drew 40 9 5 ⟨w.heap.size, 0, none⟩ 1 [b] Tryd.underlying40 Tryd.underlying5 Tryd.underlying9 (by
    intro j hj
    obtain rfl : j = 0 := by simpa using hj
    have e := heap_drew_old (heap_alloc_new w (.cells #[.int .u8 (b.toNat : Int)] 5))
    have c := cell_of_one e
    rw [show (⟨w.heap.size, 0, none⟩ : Addr).add 0 = ⟨w.heap.size, 0, none⟩ by simp [Addr.add], c]; rfl)
  exact this
theorem run_front (s : ByteArray) (j : Int) (b : Nat) (hb : j = b) (hbs : b ≤ s.size) (wx : World) :
    (Instr.slice 9 (.string s) none (some (.int .i64 j)) none).run Tryd.prog wx = .ok (.string (s.extract 0 b)) wx := by
  have := run_slice_string_h (P := Tryd.prog) (w := wx) (t := 9) (s := s) (ht := Tryd.underlying9) .i64 j (by omega) (by omega)
  rw [this]; subst hb; simp
theorem run_back (s : ByteArray) (i : Int) (a : Nat) (ha : i = a) (has : a ≤ s.size) (wx : World) :
    (Instr.slice 9 (.string s) (some (.int .i64 i)) none none).run Tryd.prog wx = .ok (.string (s.extract a s.size)) wx := by
  have := run_slice_string_l (P := Tryd.prog) (w := wx) (t := 9) (s := s) (ht := Tryd.underlying9) .i64 i (by omega) (by omega)
  rw [this]; subst ha; simp
theorem lA_front (x : ByteArray) (k : Nat) (hk : k < x.size) (b : UInt8) : lA (x.extract 0 k ++ ⟨#[b]⟩ ++ x.extract (k + 1) x.size) = (lA x).take k ++ b :: (lA x).drop (k + 1) := by
  rw [lA_append, lA_append]
  have e1 : lA (x.extract 0 k) = (lA x).take k := by
    have h := Lib.extract_data x 0 k
    rw [List.drop_zero, Nat.sub_zero] at h
    exact h
  have e2 : lA (x.extract (k + 1) x.size) = (lA x).drop (k + 1) := by
    have := Lib.extract_data x (k + 1) x.size
    have h2 : ((lA x).drop (k + 1)).take (x.size - (k + 1)) = (lA x).drop (k + 1) := by
      rw [List.take_of_length_le]
      rw [List.length_drop, lA_len]; omega
    rw [← h2]; exact this
  rw [e1, e2]
  show _ ++ [b] ++ _ = _
  simp
theorem lA_split (x : ByteArray) (k : Nat) (hk : k < x.size) : lA x = (lA x).take k ++ x[k] :: (lA x).drop (k + 1) := by
  have hl : k < (lA x).length := by rw [lA_len]; exact hk
  rw [← lA_get x k hk hl, ← List.drop_eq_getElem_cons hl, List.take_append_drop]
set_option maxHeartbeats 1600000 in
theorem apart_in (s t : Int) (hs : -9223372036854775808 ≤ s ∧ s ≤ 9223372036854775807) (ht : -9223372036854775808 ≤ t ∧ t ≤ 9223372036854775807) (x : ByteArray) (k : Nat) (b : UInt8) (hx : x.size ≤ 500) (hk : k < x.size) (w : World) (hT : Tab w) :
    Calls Tryd.prog 6 #[.int .i64 s, .int .i64 t, .string x, .int .i64 (k : Int), .int .u8 (b.toNat : Int)] w fun e w' => e = .returned (.bool true) ∧ Below w.heap.size w w' := by
  have HA := Lib.hid (fun w ht => alive_any w ht)
  have HT := Lib.hid hT
  obtain ⟨u, hu⟩ : ∃ u, ofN s (lA x) = u := ⟨_, rfl⟩
  obtain ⟨v, hv⟩ : ∃ v, ofN t (lA x) = v := ⟨_, rfl⟩
  have H1 : Hid (∀ w, Calls Tryd.prog 17 #[.int .i64 s, .string x] w fun e w' => e = .returned (.int .u64 u) ∧ w = w') := Lib.hid (fun w => by rw [← hu]; exact of_any s x (by omega) w)
  have H2 : Hid (∀ w, Calls Tryd.prog 17 #[.int .i64 t, .string x] w fun e w' => e = .returned (.int .u64 v) ∧ w = w') := Lib.hid (fun w => by rw [← hv]; exact of_any t x (by omega) w)
  obtain ⟨q, hq⟩ : ∃ q : Bool, (s == t) = q := ⟨_, rfl⟩
  have huv : ((u : Int) == (v : Int)) = q := by
    rw [eq_int, ← hq, ← hu, ← hv, Bool.eq_iff_iff]; simp only [decide_eq_true_eq, beq_iff_eq]
    exact ofN_seed hs ht _
  have hqq : (q != q) = false := by cases q <;> rfl
  obtain ⟨xf, hxf, rf⟩ : ∃ y : ByteArray, y = x.extract 0 k ∧ ∀ wx, (Instr.slice 9 (.string x) none (some (.int .i64 (k : Int))) none).run Tryd.prog wx = .ok (.string y) wx := ⟨_, rfl, fun wx => run_front x k k rfl (by omega) wx⟩
  obtain ⟨xb, hxb, rb⟩ : ∃ y : ByteArray, y = x.extract (k + 1) x.size ∧ ∀ wx, (Instr.slice 9 (.string x) (some (.int .i64 ((k : Int) + 1))) none none).run Tryd.prog wx = .ok (.string y) wx := ⟨_, rfl, fun wx => run_back x _ (k + 1) (by omega) (by omega) wx⟩
  obtain ⟨xm, hxm, rm⟩ : ∃ y : ByteArray, y = ⟨#[b]⟩ ∧ ∀ w : World, (convert 40 9 (.slice (some ⟨w.heap.size, 0, none⟩) 1 1)).run Tryd.prog (w.alloc (.cells #[.int .u8 (b.toNat : Int)] 5)).drew = .ok (.string y) (w.alloc (.cells #[.int .u8 (b.toNat : Int)] 5)).drew := ⟨_, rfl, fun w => byte_string b w⟩
  have z1 : xf.size ≤ 500 := by rw [hxf, ByteArray.size_extract]; omega
  have z2 : xb.size ≤ 500 := by rw [hxb, ByteArray.size_extract]; omega
  have z3 : xm.size = 1 := by rw [hxm]; rfl
  have hlast : lA (xf ++ xm ++ xb) = (lA x).take k ++ b :: (lA x).drop (k + 1) := by rw [hxf, hxm, hxb]; exact lA_front x k hk b
  have z4 : (xf ++ xm ++ xb).size ≤ 1100 := by rw [ByteArray.size_append, ByteArray.size_append]; omega
  obtain ⟨r, hr⟩ : ∃ r, ofN s (lA (xf ++ xm ++ xb)) = r := ⟨_, rfl⟩
  have H3 : Hid (∀ w, Calls Tryd.prog 17 #[.int .i64 s, .string (xf ++ xm ++ xb)] w fun e w' => e = .returned (.int .u64 r) ∧ w = w') := Lib.hid (fun w => by rw [← hr]; exact of_any s _ (by omega) w)
  obtain ⟨p, hp⟩ : ∃ p : Bool, ((x[k].toNat : Int) == (b.toNat : Int)) = p := ⟨_, rfl⟩
  have hur : ((u : Int) == (r : Int)) = p := by
    have h1 := lA_split x k hk
    rw [eq_int, ← hp, eq_int, ← hu, ← hr, hlast, Bool.eq_iff_iff]
    simp only [decide_eq_true_eq]
    rw [UInt8.toNat_inj]
    rw [show ofN s (lA x) = ofN s ((lA x).take k ++ x[k] :: (lA x).drop (k + 1)) from congrArg (ofN s) h1]
    exact ofN_byte s _ _ _ _
  have hpp : (p == p) = true := by cases p <;> rfl
  have h1 : ¬ (500 : Int) < (x.size : Int) := by omega
  have k1 : (k : Int) < (x.size : Int) := by omega
  clear hT hu hv hs ht hxf hxb hxm hlast hr
  go_enter Tryd.func6, Tryd.ntmps6
  go_wp2_with fail
  refine (H1.out _).mono ?_
  rintro e w1 ⟨rfl, rfl⟩
  go_wp2_with fail
  refine (H2.out _).mono ?_
  rintro e w1 ⟨rfl, rfl⟩
  go_wp2_with fail
  go_region
  go_wp2_with fail
  obtain ⟨W0, hW⟩ : ∃ W0, W0 = (w.alloc (.cells #[.int .u8 (b.toNat : Int)] 5)).drew := ⟨_, rfl⟩
  have B0 : Hid (Below w.heap.size w W0) := Lib.hid (by rw [hW]; exact below_drewN ((Below.refl _ _).alloc (Nat.le_refl _) _) 1)
  have HT0 := Lib.hid (HT.out.later (B0.out.mono (Nat.le_refl _)))
  have C1 : Hid (∀ w : World, Calls Tryd.prog 17 #[.int .i64 s, .string x] w fun e w' => e = .returned (.int .u64 u) ∧ Below w.heap.size w w') := Lib.hid (fun w => (H1.out w).mono (by rintro e w' ⟨he, rfl⟩; exact ⟨he, Below.refl _ _⟩))
  have C3 : Hid (∀ w : World, Calls Tryd.prog 17 #[.int .i64 s, .string (xf ++ xm ++ xb)] w fun e w' => e = .returned (.int .u64 r) ∧ Below w.heap.size w w') := Lib.hid (fun w => (H3.out w).mono (by rintro e w' ⟨he, rfl⟩; exact ⟨he, Below.refl _ _⟩))
  have C5 : Hid (∀ (d : Nat) (os : Array Obj), Calls Tryd.prog 13 #[] («Sort».grow (redrawn W0 d) os) fun e w' => e = .returned (.bool true) ∧ Below («Sort».grow (redrawn W0 d) os).heap.size («Sort».grow (redrawn W0 d) os) w') := Lib.hid (fun d os => HA.out _ (HT0.out.later (below_regrown W0 d os)))
  rw [← hW]
  clear hW H1 H2 H3 HA HT rf rb rm
  refine wp_region_quiet_below (by kernel_rfl) (by kernel_rfl) ?_
  repeat (any_goals (first | go_big_quiet_step (first | (go_at_call 13; exact Calls.regrown_of (C5.out _ _)) | (go_at_call 17; with_reducible (exact Calls.regrown_of (C1.out _))) | (go_at_call 17; with_reducible (exact Calls.regrown_of (C3.out _)))) | quiet_step (first | (go_at_call 13; exact Calls.regrown_of (C5.out _ _)) | (go_at_call 17; with_reducible (exact Calls.regrown_of (C1.out _))) | (go_at_call 17; with_reducible (exact Calls.regrown_of (C3.out _))))))
  refine wpQuiet_nil ?_
  intro _ hw'
  obtain ⟨⟨dq, osq⟩, hw''⟩ := hw'
  subst hw''
  go_wp2_with fail
  go_ret
  exact ⟨rfl, B0.out.trans ((below_regrown _ _ _).mono B0.out.size)⟩
theorem apart_walk (s t : Int) (hs : -9223372036854775808 ≤ s ∧ s ≤ 9223372036854775807) (ht : -9223372036854775808 ≤ t ∧ t ≤ 9223372036854775807) (x : ByteArray) (k b : Int) (hb : 0 ≤ b ∧ b ≤ 255) (w : World) (hT : Tab w) :
    Calls Tryd.prog 6 #[.int .i64 s, .int .i64 t, .string x, .int .i64 k, .int .u8 b] w fun e w' => e = .returned (.bool true) ∧ Below w.heap.size w w' := by
  by_cases hx : 500 < x.size
  · exact apart_long s t x k b hx w hT
  by_cases h0 : k < 0
  · exact apart_out s t hs ht x k b (by omega) (.inl h0) w hT
  by_cases h1 : (x.size : Int) ≤ k
  · exact apart_out s t hs ht x k b (by omega) (.inr ⟨by omega, h1⟩) w hT
  obtain ⟨m, rfl⟩ : ∃ m : Nat, k = (m : Int) := ⟨k.toNat, by omega⟩
  obtain ⟨c, rfl⟩ : ∃ c : UInt8, b = (c.toNat : Int) := ⟨UInt8.ofNat b.toNat, by
    have : (UInt8.ofNat b.toNat).toNat = b.toNat := by
      rw [UInt8.toNat_ofNat']; omega
    omega⟩
  exact apart_in s t hs ht x m c (by omega) (by omega) w hT
end Go.Proofs.YtglnajjbbhokpaaDoor
