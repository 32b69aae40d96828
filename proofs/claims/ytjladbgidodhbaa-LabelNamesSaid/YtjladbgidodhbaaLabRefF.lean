/-
  What the reference's Same, Steps, Parent and Last hand back.
-/
import Derived.Test.YtjladbgidodhbaaLabRefE
namespace Go.Proofs.Ytjladbgidodhbaa
open Go.RowKit
open LM
set_option linter.unusedVariables false
set_option linter.unusedSimpArgs false

/-- The slice at a, with room for cap, reads as xs. -/
def Sl (w : World) (a : Option Addr) (cap : Nat) (xs : List Bs) : Prop := (a = none ∧ cap = 0 ∧ xs = []) ∨ ∃ g, a = some ⟨g, 0, none⟩ ∧ Row w g cap xs
theorem Sl.later {w w1 : World} {a : Option Addr} {cap : Nat} {xs : List Bs} (h : Sl w a cap xs) (hb : Below w.heap.size w w1) : Sl w1 a cap xs := by
  rcases h with h | ⟨g, h1, h2⟩
  · exact .inl h
  · exact .inr ⟨g, h1, h2.later hb⟩
theorem Sl.nil (w : World) : Sl w none 0 [] := .inl ⟨rfl, rfl, rfl⟩
theorem Sl.row {w : World} {a : Option Addr} {cap : Nat} {xs : List Bs} (h : Sl w a cap xs) (hx : xs ≠ []) : ∃ g, a = some ⟨g, 0, none⟩ ∧ Row w g cap xs := by
  rcases h with h | h
  · exact absurd h.2.2 hx
  · exact h
theorem Sl.le {w : World} {a : Option Addr} {cap : Nat} {xs : List Bs} (h : Sl w a cap xs) : xs.length ≤ cap := by
  rcases h with ⟨_, rfl, rfl⟩ | ⟨g, _, h2⟩
  · exact Nat.le_refl _
  · exact h2.le
theorem cut_sl (s : ByteArray) (hs : s.size ≤ 100000) (xs : List Bs) (n : Nat) (hx : cutL (lA s) = xs) (hn : xs.length = n) (w : World) :
    Calls Try.prog 36 #[.string s] w fun e w' => (∃ a cap, e = .returned (.slice a n cap) ∧ Sl w' a cap xs) ∧ Below w.heap.size w w' := by
  by_cases h0 : 0 < s.size
  · refine (cut_row s hs h0 xs n hx hn w).mono fun e w' h => ?_
    obtain ⟨g, cap, he, hR, hb⟩ := h
    exact ⟨⟨_, cap, he, .inr ⟨g, rfl, hR⟩⟩, hb⟩
  · obtain rfl := str_nil h0
    obtain rfl : xs = [] := hx.symm
    obtain rfl : n = 0 := hn.symm
    refine (refcut_nil w).mono fun e w' h => ?_
    obtain ⟨he, rfl⟩ := h
    exact ⟨⟨none, 0, he, Sl.nil _⟩, Below.refl _ _⟩
theorem path_sl (a : Option Addr) (cap n : Nat) (xs : List Bs) (hn : xs.length = n) (hl : (pathL xs).length ≤ 100000) (hn2 : n ≤ 200000) (w : World) (hS : Sl w a cap xs) :
    Calls Try.prog 39 #[.slice a n cap] w fun e w' => e = .returned (.string (bA (pathL xs))) ∧ w = w' := by
  rcases hS with ⟨rfl, rfl, rfl⟩ | ⟨g, rfl, hR⟩
  · obtain rfl : n = 0 := hn.symm
    exact refpath_nil w
  · exact refpath_row g cap n xs hn hl hn2 w hR
theorem shared_nil1 (b : Option Addr) (m cap : Nat) (w : World) : Calls Try.prog 47 #[.slice none 0 0, .slice b m cap] w fun e w' => e = .returned (.int .i64 0) ∧ Below w.heap.size w w' := by
  go_enter Try.func47, Try.ntmps47
  go_wp2_with fail
  go_loopw [5] (fun i wr => i = .int .i64 0 ∧ wr = w) (fun i _ => 0)
  case atStart => exact ⟨rfl, rfl⟩
  case round =>
    obtain ⟨rfl, rfl⟩ := hrel
    go_wp2_with fail
    go_quiet (fail)
    go_wp2_with fail
    go_ret
    exact ⟨rfl, below_drewN (Below.refl _ _) _⟩
theorem shared_nil2 (g n cap : Nat) (hn : n ≤ 200000) (w : World) : Calls Try.prog 47 #[.slice (some ⟨g, 0, none⟩) n cap, .slice none 0 0] w fun e w' => e = .returned (.int .i64 0) ∧ Below w.heap.size w w' := by
  go_enter Try.func47, Try.ntmps47
  go_wp2_with fail
  go_loopw [5] (fun i wr => i = .int .i64 0 ∧ wr = w) (fun i _ => 0)
  case atStart => exact ⟨rfl, rfl⟩
  case round =>
    obtain ⟨rfl, rfl⟩ := hrel
    by_cases h : (0 : Int) < n
    · have h2 : 0 < n := by omega
      go_wp2_with fail
      go_quiet (fail)
      go_wp2_with fail
      go_ret
      exact ⟨rfl, below_drewN (Below.refl _ _) _⟩
    · have h2 : ¬ 0 < n := by omega
      go_wp2_with fail
      go_quiet (fail)
      go_wp2_with fail
      go_ret
      exact ⟨rfl, below_drewN (Below.refl _ _) _⟩
theorem shared_nil {xs : List Bs} : sharedL [] xs = 0 ∧ sharedL xs [] = 0 := by cases xs <;> simp [sharedL]
theorem shared_sl (a b : Option Addr) (cap n cap' m : Nat) (xs ys : List Bs) (hn : xs.length = n) (hm : ys.length = m) (hn2 : n ≤ 200000) (hm2 : m ≤ 200000) (c : Nat) (hc : sharedL xs ys = c) (w : World) (hR : Sl w a cap xs) (hS : Sl w b cap' ys) :
    Calls Try.prog 47 #[.slice a n cap, .slice b m cap'] w fun e w' => e = .returned (.int .i64 c) ∧ Below w.heap.size w w' := by
  subst hc
  rcases hR with ⟨rfl, rfl, rfl⟩ | ⟨g, rfl, hR⟩
  · obtain rfl : n = 0 := hn.symm
    rw [shared_nil.1]; exact shared_nil1 b m cap' w
  · rcases hS with ⟨rfl, rfl, rfl⟩ | ⟨h', rfl, hS⟩
    · obtain rfl : m = 0 := hm.symm
      rw [shared_nil.2]; exact shared_nil2 g n cap hn2 w
    · exact shared_row g cap n h' cap' m xs ys hn hm hn2 hm2 w hR hS

/-! ### Same, at two lists that are the same -/
set_option maxHeartbeats 1000000 in
theorem same_row (g cap n h' cap' : Nat) (xs : List Bs) (hn : xs.length = n) (hn2 : n ≤ 200000) (w : World) (hR : Row w g cap xs) (hS : Row w h' cap' xs) :
    Calls Try.prog 21 #[.slice (some ⟨g, 0, none⟩) n cap, .slice (some ⟨h', 0, none⟩) n cap'] w fun e w' => e = .returned (.bool true) ∧ Below w.heap.size w w' := by
  have HR := Lib.hid hR
  have HS := Lib.hid hS
  have HN := Lib.hid hn
  have hcap := hR.le
  rw [hn] at hcap
  have hcap' := hS.le
  rw [hn] at hcap'
  clear hR hS hn
  go_enter Try.func21, Try.ntmps21
  go_wp2_with fail
  go_loopw [5] (fun i wr => ∃ k : Nat, k ≤ n ∧ i = .int .i64 k ∧ Below w.heap.size w wr) (fun i _ => n - (intOf i).toNat)
  case atStart => exact ⟨0, Nat.zero_le _, rfl, Below.refl _ _⟩
  case round =>
    obtain ⟨k, hkn, rfl, hB⟩ := hrel
    have HB := Lib.hid hB
    clear hB
    by_cases h1 : k < n
    · have l1 : k < xs.length := by rw [HN.out]; exact h1
      have c1 := (HR.out.later HB.out).at k l1
      have c2 := (HS.out.later HB.out).at k l1
      obtain ⟨x, hx⟩ : ∃ x, xs[k] = x := ⟨_, rfl⟩
      rw [hx] at c1
      rw [hx] at c2
      have k1 : (k : Int) < n := by omega
      have k0 : (0 : Int) ≤ k := by omega
      clear hx
      go_wp2_with fail
      go_quiet (fail)
      go_wp2_with fail
      go_roundw
      case rel => exact ⟨k + 1, by omega, by go_num, below_drewN HB.out _⟩
      case measure => simp [intOf]; omega
    · have k1 : ¬ (k : Int) < n := by omega
      go_wp2_with fail
      go_ret
      exact ⟨rfl, HB.out⟩
theorem same_nil (a b : Option Addr) (cap cap' : Nat) (w : World) : Calls Try.prog 21 #[.slice a 0 cap, .slice b 0 cap'] w fun e w' => e = .returned (.bool true) ∧ Below w.heap.size w w' := by
  go_enter Try.func21, Try.ntmps21
  go_wp2_with fail
  go_loopw [5] (fun i wr => i = .int .i64 0 ∧ wr = w) (fun i _ => 0)
  case atStart => exact ⟨rfl, rfl⟩
  case round =>
    obtain ⟨rfl, rfl⟩ := hrel
    go_wp2_with fail
    go_ret
    exact ⟨rfl, Below.refl _ _⟩
theorem same_sl (a b : Option Addr) (cap n cap' : Nat) (xs : List Bs) (hn : xs.length = n) (hn2 : n ≤ 200000) (w : World) (hR : Sl w a cap xs) (hS : Sl w b cap' xs) :
    Calls Try.prog 21 #[.slice a n cap, .slice b n cap'] w fun e w' => e = .returned (.bool true) ∧ Below w.heap.size w w' := by
  by_cases hx : xs = []
  · obtain rfl : n = 0 := by rw [← hn, hx]; rfl
    exact same_nil a b cap cap' w
  · obtain ⟨g, rfl, hR2⟩ := hR.row hx
    obtain ⟨h', rfl, hS2⟩ := hS.row hx
    exact same_row g cap n h' cap' xs hn hn2 w hR2 hS2

theorem cutL_few {s : ByteArray} (hs : s.size ≤ 100000) : (cutL (lA s)).length ≤ 200000 := by
  have := cutL_length (lA s)
  have hc : (lA s).count 47 ≤ (lA s).length := List.count_le_length
  rw [lA_len] at hc
  rw [this]
  split <;> omega
/-- What Steps hands back. -/
def stpR (p : Bs) : List Bs := if chk p = 0 then cutL p else []
set_option maxHeartbeats 1000000 in
theorem refsteps_any (s : ByteArray) (hs : s.size ≤ 100000) (c : Int) (hc : chk (lA s) = c) (xs : List Bs) (n : Nat) (hx : stpR (lA s) = xs) (hn : xs.length = n) (w : World) :
    Calls Try.prog 12 #[.string s] w fun e w' => (∃ a cap, e = .returned (.tuple #[.slice a n cap, .int .i64 c]) ∧ Sl w' a cap xs) ∧ Below w.heap.size w w' := by
  have B0 := Lib.hid (Below.refl w.heap.size w)
  have K1 := Lib.hid (fun w => refcheck_v s hs c hc w)
  by_cases h0 : c = 0
  · have hx2 : cutL (lA s) = xs := by rw [← hx, stpR, if_pos (hc.trans h0)]
    have K2 := Lib.hid (fun w => cut_sl s hs xs n hx2 hn w)
    clear hc hx hx2 hn
    subst h0
    go_enter Try.func12, Try.ntmps12
    go_wp2_with fail
    refine (K1.out _).mono ?_
    rintro e w1 ⟨rfl, hb⟩
    have B1 := Lib.hid (B0.out.trans (hb.mono B0.out.size))
    clear hb B0 
    go_wp2_with fail
    refine (K2.out _).mono ?_
    rintro e w2 ⟨⟨a, cap, rfl, hS⟩, hb⟩
    have B2 := Lib.hid (B1.out.trans (hb.mono B1.out.size))
    clear hb B1 
    have S_2 := Lib.hid hS
    clear hS
    go_wp2_with fail
    go_ret2
    exact ⟨⟨a, cap, rfl, S_2.out⟩, B2.out⟩
  · have h1 : (c != 0) = true := bne_iff_ne.2 h0
    obtain rfl : xs = [] := by rw [← hx, stpR, if_neg (fun e => h0 (hc.symm.trans e))]
    obtain rfl : n = 0 := hn.symm
    clear hc hx hn
    go_enter Try.func12, Try.ntmps12
    go_wp2_with fail
    refine (K1.out _).mono ?_
    rintro e w1 ⟨rfl, hb⟩
    have B1 := Lib.hid (B0.out.trans (hb.mono B0.out.size))
    clear hb B0 
    go_wp2_with fail
    refine (K1.out _).mono ?_
    rintro e w2 ⟨rfl, hb⟩
    have B2 := Lib.hid (B1.out.trans (hb.mono B1.out.size))
    clear hb B1 
    go_wp2_with fail
    go_ret2
    exact ⟨⟨none, 0, rfl, Sl.nil _⟩, B2.out⟩

/-- What Parent and Last hand back. -/
def parE (p : Bs) : Int := if chk p = 0 then (if cutL p = [] then 6 else 0) else chk p
def parS (p : Bs) : Bs := if chk p = 0 then pathL (cutL p).dropLast else []
def lasL (p : Bs) : Bs := ((cutL p).getLast?).getD []
def lasN (p : Bs) : Bs := if chk p = 0 then stN (lasL p) else []
def lasI (p : Bs) : Int := if chk p = 0 then stI (lasL p) else 0
theorem pathL_drop {p : Bs} : (pathL (cutL p).dropLast).length ≤ p.length := by
  have := pathL_mono (cutL p) ((cutL p).length - 1)
  rw [← List.dropLast_eq_take, pathL_cutL] at this; exact this
set_option maxHeartbeats 1000000 in
theorem refparent_any (s : ByteArray) (hs : s.size ≤ 100000) (w : World) :
    Calls Try.prog 14 #[.string s] w fun e w' => e = .returned (.tuple #[.string (bA (parS (lA s))), .int .i64 (parE (lA s))]) ∧ Below w.heap.size w w' := by
  have B0 := Lib.hid (Below.refl w.heap.size w)
  obtain ⟨c, hc⟩ : ∃ c, chk (lA s) = c := ⟨_, rfl⟩
  have K1 := Lib.hid (fun w => refcheck_v s hs c hc w)
  by_cases h0 : c = 0
  · subst h0
    obtain ⟨xs, hx⟩ : ∃ xs, cutL (lA s) = xs := ⟨_, rfl⟩
    obtain ⟨n, hn⟩ : ∃ n, xs.length = n := ⟨_, rfl⟩
    by_cases hxs : xs = []
    · have HS : Hid (parS (lA s) = []) := Lib.hid (by rw [parS, if_pos hc, hx, hxs]; rfl)
      have HE : Hid (parE (lA s) = 6) := Lib.hid (by rw [parE, if_pos hc, hx, if_pos hxs])
      obtain rfl : n = 0 := by rw [← hn, hxs]; rfl
      have K2 := Lib.hid (fun w => cut_sl s hs xs 0 hx hn w)
      clear hc hx hn
      go_enter Try.func14, Try.ntmps14
      go_wp2_with fail
      refine (K1.out _).mono ?_
      rintro e w1 ⟨rfl, hb⟩
      have B1 := Lib.hid (B0.out.trans (hb.mono B0.out.size))
      clear hb B0 
      go_wp2_with fail
      refine (K2.out _).mono ?_
      rintro e w2 ⟨⟨a, cap, rfl, hS⟩, hb⟩
      have B2 := Lib.hid (B1.out.trans (hb.mono B1.out.size))
      clear hb B1 
      have S_2 := Lib.hid hS
      clear hS
      go_wp2_with fail
      go_ret2
      exact ⟨by rw [HS.out, HE.out]; rfl, B2.out⟩
    · obtain ⟨l, hl⟩ : ∃ l, parS (lA s) = l := ⟨_, rfl⟩
      have hl2 : l = pathL (xs.take (n - 1)) := by rw [← hl, parS, if_pos hc, hx, List.dropLast_eq_take, hn]
      have hlen : (pathL (xs.take (n - 1))).length ≤ 100000 := by
        have := pathL_drop (p := lA s)
        rw [hx, List.dropLast_eq_take, hn, lA_len] at this; omega
      have HL := Lib.hid hl
      have HL2 := Lib.hid hl2
      have HE : Hid (parE (lA s) = 0) := Lib.hid (by rw [parE, if_pos hc, hx, if_neg hxs])
      have h0' : 0 < s.size := Nat.pos_of_ne_zero fun e => hxs (by rw [← hx, cutL_eq_nil]; exact List.length_eq_zero_iff.1 (by rw [lA_len]; exact e))
      have hn0 : 0 < n := by rw [← hn]; exact List.length_pos_iff.2 hxs
      have hnb : n ≤ 200000 := by rw [← hn, ← hx]; exact cutL_few hs
      have hn1 : ((n : Int) == 0) = false := by rw [beq_eq_false_iff_ne]; omega
      have K2 := Lib.hid (fun w => cut_row s hs h0' xs n hx hn w)
      have K3 := Lib.hid (fun g cap w (hR : Row w g cap xs) => refpath_row g cap (n - 1) (xs.take (n - 1)) (by rw [List.length_take, hn]; omega) hlen (by omega) w (hR.take (n - 1)))
      have hN := Lib.hid hn
      clear hc hx hn hlen hl hl2
      go_enter Try.func14, Try.ntmps14
      go_wp2_with fail
      refine (K1.out _).mono ?_
      rintro e w1 ⟨rfl, hb⟩
      have B1 := Lib.hid (B0.out.trans (hb.mono B0.out.size))
      clear hb B0 
      go_wp2_with fail
      refine (K2.out _).mono ?_
      rintro e w2 ⟨g, cap, rfl, hR, hb⟩
      have B2 := Lib.hid (B1.out.trans (hb.mono B1.out.size))
      have hcap := hR.le
      rw [hN.out] at hcap
      have hmax := hR.max
      unfold maxLen at hmax
      have R2 := Lib.hid hR
      clear hb hR B1
      have z1 : (n : Int) - 1 ≤ cap := by omega
      have z2 : ((n : Int) - 1).toNat = n - 1 := by omega
      go_wp2_with fail
      refine (K3.out g cap _ R2.out).mono ?_
      rintro e w3 ⟨rfl, rfl⟩
      go_wp2_with fail
      go_ret2
      exact ⟨by rw [HL.out, HE.out, HL2.out]; rfl, B2.out⟩
  · have h1 : (c != 0) = true := bne_iff_ne.2 h0
    have HS : Hid (parS (lA s) = []) := Lib.hid (by rw [parS, if_neg (fun e => h0 (hc.symm.trans e))])
    have HE : Hid (parE (lA s) = c) := Lib.hid (by rw [parE, if_neg (fun e => h0 (hc.symm.trans e)), hc])
    clear hc
    go_enter Try.func14, Try.ntmps14
    go_wp2_with fail
    refine (K1.out _).mono ?_
    rintro e w1 ⟨rfl, hb⟩
    have B1 := Lib.hid (B0.out.trans (hb.mono B0.out.size))
    clear hb B0 
    go_wp2_with fail
    refine (K1.out _).mono ?_
    rintro e w2 ⟨rfl, hb⟩
    have B2 := Lib.hid (B1.out.trans (hb.mono B1.out.size))
    clear hb B1 
    go_wp2_with fail
    go_ret2
    exact ⟨by rw [HS.out, HE.out]; rfl, B2.out⟩

theorem last_take {xs : List Bs} {n : Nat} (hn : xs.length = n) (h : 0 < n) : xs.getLast? = some (xs[n - 1]'(by omega)) := by
  subst hn
  rw [List.getLast?_eq_getElem?, List.getElem?_eq_getElem]
set_option maxHeartbeats 1000000 in
theorem reflast_any (s : ByteArray) (hs : s.size ≤ 100000) (w : World) :
    Calls Try.prog 16 #[.string s] w fun e w' => e = .returned (.tuple #[.string (bA (lasN (lA s))), .int .i64 (lasI (lA s)), .int .i64 (parE (lA s))]) ∧ Below w.heap.size w w' := by
  have B0 := Lib.hid (Below.refl w.heap.size w)
  obtain ⟨c, hc⟩ : ∃ c, chk (lA s) = c := ⟨_, rfl⟩
  have K1 := Lib.hid (fun w => refcheck_v s hs c hc w)
  by_cases h0 : c = 0
  · subst h0
    obtain ⟨xs, hx⟩ : ∃ xs, cutL (lA s) = xs := ⟨_, rfl⟩
    obtain ⟨n, hn⟩ : ∃ n, xs.length = n := ⟨_, rfl⟩
    by_cases hxs : xs = []
    · have HN : Hid (lasN (lA s) = []) := Lib.hid (by rw [lasN, if_pos hc, lasL, hx, hxs]; rfl)
      have HI : Hid (lasI (lA s) = 0) := Lib.hid (by rw [lasI, if_pos hc, lasL, hx, hxs]; rfl)
      have HE : Hid (parE (lA s) = 6) := Lib.hid (by rw [parE, if_pos hc, hx, if_pos hxs])
      obtain rfl : n = 0 := by rw [← hn, hxs]; rfl
      have K2 := Lib.hid (fun w => cut_sl s hs xs 0 hx hn w)
      clear hc hx hn
      go_enter Try.func16, Try.ntmps16
      go_wp2_with fail
      refine (K1.out _).mono ?_
      rintro e w1 ⟨rfl, hb⟩
      have B1 := Lib.hid (B0.out.trans (hb.mono B0.out.size))
      clear hb B0 
      go_wp2_with fail
      refine (K2.out _).mono ?_
      rintro e w2 ⟨⟨a, cap, rfl, hS⟩, hb⟩
      have B2 := Lib.hid (B1.out.trans (hb.mono B1.out.size))
      clear hb B1 
      have S_2 := Lib.hid hS
      clear hS
      go_wp2_with fail
      go_ret3
      exact ⟨by rw [HN.out, HI.out, HE.out]; rfl, B2.out⟩
    · have hn0 : 0 < n := by rw [← hn]; exact List.length_pos_iff.2 hxs
      obtain ⟨x, hxx⟩ : ∃ x, xs[n - 1]'(by omega) = x := ⟨_, rfl⟩
      have hla : lasL (lA s) = x := by rw [lasL, hx, last_take hn hn0, hxx]; rfl
      have HN : Hid (lasN (lA s) = stN x) := Lib.hid (by rw [lasN, if_pos hc, hla])
      have HI : Hid (lasI (lA s) = stI x) := Lib.hid (by rw [lasI, if_pos hc, hla])
      have HE : Hid (parE (lA s) = 0) := Lib.hid (by rw [parE, if_pos hc, hx, if_neg hxs])
      have h0' : 0 < s.size := Nat.pos_of_ne_zero fun e => hxs (by rw [← hx, cutL_eq_nil]; exact List.length_eq_zero_iff.1 (by rw [lA_len]; exact e))
      have hnb : n ≤ 200000 := by rw [← hn, ← hx]; exact cutL_few hs
      have hn1 : ((n : Int) == 0) = false := by rw [beq_eq_false_iff_ne]; omega
      have hxl : x.length ≤ 100000 := by
        have hm : x ∈ cutL (lA s) := by rw [hx, ← hxx]; exact List.getElem_mem _
        have := cutL_len hm
        rw [lA_len] at this; omega
      have K2 := Lib.hid (fun w => cut_row s hs h0' xs n hx hn w)
      have K3 := Lib.hid (fun w => refstep_l x hxl w)
      have hN := Lib.hid hn
      have HX : Hid (∀ g cap w, Row w g cap xs → w.cell? ⟨g, n - 1, none⟩ = some (sV x)) := Lib.hid (fun g cap w hR => by rw [hR.at (n - 1) (by omega), hxx])
      clear hc hx hn hxl hxx hla
      go_enter Try.func16, Try.ntmps16
      go_wp2_with fail
      refine (K1.out _).mono ?_
      rintro e w1 ⟨rfl, hb⟩
      have B1 := Lib.hid (B0.out.trans (hb.mono B0.out.size))
      clear hb B0 
      go_wp2_with fail
      refine (K2.out _).mono ?_
      rintro e w2 ⟨g, cap, rfl, hR, hb⟩
      have B2 := Lib.hid (B1.out.trans (hb.mono B1.out.size))
      have hc := HX.out g cap _ hR
      clear hb hR B1
      have z2 : ((n : Int) - 1).toNat = n - 1 := by omega
      have z3 : (0 : Int) ≤ (n : Int) - 1 := by omega
      go_wp2_with fail
      refine (K3.out _).mono ?_
      rintro e w3 ⟨rfl, rfl⟩
      go_wp2_with fail
      go_ret3
      exact ⟨by rw [HN.out, HI.out, HE.out]; rfl, B2.out⟩
  · have h1 : (c != 0) = true := bne_iff_ne.2 h0
    have HN : Hid (lasN (lA s) = []) := Lib.hid (by rw [lasN, if_neg (fun e => h0 (hc.symm.trans e))])
    have HI : Hid (lasI (lA s) = 0) := Lib.hid (by rw [lasI, if_neg (fun e => h0 (hc.symm.trans e))])
    have HE : Hid (parE (lA s) = c) := Lib.hid (by rw [parE, if_neg (fun e => h0 (hc.symm.trans e)), hc])
    clear hc
    go_enter Try.func16, Try.ntmps16
    go_wp2_with fail
    refine (K1.out _).mono ?_
    rintro e w1 ⟨rfl, hb⟩
    have B1 := Lib.hid (B0.out.trans (hb.mono B0.out.size))
    clear hb B0 
    go_wp2_with fail
    refine (K1.out _).mono ?_
    rintro e w2 ⟨rfl, hb⟩
    have B2 := Lib.hid (B1.out.trans (hb.mono B1.out.size))
    clear hb B1 
    go_wp2_with fail
    go_ret3
    exact ⟨by rw [HN.out, HI.out, HE.out]; rfl, B2.out⟩
end Go.Proofs.Ytjladbgidodhbaa
