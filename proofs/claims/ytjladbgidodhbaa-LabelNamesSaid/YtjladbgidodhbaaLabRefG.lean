/-
  What the reference's Under, Common, Compare, Join and Long hand back.
-/
import Derived.Test.YtjladbgidodhbaaLabRefF
import Derived.WalkLawsBesides
namespace Go.Proofs.Ytjladbgidodhbaa
open Go.RowKit
open LM
set_option linter.unusedVariables false
set_option linter.unusedSimpArgs false

def undR (p q : Bs) : Bool := decide (both p q = 0) && undB p q
def comR (p q : Bs) : Bs := if both p q = 0 then comL p q else []
def cmpR (p q : Bs) : Int := if both p q = 0 then cmpP p q else 0
theorem refboth_v (p q : ByteArray) (hp : p.size ≤ 100000) (hq : q.size ≤ 100000) (c : Int) (hc : both (lA p) (lA q) = c) (w : World) : Calls Try.prog 46 #[.string p, .string q] w fun e w' => e = .returned (.int .i64 c) ∧ Below w.heap.size w w' := by
  subst hc; exact refboth_any p q hp hq w
theorem comL_len (p q : Bs) : (comL p q).length ≤ p.length := by
  have := pathL_mono (cutL p) (sharedL (cutL p) (cutL q))
  rw [pathL_cutL] at this; exact this

/-! ### Comparing: the first step that differs -/
theorem lex_shared {α : Type} {c : Bs → Bs → Int} (h : Ord0 c) : ∀ (a b : List Bs), lexC c a b =
    if h2 : sharedL a b < a.length ∧ sharedL a b < b.length then (if c (a[sharedL a b]'h2.1) (b[sharedL a b]'h2.2) = 0 then lexC c (a.drop (sharedL a b + 1)) (b.drop (sharedL a b + 1)) else c (a[sharedL a b]'h2.1) (b[sharedL a b]'h2.2))
    else if a.length < b.length then -1 else if b.length < a.length then 1 else 0
  | [], [] => by simp [lexC, sharedL]
  | [], _ :: _ => by simp [lexC, sharedL]
  | _ :: _, [] => by simp [lexC, sharedL]
  | x :: a, y :: b => by
    by_cases hxy : x = y
    · subst hxy
      have e : sharedL (x :: a) (x :: b) = sharedL a b + 1 := by simp [sharedL]
      have ih := lex_shared (α := α) h a b
      simp only [lexC, if_pos (h.zero x), ih, e, List.length_cons, List.getElem_cons_succ, List.drop_succ_cons, Nat.add_lt_add_iff_right]
    · have e : sharedL (x :: a) (y :: b) = 0 := by simp [sharedL, hxy]
      simp [lexC, e]
theorem bytesLess_iff : ∀ (a b : Bs), Op.bytesLess a b = decide (cmpN a b < 0)
  | _, [] => by
    rename_i a
    cases a <;> simp [Op.bytesLess, cmpN, lexC]
  | [], _ :: _ => by simp [Op.bytesLess, cmpN, lexC]
  | x :: a, y :: b => by
    have ih := bytesLess_iff a b
    have hlt : (x < y) ↔ x.toNat < y.toNat := UInt8.lt_iff_toNat_lt
    have heq : (x = y) ↔ x.toNat = y.toNat := ⟨fun e => by rw [e], fun e => UInt8.toNat_inj.1 e⟩
    unfold Op.bytesLess
    rw [ih]
    show _ = decide (lexC cmpU (x :: a) (y :: b) < 0)
    unfold lexC
    show _ = decide ((if cmpI x.toNat y.toNat = 0 then cmpN a b else cmpI x.toNat y.toNat) < 0)
    unfold cmpI
    by_cases h1 : x.toNat < y.toNat
    · have h2 : ((x.toNat : Int) < y.toNat) := by omega
      simp [hlt.2 h1, h2]
    · have h2 : ¬ ((x.toNat : Int) < y.toNat) := by omega
      have h3 : ¬ x < y := fun e => h1 (hlt.1 e)
      by_cases h4 : x.toNat = y.toNat
      · have h5 : x = y := heq.2 h4
        subst h5; simp
      · have h5 : ¬ x = y := fun e => h4 (heq.1 e)
        have h6 : (y.toNat : Int) < x.toNat := by omega
        simp [h2, h3, h5, h6]
theorem bytesLess_val {x y : Bs} : Op.bytesLess (bA x).toList (bA y).toList = decide (cmpN x y < 0) := by
  rw [← bytesLess_iff]
  rw [ByteArray.toList_eq, ByteArray.toList_eq]
  show Op.bytesLess (lA (bA x)) (lA (bA y)) = _
  rw [lA_bA, lA_bA]

set_option maxHeartbeats 1000000 in
theorem refunder_any (p q : ByteArray) (hp : p.size ≤ 100000) (hq : q.size ≤ 100000) (w : World) :
    Calls Try.prog 25 #[.string p, .string q] w fun e w' => e = .returned (.tuple #[.bool (undR (lA p) (lA q)), .int .i64 (both (lA p) (lA q))]) ∧ Below w.heap.size w w' := by
  have B0 := Lib.hid (Below.refl w.heap.size w)
  obtain ⟨c, hc⟩ : ∃ c, both (lA p) (lA q) = c := ⟨_, rfl⟩
  have K1 := Lib.hid (fun w => refboth_v p q hp hq c hc w)
  by_cases h0 : c = 0
  · subst h0
    obtain ⟨xs, hx⟩ : ∃ xs, cutL (lA p) = xs := ⟨_, rfl⟩
    obtain ⟨n, hn⟩ : ∃ n, xs.length = n := ⟨_, rfl⟩
    obtain ⟨ys, hy⟩ : ∃ ys, cutL (lA q) = ys := ⟨_, rfl⟩
    obtain ⟨m, hm⟩ : ∃ m, ys.length = m := ⟨_, rfl⟩
    obtain ⟨k, hk⟩ : ∃ k, sharedL xs ys = k := ⟨_, rfl⟩
    have hnb : n ≤ 200000 := by rw [← hn, ← hx]; exact cutL_few hp
    have hmb : m ≤ 200000 := by rw [← hm, ← hy]; exact cutL_few hq
    have K2 := Lib.hid (fun w => cut_sl p hp xs n hx hn w)
    have K3 := Lib.hid (fun w => cut_sl q hq ys m hy hm w)
    have K4 := Lib.hid (fun a b cap cap' w (hR : Sl w a cap xs) (hS : Sl w b cap' ys) => shared_sl a b cap n cap' m xs ys hn hm hnb hmb k hk w hR hS)
    have HU : Hid (undR (lA p) (lA q) = decide (k = m)) := Lib.hid (by rw [undR, hc]; simp [undB, hx, hy, hk, hm])
    have HC := Lib.hid hc
    clear hc hx hn hy hm hk
    obtain ⟨t, ht⟩ : ∃ t, decide ((k : Int) = m) = t := ⟨_, rfl⟩
    have HT : Hid (decide (k = m) = t) := Lib.hid (by rw [← ht]; simp [Int.ofNat_inj])
    have ht2 : ((k : Int) == m) = t := by rw [← ht]; rfl
    clear ht
    go_enter Try.func25, Try.ntmps25
    go_wp2_with fail
    refine (K1.out _).mono ?_
    rintro e w1 ⟨rfl, hb⟩
    have B1 := Lib.hid (B0.out.trans (hb.mono B0.out.size))
    clear hb B0 
    go_wp2_with fail
    refine (K2.out _).mono ?_
    rintro e w2 ⟨⟨a, cap, rfl, hS⟩, hb⟩
    have B2 := Lib.hid (B1.out.trans (hb.mono B1.out.size))
    clear hb B1 
    have S_2 := Lib.hid hS
    clear hS
    go_wp2_with fail
    refine (K3.out _).mono ?_
    rintro e w3 ⟨⟨b, cap', rfl, hS⟩, hb⟩
    have B3 := Lib.hid (B2.out.trans (hb.mono B2.out.size))
    have S_3 := Lib.hid (S_2.out.later hb)
    clear hb B2 S_2
    have T_3 := Lib.hid hS
    clear hS
    go_wp2_with fail
    refine (K4.out a b cap cap' _ S_3.out T_3.out).mono ?_
    rintro e w4 ⟨rfl, hb⟩
    have B4 := Lib.hid (B3.out.trans (hb.mono B3.out.size))
    have S_4 := Lib.hid (S_3.out.later hb)
    have T_4 := Lib.hid (T_3.out.later hb)
    clear hb B3 S_3 T_3
    go_wp2_with fail
    refine (K3.out _).mono ?_
    rintro e w5 ⟨⟨b2, cap2, rfl, hS⟩, hb⟩
    have B5 := Lib.hid (B4.out.trans (hb.mono B4.out.size))
    have S_5 := Lib.hid (S_4.out.later hb)
    have T_5 := Lib.hid (T_4.out.later hb)
    clear hb B4 S_4 T_4
    clear hS
    go_wp2_with fail
    go_ret2
    exact ⟨by rw [HU.out, HC.out, HT.out]; rfl, B5.out⟩
  · have h1 : (c != 0) = true := bne_iff_ne.2 h0
    have HU : Hid (undR (lA p) (lA q) = false) := Lib.hid (by rw [undR, hc]; simp [h0])
    have HC := Lib.hid hc
    clear hc
    go_enter Try.func25, Try.ntmps25
    go_wp2_with fail
    refine (K1.out _).mono ?_
    rintro e w1 ⟨rfl, hb⟩
    have B1 := Lib.hid (B0.out.trans (hb.mono B0.out.size))
    clear hb B0 
    go_wp2_with fail
    refine (K1.out _).mono ?_
    rintro e w2 ⟨rfl, hb⟩
    have B2 := Lib.hid (B1.out.trans (hb.mono B1.out.size))
    clear hb B1 
    go_wp2_with fail
    go_ret2
    exact ⟨by rw [HU.out, HC.out]; rfl, B2.out⟩

set_option maxHeartbeats 1000000 in
theorem refcommon_any (p q : ByteArray) (hp : p.size ≤ 100000) (hq : q.size ≤ 100000) (w : World) :
    Calls Try.prog 27 #[.string p, .string q] w fun e w' => e = .returned (.tuple #[.string (bA (comR (lA p) (lA q))), .int .i64 (both (lA p) (lA q))]) ∧ Below w.heap.size w w' := by
  have B0 := Lib.hid (Below.refl w.heap.size w)
  obtain ⟨c, hc⟩ : ∃ c, both (lA p) (lA q) = c := ⟨_, rfl⟩
  have K1 := Lib.hid (fun w => refboth_v p q hp hq c hc w)
  by_cases h0 : c = 0
  · subst h0
    obtain ⟨xs, hx⟩ : ∃ xs, cutL (lA p) = xs := ⟨_, rfl⟩
    obtain ⟨n, hn⟩ : ∃ n, xs.length = n := ⟨_, rfl⟩
    obtain ⟨ys, hy⟩ : ∃ ys, cutL (lA q) = ys := ⟨_, rfl⟩
    obtain ⟨m, hm⟩ : ∃ m, ys.length = m := ⟨_, rfl⟩
    obtain ⟨k, hk⟩ : ∃ k, sharedL xs ys = k := ⟨_, rfl⟩
    have hnb : n ≤ 200000 := by rw [← hn, ← hx]; exact cutL_few hp
    have hmb : m ≤ 200000 := by rw [← hm, ← hy]; exact cutL_few hq
    have hkn : k ≤ n := by rw [← hk, ← hn]; exact (sharedL_le xs ys).1
    have K2 := Lib.hid (fun w => cut_sl p hp xs n hx hn w)
    have K3 := Lib.hid (fun w => cut_sl q hq ys m hy hm w)
    have K4 := Lib.hid (fun a b cap cap' w (hR : Sl w a cap xs) (hS : Sl w b cap' ys) => shared_sl a b cap n cap' m xs ys hn hm hnb hmb k hk w hR hS)
    have HU : Hid (comR (lA p) (lA q) = pathL (xs.take k)) := Lib.hid (by rw [comR, if_pos hc, comL, hx, hy, hk])
    have hlen : (pathL (xs.take k)).length ≤ 100000 := by
      have := comL_len (lA p) (lA q)
      rw [comL, hx, hy, hk, lA_len] at this; omega
    have HC := Lib.hid hc
    by_cases h0' : 0 < p.size
    · have K5 := Lib.hid (fun w => cut_row p hp h0' xs n hx hn w)
      have K6 := Lib.hid (fun g cap w (hR : Row w g cap xs) => refpath_row g cap k (xs.take k) (by rw [List.length_take, hn]; omega) hlen (by omega) w (hR.take k))
      have hN := Lib.hid hn
      clear hc hx hn hy hm hk hlen h0'
      go_enter Try.func27, Try.ntmps27
      go_wp2_with fail
      refine (K1.out _).mono ?_
      rintro e w1 ⟨rfl, hb⟩
      have B1 := Lib.hid (B0.out.trans (hb.mono B0.out.size))
      clear hb B0 
      go_wp2_with fail
      refine (K5.out _).mono ?_
      rintro e w2 ⟨g, cap, rfl, hR, hb⟩
      have B2 := Lib.hid (B1.out.trans (hb.mono B1.out.size))
      have hcap := hR.le
      rw [hN.out] at hcap
      have hmax := hR.max
      unfold maxLen at hmax
      have R_2 := Lib.hid hR
      clear hb hR B1
      go_wp2_with fail
      refine (K2.out _).mono ?_
      rintro e w3 ⟨⟨a, cap2, rfl, hS⟩, hb⟩
      have B3 := Lib.hid (B2.out.trans (hb.mono B2.out.size))
      have R_3 := Lib.hid (R_2.out.later hb)
      clear hb B2 R_2
      have S_3 := Lib.hid hS
      clear hS
      go_wp2_with fail
      refine (K3.out _).mono ?_
      rintro e w4 ⟨⟨b, cap', rfl, hS⟩, hb⟩
      have B4 := Lib.hid (B3.out.trans (hb.mono B3.out.size))
      have R_4 := Lib.hid (R_3.out.later hb)
      have S_4 := Lib.hid (S_3.out.later hb)
      clear hb B3 R_3 S_3
      have T_4 := Lib.hid hS
      clear hS
      go_wp2_with fail
      refine (K4.out a b cap2 cap' _ S_4.out T_4.out).mono ?_
      rintro e w5 ⟨rfl, hb⟩
      have B5 := Lib.hid (B4.out.trans (hb.mono B4.out.size))
      have R_5 := Lib.hid (R_4.out.later hb)
      have S_5 := Lib.hid (S_4.out.later hb)
      have T_5 := Lib.hid (T_4.out.later hb)
      clear hb B4 R_4 S_4 T_4
      have z1 : (k : Int) ≤ cap := by omega
      go_wp2_with fail
      refine (K6.out g cap _ R_5.out).mono ?_
      rintro e w7 ⟨rfl, rfl⟩
      go_wp2_with fail
      go_ret2
      exact ⟨by rw [HU.out, HC.out]; rfl, B5.out⟩
    · obtain rfl := str_nil h0'
      obtain rfl : xs = [] := hx.symm
      obtain rfl : n = 0 := hn.symm
      obtain rfl : k = 0 := by omega
      clear hc hx hn hy hm hk hlen h0' hkn hnb
      go_enter Try.func27, Try.ntmps27
      go_wp2_with fail
      refine (K1.out _).mono ?_
      rintro e w1 ⟨rfl, hb⟩
      have B1 := Lib.hid (B0.out.trans (hb.mono B0.out.size))
      clear hb B0 
      go_wp2_with fail
      refine (refcut_nil _).mono ?_
      rintro e wz ⟨rfl, rfl⟩
      go_wp2_with fail
      refine (K2.out _).mono ?_
      rintro e w2 ⟨⟨a, cap2, rfl, hS⟩, hb⟩
      have B2 := Lib.hid (B1.out.trans (hb.mono B1.out.size))
      clear hb B1 
      have S_2 := Lib.hid hS
      clear hS
      go_wp2_with fail
      refine (K3.out _).mono ?_
      rintro e w3 ⟨⟨b, cap', rfl, hS⟩, hb⟩
      have B3 := Lib.hid (B2.out.trans (hb.mono B2.out.size))
      have S_3 := Lib.hid (S_2.out.later hb)
      clear hb B2 S_2
      have T_3 := Lib.hid hS
      clear hS
      go_wp2_with fail
      refine (K4.out a b cap2 cap' _ S_3.out T_3.out).mono ?_
      rintro e w4 ⟨rfl, hb⟩
      have B4 := Lib.hid (B3.out.trans (hb.mono B3.out.size))
      have S_4 := Lib.hid (S_3.out.later hb)
      have T_4 := Lib.hid (T_3.out.later hb)
      clear hb B3 S_3 T_3
      go_wp2_with fail
      refine (refpath_nil _).mono ?_
      rintro e w7 ⟨rfl, rfl⟩
      go_wp2_with fail
      go_ret2
      exact ⟨by rw [HU.out, HC.out]; rfl, B4.out⟩
  · have h1 : (c != 0) = true := bne_iff_ne.2 h0
    have HU : Hid (comR (lA p) (lA q) = []) := Lib.hid (by rw [comR, hc, if_neg h0])
    have HC := Lib.hid hc
    clear hc
    go_enter Try.func27, Try.ntmps27
    go_wp2_with fail
    refine (K1.out _).mono ?_
    rintro e w1 ⟨rfl, hb⟩
    have B1 := Lib.hid (B0.out.trans (hb.mono B0.out.size))
    clear hb B0 
    go_wp2_with fail
    refine (K1.out _).mono ?_
    rintro e w2 ⟨rfl, hb⟩
    have B2 := Lib.hid (B1.out.trans (hb.mono B1.out.size))
    clear hb B1 
    go_wp2_with fail
    go_ret2
    exact ⟨by rw [HU.out, HC.out]; rfl, B2.out⟩
end Go.Proofs.Ytjladbgidodhbaa
