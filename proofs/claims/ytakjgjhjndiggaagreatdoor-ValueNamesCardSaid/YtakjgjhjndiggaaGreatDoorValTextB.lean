/-
  What Text of package value hands back.
-/
import Derived.Test.YtakjgjhjndiggaaGreatDoorValTextW
namespace Go.Proofs.YtakjgjhjndiggaaGreatDoor
open Go.RowKit Go.Shelf
open VM
set_option linter.unusedVariables false
set_option linter.unusedSimpArgs false

def tErr (v : V) : Int := if vchk v = 0 then (if 4000 < (txt v).length then 4 else 0) else vchk v
def tStr (v : V) : ByteArray := if tErr v = 0 then bA (txt v) else ⟨#[]⟩
theorem t_bad {v : V} (h : vchk v ≠ 0) : tErr v = vchk v ∧ tStr v = ⟨#[]⟩ := by
  have e : tErr v = vchk v := by unfold tErr; rw [if_neg h]
  exact ⟨e, by unfold tStr; rw [e, if_neg h]⟩
theorem t_long {v : V} (h : vchk v = 0) (h2 : 4000 < (txt v).length) : tErr v = 4 ∧ tStr v = ⟨#[]⟩ := by
  have e : tErr v = 4 := by unfold tErr; rw [if_pos h, if_pos h2]
  exact ⟨e, by unfold tStr; rw [e]; rfl⟩
theorem t_fine {v : V} (h : vchk v = 0) (h2 : ¬ 4000 < (txt v).length) : tErr v = 0 ∧ tStr v = bA (txt v) := by
  have e : tErr v = 0 := by unfold tErr; rw [if_pos h, if_neg h2]
  exact ⟨e, by unfold tStr; rw [e]; rfl⟩
theorem ret_se {a b : ByteArray} {x y : Int} (h : a = b) (h2 : x = y) : Ending.returned (.tuple #[.string a, .int .i64 x]) = .returned (.tuple #[.string b, .int .i64 y]) := by rw [h, h2]

/-- A variable that holds the argument, and what its list leads to, at a later world. -/
structure ArgAt (w : World) (a : Nd) (p : Option Addr) (cap : Nat) (l : List V) (wr : World) : Prop where
  below : Below w.heap.size w wr
  six : Six wr w.heap.size a (.slice p l.length cap)
  rep : RepL (· < w.heap.size) wr l (.slice p l.length cap)
theorem ArgAt.start {w : World} {a : Nd} {p : Option Addr} {cap : Nat} {l : List V} (h : RepL (· < w.heap.size) w l (.slice p l.length cap)) : ArgAt w a p cap l (w.alloc (.cells #[.int .u8 a.k, .int .i64 a.n, .int .i64 a.d, .bool a.t, .string a.s, .slice p l.length cap] 28)) :=
  ⟨(Below.refl _ _).alloc (Nat.le_refl _) _, Six.new _ _ _, h.later ((Below.refl _ _).alloc (Nat.le_refl _) _)⟩
theorem ArgAt.later {w : World} {a : Nd} {p : Option Addr} {cap : Nat} {l : List V} {wr w1 : World} (h : ArgAt w a p cap l wr) (hb : Below wr.heap.size wr w1) : ArgAt w a p cap l w1 :=
  ⟨h.below.trans (hb.mono h.below.size), h.six.later hb, h.rep.later hb⟩

set_option maxHeartbeats 2000000 in
theorem vtext_any (a : Nd) (l : List V) (p : Option Addr) (cap : Nat) (w : World) (hs : Small (.mk a l)) (ht : Tab w) (hr : RepL (· < w.heap.size) w l (.slice p l.length cap)) :
    Calls Tryz.prog 24 #[.agg #[.int .u8 a.k, .int .i64 a.n, .int .i64 a.d, .bool a.t, .string a.s, .slice p l.length cap]] w fun e w' => e = .returned (.tuple #[.string (tStr (.mk a l)), .int .i64 (tErr (.mk a l))]) ∧ Below w.heap.size w w' := by
  have HS := Lib.hid hs
  have S0 := Lib.hid (ArgAt.start (a := a) hr)
  have HT := Lib.hid (ht.later ((Below.refl _ w).alloc (Nat.le_refl _) (.cells #[.int .u8 a.k, .int .i64 a.n, .int .i64 a.d, .bool a.t, .string a.s, .slice p l.length cap] 28)))
  have HC := Lib.hid (vcheck_any a l p cap _ hs (S0.out.rep.bound))
  clear hs hr ht
  by_cases hz : vchk (.mk a l) = 0
  · have hz3 := vchk_zero.1 hz
    have HX := Lib.hid (fun w1 (h : RepL (· < w1.heap.size) w1 l (.slice p l.length cap)) (ht : Tab w1) => text_v (.mk a l) _ w1 HS.out (by have := hz3.1; omega) hz3.2.2 ht h)
    have HLn : (txt (.mk a l)).length ≤ 100000 := by have := txt_len _ hz3.2.2; have := hz3.1; omega
    have HL1 := Lib.hid (fun h => t_long hz h)
    have HL2 := Lib.hid (fun h => t_fine hz h)
    rw [hz] at HC
    clear hz hz3
    go_enter Tryz.func24, Tryz.ntmps24
    go_wp2_with fail
    refine HC.out.mono ?_
    rintro e w1 ⟨rfl, hb⟩
    have S1 := Lib.hid (S0.out.later hb)
    have HT1 := Lib.hid (HT.out.later hb)
    have l1 := S1.out.six.lt
    have q0 := S1.out.six.row.c0
    have q1 := S1.out.six.row.c1
    have q2 := S1.out.six.row.c2
    have q3 := S1.out.six.row.c3
    have q4 := S1.out.six.row.c4
    have q5 := S1.out.six.row.c5
    simp only [Nat.zero_add] at q1 q2 q3 q4 q5
    clear hb S0 HT
    go_wp2_with fail
    refine (HX.out w1 S1.out.rep.bound HT1.out).mono ?_
    rintro e w2 ⟨rfl, hb⟩
    have S2 := Lib.hid (S1.out.later hb)
    have hsz := bA_size (txt (.mk a l))
    clear hb q0 q1 q2 q3 q4 q5 l1 HX
    obtain ⟨x, hx⟩ : ∃ x, bA (txt (.mk a l)) = x := ⟨_, rfl⟩
    rw [hx] at hsz HL2 ⊢
    by_cases hl : 4000 < (txt (.mk a l)).length
    · have hl2 : (4000 : Int) < x.size := by omega
      have HR := Lib.hid (HL1.out hl)
      clear hl hx hsz
      go_wp2_with fail
      go_ret2
      exact ⟨ret_se HR.out.2.symm HR.out.1.symm, S2.out.below⟩
    · have hl2 : ¬ (4000 : Int) < x.size := by omega
      have HR := Lib.hid (HL2.out hl)
      clear hl hx hsz
      go_wp2_with fail
      go_ret2
      exact ⟨ret_se HR.out.2.symm HR.out.1.symm, S2.out.below⟩
  · have HR := Lib.hid (t_bad hz)
    obtain ⟨c, hc⟩ : ∃ c, vchk (.mk a l) = c := ⟨_, rfl⟩
    rw [hc] at HR HC hz
    have z1 : (c == 0) = false := beq_eq_false_iff_ne.2 hz
    have z2 : (c != 0) = true := by simp [bne, z1]
    clear hz hc
    go_enter Tryz.func24, Tryz.ntmps24
    go_wp2_with fail
    refine HC.out.mono ?_
    rintro e w1 ⟨rfl, hb⟩
    have S1 := Lib.hid (S0.out.later hb)
    clear hb S0 HT
    go_wp2_with fail
    go_ret2
    exact ⟨ret_se HR.out.2.symm HR.out.1.symm, S1.out.below⟩
end Go.Proofs.YtakjgjhjndiggaaGreatDoor
