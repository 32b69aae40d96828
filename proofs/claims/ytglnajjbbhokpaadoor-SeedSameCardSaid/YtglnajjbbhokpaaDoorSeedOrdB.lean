/-
  What Order hands back: the package's.
-/
import Derived.Test.YtglnajjbbhokpaaDoorSeedOrd
namespace Go.Proofs.YtglnajjbbhokpaaDoor
open Go.RowKit
open SM
set_option linter.unusedVariables false
set_option linter.unusedSimpArgs false

def oOk (n : Int) : Bool := decide (0 ≤ n) && decide (n ≤ 200)
/-- How Order ends. -/
def OrdEnd (s : Int) (p : Bs) (n : Int) (w : World) (e : Ending) (w' : World) : Prop :=
  (oOk n = false ∧ e = .returned (.tuple #[.slice none 0 0, .int .i64 2]) ∧ Below w.heap.size w w') ∨
  (oOk n = true ∧ ∃ q cap, e = .returned (.tuple #[.slice q n.toNat cap, .int .i64 0]) ∧ Below w.heap.size w w' ∧ Ints w' (.slice q n.toNat cap) (castL (ordN (ordF s p) n.toNat)))

theorem order_no (s : Int) (x : ByteArray) (n : Int) (hn : oOk n = false) (w : World) :
    Calls Tryd.prog 12 #[.int .i64 s, .string x, .int .i64 n] w (OrdEnd s (lA x) n w) := by
  have HE : Hid (OrdEnd s (lA x) n w (.returned (.tuple #[.slice none 0 0, .int .i64 2])) w) := Lib.hid (.inl ⟨hn, rfl, Below.refl _ _⟩)
  by_cases h1 : n < 0
  · clear hn
    go_enter Tryd.func12, Tryd.ntmps12
    go_wp2_with fail
    go_ret2
    exact HE.out
  · have h2 : 200 < n := by
      simp [oOk] at hn; omega
    clear hn
    go_enter Tryd.func12, Tryd.ntmps12
    go_wp2_with fail
    go_ret2
    exact HE.out

set_option maxHeartbeats 1600000 in
theorem order_yes (s : Int) (x : ByteArray) (hx : x.size ≤ 9223372036854775807) (n : Nat) (hn : n ≤ 200) (w : World) (ht : Tab w) :
    Calls Tryd.prog 12 #[.int .i64 s, .string x, .int .i64 (n : Int)] w (OrdEnd s (lA x) n w) := by
  have hmf : ∀ (fn : Fn) (first cap : Array Value) (w : World), (Instr.makeFunc fn first cap).run Tryd.prog w = .ok (.func fn first cap) w := fun _ _ _ _ => rfl
  have HT := Lib.hid ht
  obtain ⟨t0, ht0⟩ : ∃ t, t = begN s := ⟨_, rfl⟩
  obtain ⟨t1, ht1⟩ : ∃ t, t = alongN t0 (lA x) := ⟨_, rfl⟩
  obtain ⟨t2, ht2⟩ : ∃ t, t = alongN t1 [47] := ⟨_, rfl⟩
  have b0 : t0 < 18446744073709551616 := by rw [ht0]; exact begN_lt s
  have b1 : t1 < 18446744073709551616 := by rw [ht1]; exact alongN_lt b0 _
  have b2 : t2 < 18446744073709551616 := by rw [ht2]; exact alongN_lt b1 _
  have H0 : Hid (∀ w, Calls Tryd.prog 22 #[.int .i64 s] w fun e w' => e = .returned (.int .u64 t0) ∧ w = w') := Lib.hid (fun w => by rw [ht0]; exact begin_any s w)
  have H1 : Hid (∀ w, Calls Tryd.prog 23 #[.int .u64 t0, .string x] w fun e w' => e = .returned (.int .u64 t1) ∧ w = w') := Lib.hid (fun w => by rw [ht1]; exact along_any t0 b0 x hx w)
  have H2 : Hid (∀ w, Calls Tryd.prog 23 #[.int .u64 t1, .string ⟨#[47]⟩] w fun e w' => e = .returned (.int .u64 t2) ∧ w = w') := Lib.hid (fun w => by rw [ht2]; exact along_any t1 b1 ⟨#[47]⟩ (by decide) w)
  have HF : Hid (∀ i, numN (alongN t2 (Lib.decDigits i)) = ordF s (lA x) i) := Lib.hid (fun i => by rw [ordF_eq, ht2, ht1, ht0])
  have HC : Hid (∀ i : Nat, i ≤ 1000 → ∀ w, Tab w → Calls Tryd.prog 24 #[.int .u64 t2, .int .i64 (i : Int)] w fun e w' => e = .returned (.int .u64 (ordF s (lA x) i)) ∧ Below w.heap.size w w') :=
    Lib.hid (fun i hi w ht => by have := below_any t2 b2 i hi w ht; rwa [HF.out] at this)
  have HL : Hid (∀ i, ordF s (lA x) i < 18446744073709551616) := Lib.hid (fun i => ofN_lt _ _)
  have hmk := fun w => made_run n (by omega) w
  have HE : Hid (∀ w', Below w.heap.size w w' → RowI w' w.heap.size (castL (ordN (ordF s (lA x)) n)) → OrdEnd s (lA x) n w (.returned (.tuple #[.slice (some ⟨w.heap.size, 0, none⟩) n n, .int .i64 0])) w') :=
    Lib.hid (fun w' hb hr => .inr ⟨by simp [oOk]; omega, _, _, rfl, hb, by
      have := hr.ints n
      rw [castL_length, ordN_length] at this
      exact this⟩)
  have HR0 : Hid (RowI (w.alloc (.cells (zeros n) 3)) w.heap.size (upL n 0)) := Lib.hid (by rw [upL_zero]; exact made_row n w)
  have n0 : ¬ (n : Int) < 0 := by omega
  have n1 : ¬ 200 < (n : Int) := by omega
  clear ht ht0 ht1 ht2 b0 b1 b2 HF
  go_enter Tryd.func12, Tryd.ntmps12
  go_wp2_with fail
  refine (H0.out _).mono ?_
  rintro e w2 ⟨rfl, rfl⟩
  go_wp2_with fail
  refine (H1.out _).mono ?_
  rintro e w2 ⟨rfl, rfl⟩
  go_wp2_with fail
  refine (H2.out _).mono ?_
  rintro e w2 ⟨rfl, rfl⟩
  go_wp2_with fail
  go_loopw [29] (fun i wr => ∃ k : Nat, k ≤ n ∧ i = .int .i64 k ∧ Below w.heap.size w wr ∧ RowI wr w.heap.size (upL n k)) (fun i _ => n - (intOf i).toNat)
  case atStart => exact ⟨0, Nat.zero_le _, rfl, (Below.refl _ _).alloc (Nat.le_refl _) _, HR0.out⟩
  case round =>
    obtain ⟨k, hk, rfl, hb, hr⟩ := hrel
    have HB := Lib.hid hb
    have HR := Lib.hid hr
    have l1 := hr.lt
    clear hb hr
    by_cases hlt : k < n
    · have f1 := HR.out.free k
      have q1 := HR.out.cell (i := k) (by rw [upL_length]; exact hlt)
      generalize (upL n k)[k]'(by rw [upL_length]; exact hlt) = z at q1
      have HG : Hid (RowI (wr.setCell ⟨w.heap.size, k, none⟩ (.int .i64 (k : Int))) w.heap.size (upL n (k + 1))) := Lib.hid (by
        rw [upL_succ]; exact HR.out.set (by rw [upL_length]; exact hlt) _)
      go_wp2_with fail
      go_roundw
      case rel => exact ⟨k + 1, by omega, by go_num, HB.out.setCell (Nat.le_refl _) _, HG.out⟩
      case measure => simp [intOf]; omega
    · obtain rfl : k = n := by omega
      rw [upL_all] at HR
      have B0 := Lib.hid HB.out
      have HO : Hid (OrdAt w w.heap.size (ordF s (lA x)) k (k - 1) (List.range k) wr) := Lib.hid (OrdAt.start B0.out HR.out)
      clear HB B0 HR hmk HR0
      go_wp2_with fail
      go_loopw [11] (fun i wr => ∃ (j : Nat) (l : List Nat), (i = .int .i64 j ∨ (k = 0 ∧ i = .int .i64 (-1))) ∧ OrdAt w w.heap.size (ordF s (lA x)) k j l wr) (fun i _ => (intOf i).toNat)
      case atStart =>
        refine ⟨k - 1, List.range k, ?_, HO.out⟩
        rcases Nat.eq_zero_or_pos k with h | h
        · subst h; exact .inr ⟨rfl, rfl⟩
        · exact .inl (by congr 1; omega)
      case round =>
        obtain ⟨j, l, hi, hO⟩ := hrel
        have HO := Lib.hid hO
        have l1 := hO.row.lt
        have hlen := hO.len
        have hfew := hO.few
        clear hO
        rcases hi with rfl | ⟨rfl, rfl⟩
        · by_cases hj : 0 < j
          · have hjn : j < l.length := by omega
            have HTr := Lib.hid (Tab.later HT.out (HO.out.below.mono (Nat.le_refl _)))
            have hj2 : (0 : Int) < (j : Int) := by omega
            have hm : ordF s (lA x) j % (j + 1) < j + 1 := Nat.mod_lt _ (by omega)
            have HM := Lib.hid (fun w => modulo_any _ (j + 1) (HL.out j) (by omega) (by omega) w)
            have HCj := Lib.hid (HC.out j (by omega) wr HTr.out)
            have HRun : Hid (runO (ordF s (lA x)) (j - 1) (swapL l j (ordF s (lA x) j % (j + 1))) = ordN (ordF s (lA x)) k) := Lib.hid (HO.out.run2 hj)
            obtain ⟨h, hh⟩ : ∃ h, ordF s (lA x) j = h := ⟨_, rfl⟩
            rw [hh] at HM HCj hm HRun
            obtain ⟨m, hmm⟩ : ∃ m, h % (j + 1) = m := ⟨_, rfl⟩
            rw [hmm] at HM hm HRun
            clear hh hmm
            rw [show (((j + 1 : Nat)) : Int) = (j : Int) + 1 by omega] at HM
            go_wp2_with fail
            refine HCj.out.mono ?_
            rintro e w1 ⟨rfl, hb⟩
            have HB1 := Lib.hid hb
            have HR1 := Lib.hid (HO.out.row.later hb)
            clear hb l1
            have l1 := HR1.out.lt
            go_wp2_with fail
            refine (HM.out _).mono ?_
            rintro e w2 ⟨rfl, rfl⟩
            have hml : m < l.length := by omega
            have q1 := HR1.out.cell (i := j) (by rw [castL_length]; exact hjn)
            have f1 := HR1.out.free j
            have BB : Hid (∀ x y, Below w.heap.size w ((w1.setCell ⟨w.heap.size, j, none⟩ x).setCell ⟨w.heap.size, m, none⟩ y)) := Lib.hid (fun x y =>
              ((HO.out.below.trans (HB1.out.mono HO.out.below.size)).setCell (Nat.le_refl _) _).setCell (Nat.le_refl _) _)
            have HS : Hid (∀ (p q : Nat) (hp : p = l[m]) (hq : q = l[j]), OrdAt w w.heap.size (ordF s (lA x)) k (j - 1) (swapL l j m) ((w1.setCell ⟨w.heap.size, j, none⟩ (.int .i64 (p : Int))).setCell ⟨w.heap.size, m, none⟩ (.int .i64 (q : Int)))) := Lib.hid (by
              intro p q hp hq
              refine ⟨by rw [swapL_length]; exact hlen, by omega, HRun.out, BB.out _ _, ?_⟩
              rw [hp, hq]; exact HR1.out.swap hjn hml)
            rw [castL_get hjn] at q1
            have q2 := HR1.out.cell (i := m) (by rw [castL_length]; exact hml)
            rw [castL_get hml] at q2
            have f2 := HR1.out.free m
            have HS2 := Lib.hid (HS.out l[m] l[j] rfl rfl)
            generalize l[j] = a at q1 HS2
            generalize l[m] = b at q2 HS2
            obtain ⟨v3, hy3⟩ := cell_still (w := w1) (p := ⟨w.heap.size, j, none⟩) (x := .int .i64 (b : Int)) (q := ⟨w.heap.size, m, none⟩) q2
            clear HS BB
            go_wp2_with fail
            go_region
            go_wp2_with fail
            go_roundw
            case rel => exact ⟨j - 1, swapL l j m, .inl (by congr 1; omega), HS2.out.drew⟩
            case measure => simp [intOf]; omega
          · obtain rfl : j = 0 := by omega
            have HE2 := Lib.hid (HE.out _ HO.out.below (by have := HO.out.row; rwa [HO.out.fin] at this))
            go_wp2_with fail
            go_ret2
            exact HE2.out
        · have hl0 : l = ordN (ordF s (lA x)) 0 := by
            have : l = [] := List.length_eq_zero_iff.1 hlen
            rw [this, ordN_none]
          have HE2 := Lib.hid (HE.out _ HO.out.below (by have := HO.out.row; rwa [hl0] at this))
          go_wp2_with fail
          go_ret2
          exact HE2.out
theorem order_any (s : Int) (x : ByteArray) (hx : x.size ≤ 9223372036854775807) (n : Int) (w : World) (ht : Tab w) :
    Calls Tryd.prog 12 #[.int .i64 s, .string x, .int .i64 n] w (OrdEnd s (lA x) n w) := by
  cases hn : oOk n with
  | false => exact order_no s x n hn w
  | true =>
    have h : 0 ≤ n ∧ n ≤ 200 := by simpa [oOk] using hn
    obtain ⟨m, rfl⟩ : ∃ m : Nat, n = (m : Int) := ⟨n.toNat, by omega⟩
    exact order_yes s x hx m (by omega) w ht
end Go.Proofs.YtglnajjbbhokpaaDoor
