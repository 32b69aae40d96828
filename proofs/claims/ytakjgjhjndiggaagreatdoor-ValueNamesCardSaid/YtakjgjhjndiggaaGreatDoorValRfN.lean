/-
  What the reference's number hands back.
-/
import Derived.Test.YtakjgjhjndiggaaGreatDoorValRfA
import Derived.Test.YtakjgjhjndiggaaGreatDoorZRatRefNumber
namespace Go.Proofs.YtakjgjhjndiggaaGreatDoor
open Go.RowKit Go.Shelf
open VM
set_option linter.unusedVariables false
set_option linter.unusedSimpArgs false

/-- What a number's text may hold at a place. -/
def munC (j : Nat) (c : UInt8) : Prop := isDig c ∨ c = 47 ∨ (c = 45 ∧ j = 0)
/-- The longest word of such signs. -/
structure QNum (s : ByteArray) (at_ : Nat) (v : V) (k : Nat) (ok : Bool) : Prop where
  lo : at_ ≤ k
  hi : k ≤ s.size
  v : v = numV' (parN (s.extract at_ k)) (parD (s.extract at_ k))
  ok : ok = decide (parE (s.extract at_ k) = 0)
  all : ∀ i, at_ ≤ i → i < k → (h : i < s.size) → munC (i - at_) s[i]
  stop : (h : k < s.size) → ¬ munC (k - at_) s[k]
/-- A box of two numbers. -/
theorem two_new (w : World) (n d : Int) (t : TypeId) : (w.alloc (.cells #[.int .i64 n, .int .i64 d] t)).heap[w.heap.size]? = some (.cells #[.int .i64 n, .int .i64 d] t (0, 0)) := heap_alloc_new _ _

set_option maxHeartbeats 4000000 in
theorem refnumberv_any (s : ByteArray) (hs : s.size ≤ 5000) (at_ : Nat) (ha : at_ ≤ s.size) (w : World) :
    Calls Tryz.prog 80 #[.string s, .int .i64 at_] w (RfEnd (QNum s at_) w) := by
  have S0 := Lib.hid (Six.new w ⟨0, 0, 0, false, ⟨#[]⟩⟩ (.slice none 0 0))
  have B0 : Hid (Below w.heap.size w (w.alloc (.cells #[.int .u8 0, .int .i64 0, .int .i64 0, .bool false, .string ⟨#[]⟩, .slice none 0 0] 28))) := Lib.hid ((Below.refl _ _).alloc (Nat.le_refl _) _)
  go_enter Tryz.func80, Tryz.ntmps80
  go_wp2_with fail
  go_loopw [7] (fun iv wr => ∃ (k : Nat), iv = .int .i64 k ∧ at_ ≤ k ∧ k ≤ s.size ∧ (∀ i, at_ ≤ i → i < k → (h : i < s.size) → munC (i - at_) s[i]) ∧ Six wr w.heap.size ⟨0, 0, 0, false, ⟨#[]⟩⟩ (.slice none 0 0) ∧ Below w.heap.size w wr) (fun iv _ => s.size + 10 - (intOf iv).toNat)
  case atStart => exact ⟨at_, rfl, Nat.le_refl _, ha, fun i h1 h2 => by omega, S0.out, B0.out⟩
  case round =>
    obtain ⟨k, rfl, hlo, hhi, hall, hS, hB⟩ := hrel
    have HA := Lib.hid hall
    have HS := Lib.hid hS
    have HB := Lib.hid hB
    have i0 : (0 : Int) ≤ (k : Int) := by omega
    have i2 : ((k : Int)).toNat = k := by omega
    clear hall hS hB S0 B0
    have hcase : (k < s.size ∧ ∃ h : k < s.size, munC (k - at_) s[k]) ∨ ((h : k < s.size) → ¬ munC (k - at_) s[k]) := by
      by_cases h : k < s.size
      · by_cases hm : munC (k - at_) s[k]
        · exact .inl ⟨h, h, hm⟩
        · exact .inr fun _ => hm
      · exact .inr fun h2 => absurd h2 h
    rcases hcase with ⟨hp, _, hm⟩ | hstop
    · have HT : Hid (∀ i, at_ ≤ i → i < k + 1 → (h : i < s.size) → munC (i - at_) s[i]) := Lib.hid fun i h1 h2 h3 => by
        rcases Nat.lt_or_ge i k with h4 | h4
        · exact HA.out i h1 h4 h3
        · obtain rfl : i = k := by omega
          exact hm
      have i1 : (k : Int) < (s.size : Int) := by omega
      rcases hm with ⟨h1, h2⟩ | h | ⟨h, h'⟩
      · have g1 : (48 : Int) ≤ ((s[k].toNat : Nat) : Int) := by omega
        have g2 : ((s[k].toNat : Nat) : Int) ≤ 57 := by omega
        clear h1 h2
        go_wp2_with fail
        go_roundw
        case rel => exact ⟨k + 1, by go_num, by omega, by omega, HT.out, HS.out, HB.out⟩
        case measure => simp [intOf]; omega
      · have g0 : ((s[k].toNat : Nat) : Int) = 47 := by rw [h]; rfl
        have g1 : ¬ (48 : Int) ≤ ((s[k].toNat : Nat) : Int) := by omega
        have g3 : (((s[k].toNat : Nat) : Int) == 47) = true := by rw [g0]; rfl
        clear h
        go_wp2_with fail
        go_roundw
        case rel => exact ⟨k + 1, by go_num, by omega, by omega, HT.out, HS.out, HB.out⟩
        case measure => simp [intOf]; omega
      · have g0 : ((s[k].toNat : Nat) : Int) = 45 := by rw [h]; rfl
        have g1 : ¬ (48 : Int) ≤ ((s[k].toNat : Nat) : Int) := by omega
        have g3 : (((s[k].toNat : Nat) : Int) == 47) = false := beq_eq_false_iff_ne.2 (by omega)
        have g4 : (((s[k].toNat : Nat) : Int) == 45) = true := by rw [g0]; rfl
        have g5 : ((k : Int) == (at_ : Int)) = true := by rw [show k = at_ by omega]; simp
        clear h
        go_wp2_with fail
        go_roundw
        case rel => exact ⟨k + 1, by go_num, by omega, by omega, HT.out, HS.out, HB.out⟩
        case measure => simp [intOf]; omega
    · have hx : (s.extract at_ k).size ≤ 10000 := by rw [ByteArray.size_extract]; omega
      have HPs := Lib.hid (fun w => refparse_any (s.extract at_ k) hx w)
      have HSt := Lib.hid hstop
      have HQ : Hid (∀ v ok, v = numV' (parN (s.extract at_ k)) (parD (s.extract at_ k)) → ok = decide (parE (s.extract at_ k) = 0) → QNum s at_ v k ok) := Lib.hid fun v ok h1 h2 => ⟨hlo, hhi, h1, h2, HA.out, HSt.out⟩
      obtain ⟨n, hn⟩ : ∃ n, parN (s.extract at_ k) = n := ⟨_, rfl⟩
      obtain ⟨d, hd⟩ : ∃ d, parD (s.extract at_ k) = d := ⟨_, rfl⟩
      obtain ⟨f, hf⟩ : ∃ f, parE (s.extract at_ k) = f := ⟨_, rfl⟩
      rw [hn, hd, hf] at HPs HQ
      have y1 : (at_ : Int) ≤ (k : Int) := by omega
      have y2 : (k : Int) ≤ (s.size : Int) := by omega
      have y3 : ((at_ : Int)).toNat = at_ := by omega
      have y4 : (0 : Int) ≤ (at_ : Int) := by omega
      clear hx hn hd hf HA
      have hend : ¬ (k : Int) < (s.size : Int) ∨ ((k : Int) < (s.size : Int) ∧ ∃ h : k < s.size, (((48 : Int) ≤ ((s[k].toNat : Nat) : Int) ∧ ¬ ((s[k].toNat : Nat) : Int) ≤ 57 ∧ (((s[k].toNat : Nat) : Int) == 47) = false ∧ (((s[k].toNat : Nat) : Int) == 45) = false) ∨ (¬ (48 : Int) ≤ ((s[k].toNat : Nat) : Int) ∧ (((s[k].toNat : Nat) : Int) == 47) = false ∧ (((s[k].toNat : Nat) : Int) == 45) = false) ∨ (¬ (48 : Int) ≤ ((s[k].toNat : Nat) : Int) ∧ (((s[k].toNat : Nat) : Int) == 47) = false ∧ (((s[k].toNat : Nat) : Int) == 45) = true ∧ ((k : Int) == (at_ : Int)) = false))) := by
        by_cases h : k < s.size
        · right
          refine ⟨by omega, h, ?_⟩
          have hm := hstop h
          unfold munC isDig at hm
          have e47 : s[k] = 47 ↔ s[k].toNat = 47 := ⟨fun e => by rw [e]; rfl, fun e => UInt8.toNat_inj.1 (by show s[k].toNat = 47; exact e)⟩
          have e45 : s[k] = 45 ↔ s[k].toNat = 45 := ⟨fun e => by rw [e]; rfl, fun e => UInt8.toNat_inj.1 (by show s[k].toNat = 45; exact e)⟩
          rw [e47, e45] at hm
          have n47 : ¬ s[k].toNat = 47 := fun e => hm (.inr (.inl e))
          have b47 : (((s[k].toNat : Nat) : Int) == 47) = false := beq_eq_false_iff_ne.2 (by omega)
          by_cases h48 : 48 ≤ s[k].toNat
          · left
            have h57 : ¬ s[k].toNat ≤ 57 := fun e => hm (.inl ⟨h48, e⟩)
            exact ⟨by omega, by omega, b47, beq_eq_false_iff_ne.2 (by omega)⟩
          · right
            by_cases h45 : s[k].toNat = 45
            · right
              have hk : ¬ k - at_ = 0 := fun e => hm (.inr (.inr ⟨h45, e⟩))
              exact ⟨by omega, b47, by rw [h45]; rfl, beq_eq_false_iff_ne.2 (by omega)⟩
            · left
              exact ⟨by omega, b47, beq_eq_false_iff_ne.2 (by omega)⟩
        · left; omega
      clear hstop HSt
      rcases hend with hc | ⟨i1, hk, ⟨g1, g2, g3, g4⟩ | ⟨g1, g3, g4⟩ | ⟨g1, g3, g4, g5⟩⟩
      all_goals
        go_wp2_with fail
        refine (HPs.out _).mono ?_
        rintro e w1 ⟨rfl, hb1⟩
        have S1 := Lib.hid (HS.out.later hb1)
        have HB1 := Lib.hid (HB.out.trans (hb1.mono HB.out.size))
        clear hb1
        obtain ⟨W1, hW1⟩ : ∃ W1, W1 = w1.alloc (.cells #[.int .i64 n, .int .i64 d] 25) := ⟨_, rfl⟩
        have hbw : Below w1.heap.size w1 W1 := by rw [hW1]; exact (Below.refl _ _).alloc (Nat.le_refl _) _
        have S2 := Lib.hid (S1.out.later hbw)
        have HB2 := Lib.hid (HB1.out.trans (hbw.mono HB1.out.size))
        clear hbw
        go_wp2_with fail
        rw [← hW1]
        refine (of_any n d _).mono ?_
        rintro e w2 ⟨rfl, hb2⟩
        have S3 := Lib.hid (S2.out.later hb2)
        have HB3 := Lib.hid (HB2.out.trans (hb2.mono HB2.out.size))
        have l1 := S3.out.lt
        have q0 := S3.out.row.c0
        have q1 := S3.out.row.c1
        have q2 := S3.out.row.c2
        have q3 := S3.out.row.c3
        have q4 := S3.out.row.c4
        have q5 := S3.out.row.c5
        have f0 := S3.out.free 0
        have f1 := S3.out.free 1
        have f2 := S3.out.free 2
        have f3 := S3.out.free 3
        have f4 := S3.out.free 4
        have f5 := S3.out.free 5
        simp only [Nat.zero_add] at q1 q2 q3 q4 q5
        clear hb2 hW1
        have H6 := sixSet_six S3.out ⟨1, n, d, false, ⟨#[]⟩⟩ (.slice none 0 0)
        have HBw := sixSet_below (a := ⟨1, n, d, false, ⟨#[]⟩⟩) (sl := .slice none 0 0) HB3.out (Nat.le_refl _)
        unfold sixSet at H6 HBw
        have e0 := H6.row.c0
        have e1 := H6.row.c1
        have e2 := H6.row.c2
        have e3 := H6.row.c3
        have e4 := H6.row.c4
        have e5 := H6.row.c5
        simp only [Nat.zero_add] at e1 e2 e3 e4 e5
        have HBh := Lib.hid HBw
        clear H6 HBw
        go_wp2_with fail
        exact bodyPost_ret (v := .tuple #[.agg #[.int .u8 1, .int .i64 n, .int .i64 d, .bool false, .string ⟨#[]⟩, .slice none 0 0], .int .i64 k, .bool (f == 0)]) (by simp [results, Tryz.results80, go_sem, q0, q1, q2, q3, q4, q5, l1, e0, e1, e2, e3, e4, e5] <;> rfl) rfl ⟨numV' n d, .slice none 0 0, k, decide (f = 0), by rw [show (f == 0) = decide (f = 0) from by first | rfl | (by_cases h : f = 0 <;> simp [h])]; rfl, RepL.nil _ _ _ _, HQ.out _ _ rfl rfl, HBh.out⟩
end Go.Proofs.YtakjgjhjndiggaaGreatDoor
