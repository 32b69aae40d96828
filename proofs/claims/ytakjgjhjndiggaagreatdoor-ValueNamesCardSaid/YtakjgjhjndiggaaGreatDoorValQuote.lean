/-
  What quoted hands back.
-/
import Derived.Test.YtakjgjhjndiggaaGreatDoorValBuild
import Derived.Test.YtakjgjhjndiggaaGreatDoorValText
import Derived.Test.YtakjgjhjndiggaaGreatDoorValSound
namespace Go.Proofs.YtakjgjhjndiggaaGreatDoor
open Go.RowKit Go.Shelf
open VM
set_option linter.unusedVariables false
set_option linter.unusedSimpArgs false

/-- A builder under way. -/
def Bon (b : Nat) (acc : By) (w : World) : Prop := Lib.IsBuilderF 125 5 b b (Lib.byteCells acc) w
theorem Bon.of {b : Nat} {acc : By} {w : World} (h : Bld b b (Lib.byteCells acc) w) : Bon b acc w := .inr h
theorem Bon.fresh (w : World) : Bon w.heap.size [] (w.alloc (.cells #[.pointer none, .slice none 0 0] 125)) := Lib.IsBuilderF.of (Lib.fresh_isBuilder 125 5 w)
theorem wbyte (b : Nat) (acc : By) (c : UInt8) (w : World) (h : Bon b acc w) (hl : acc.length ≤ 1000000) (hb : b ≤ w.heap.size) :
    Calls Tryz.prog 96 #[.pointer (some ⟨b, 0, none⟩), .int .u8 c.toNat] w fun e w' => e = .returned .nilIface ∧ Bon b (acc ++ [c]) w' ∧ Left1 b b w w' :=
  (byte_any b b (Lib.byteCells acc) c.toNat w h (by rw [Lib.byteCells_length]; exact hl) hb).mono fun e w' ⟨he, h1, h2⟩ => ⟨he, Bon.of (by rw [Lib.byteCells_append]; exact h1), h2⟩
theorem cells_rune (c : UInt8) (h : c.toNat < 128) : Lib.runeCells (c.toNat : Int) = Lib.byteCells [c] := by
  unfold Lib.runeCells
  rw [Lib.encodeRuneZ_one (by omega) (by omega)]
  rfl
theorem wrune (b : Nat) (acc : By) (c : UInt8) (hc : c.toNat < 128) (w : World) (h : Bon b acc w) (hl : acc.length ≤ 1000000) (hb : b ≤ w.heap.size) :
    Calls Tryz.prog 97 #[.pointer (some ⟨b, 0, none⟩), .int .i32 c.toNat] w fun e w' => (∃ x, e = .returned x) ∧ Bon b (acc ++ [c]) w' ∧ Left1 b b w w' :=
  (rune_any b b (Lib.byteCells acc) c.toNat (by omega) (by omega) w h (by rw [Lib.byteCells_length]; exact hl) hb).mono fun e w' ⟨he, h1, h2⟩ => ⟨he, Bon.of (by rw [Lib.byteCells_append, ← cells_rune c hc]; exact h1), h2⟩
theorem wstring (b : Nat) (acc : By) (w : World) (h : Bon b acc w) (hb : b ≤ w.heap.size) :
    Calls Tryz.prog 98 #[.pointer (some ⟨b, 0, none⟩)] w fun e w' => e = .returned (.string (bA acc)) ∧ Below b w w' :=
  (Tryz.Builder_String_any_k b b acc w h hb).mono fun e w' ⟨he, _, h2, _⟩ => ⟨he, h2⟩

theorem prB_at {s : ByteArray} (h : prB s = true) {k : Nat} (hk : k < s.size) : 32 ≤ s[k].toNat ∧ s[k].toNat ≤ 126 := by
  unfold prB at h
  simp only [Bool.and_eq_true, decide_eq_true_eq, List.all_eq_true] at h
  refine prC_iff.1 (h.2 s[k] ?_)
  have : s[k] = s.data.toList[k]'(by simpa using hk) := rfl
  rw [this]; exact List.getElem_mem _
theorem prB_size {s : ByteArray} (h : prB s = true) : s.size ≤ 60 := by
  unfold prB at h
  simp only [Bool.and_eq_true, decide_eq_true_eq] at h
  exact h.1
theorem take_at {s : ByteArray} {k : Nat} (hk : k < s.size) : (lA s).take (k + 1) = (lA s).take k ++ [s[k]] := by
  rw [List.take_succ_eq_append_getElem (by rw [lA_len]; exact hk)]; rfl
/-- Where quoted stands behind so many bytes. -/
structure QuoAt (s : ByteArray) (w : World) (k pos : Nat) (wr : World) : Prop where
  bon : Bon w.heap.size (34 :: escL ((lA s).take pos)) wr
  it : wr.heap[k]? = some (.stringIter s pos)
  below : Below w.heap.size w wr
theorem u8_34 : (((34 : UInt8).toNat : Nat) : Int) = 34 := rfl
theorem u8_92 : (((92 : UInt8).toNat : Nat) : Int) = 92 := rfl
theorem quo_len (s : ByteArray) (hs : s.size ≤ 10000) (pos : Nat) : (34 :: escL ((lA s).take pos)).length ≤ 100000 := by
  have h1 := escL_len ((lA s).take pos)
  have h2 : ((lA s).take pos).length ≤ s.size := by rw [List.length_take, lA_len]; omega
  rw [List.length_cons]; omega

set_option maxHeartbeats 2000000 in
theorem quoted_any (s : ByteArray) (hp : prB s = true) (w : World) : Calls Tryz.prog 68 #[.string s] w fun e w' => e = .returned (.string (bA (quoL (lA s)))) ∧ Below w.heap.size w w' := by
  have HP := Lib.hid hp
  have hs := prB_size hp
  have HL := Lib.hid (quo_len s (by omega))
  have K0 : Hid (∀ (w1 : World) (acc : By), Bon w.heap.size acc w1 → acc.length ≤ 1000000 → w.heap.size ≤ w1.heap.size → Calls Tryz.prog 96 #[.pointer (some ⟨w.heap.size, 0, none⟩), .int .u8 34] w1 fun e w' => e = .returned .nilIface ∧ Bon w.heap.size (acc ++ [34]) w' ∧ Left1 w.heap.size w.heap.size w1 w') :=
    Lib.hid fun w1 acc h hl hb => wbyte w.heap.size acc 34 w1 h hl hb
  have K1 : Hid (∀ (w1 : World) (acc : By), Bon w.heap.size acc w1 → acc.length ≤ 1000000 → w.heap.size ≤ w1.heap.size → Calls Tryz.prog 96 #[.pointer (some ⟨w.heap.size, 0, none⟩), .int .u8 92] w1 fun e w' => e = .returned .nilIface ∧ Bon w.heap.size (acc ++ [92]) w' ∧ Left1 w.heap.size w.heap.size w1 w') :=
    Lib.hid fun w1 acc h hl hb => wbyte w.heap.size acc 92 w1 h hl hb
  have B0 := Lib.hid (Bon.fresh w)
  clear hp
  go_enter Tryz.func68, Tryz.ntmps68
  go_wp2_with fail
  refine (K0.out _ _ B0.out (by simp) (by simp)).mono ?_
  rintro e w1 ⟨rfl, hbon, hbel, hoth⟩
  have HB1 : Hid (Below w.heap.size w w1) := Lib.hid (((Below.refl _ w).alloc (Nat.le_refl _) _).trans hbel)
  have HN1 := Lib.hid hbon
  clear hbon hbel hoth
  go_wp2_with fail
  go_loopw [] (fun wr => ∃ pos : Nat, pos ≤ s.size ∧ QuoAt s w w1.heap.size pos wr) (fun wr => s.size - wr.iterPos w1.heap.size)
  case atStart =>
    refine ⟨0, Nat.zero_le _, ?_, iter_new w1 s, ?_⟩
    · exact HN1.out.alloc _
    · exact HB1.out.trans ((((Below.refl _ w1).alloc (Nat.le_refl _) _)).mono HB1.out.size)
  case round =>
    obtain ⟨pos, hpos, hq⟩ := hrel
    have HQ := Lib.hid hq
    have hit := hq.it
    have hk1 : w.heap.size < w1.heap.size := by
      rcases HN1.out with h | h <;> (obtain ⟨_, v, hb, _⟩ := h; exact (Array.getElem?_eq_some_iff.1 hb).1)
    have hkb : w1.heap.size ≠ w.heap.size := by omega
    clear hq
    by_cases hp : pos < s.size
    · have hr := prB_at HP.out hp
      have hnx : ∀ ty, (Instr.next (.pointer (some ⟨w1.heap.size, 0, none⟩)) true ty).run Tryz.prog wr = _ := fun ty => Lib.run_next_ascii_at wr w1.heap.size s pos ty hit hp (by omega)
      obtain ⟨W2, hW2⟩ : ∃ W2, W2 = wr.iterAt w1.heap.size s (pos + 1) := ⟨_, rfl⟩
      have hbn2 : Hid (Bon w.heap.size (34 :: escL ((lA s).take pos)) W2) := Lib.hid (by rw [hW2]; exact HQ.out.bon.iterAt hit _)
      have hit2 : Hid (W2.heap[w1.heap.size]? = some (.stringIter s (pos + 1))) := Lib.hid (by rw [hW2]; exact Lib.iterAt_heap wr w1.heap.size s pos (pos + 1) hit)
      have hbw2 : Hid (Below w.heap.size w W2) := Lib.hid (by rw [hW2]; exact Lib.below_iterAt HQ.out.below (k := w1.heap.size) (by omega) s (pos + 1))
      have HI := Lib.hid hit
      rw [← hW2] at hnx
      clear hW2 hit
      obtain ⟨c, hc⟩ : ∃ c, c = s[pos]'hp := ⟨_, rfl⟩
      have HT : Hid ((lA s).take (pos + 1) = (lA s).take pos ++ [c]) := Lib.hid (by rw [hc]; exact take_at hp)
      rw [← hc] at hnx hr
      clear hc
      have KR : Hid (∀ (w1 : World) (acc : By), Bon w.heap.size acc w1 → acc.length ≤ 1000000 → w.heap.size ≤ w1.heap.size → Calls Tryz.prog 97 #[.pointer (some ⟨w.heap.size, 0, none⟩), .int .i32 c.toNat] w1 fun e w' => (∃ x, e = .returned x) ∧ Bon w.heap.size (acc ++ [c]) w' ∧ Left1 w.heap.size w.heap.size w1 w') :=
        Lib.hid fun w1 acc h hl hb => wrune w.heap.size acc c (by omega) w1 h hl hb
      have HLp := Lib.hid (HL.out pos)
      have HLq : Hid (((34 :: escL ((lA s).take pos)) ++ [92]).length ≤ 1000000) := Lib.hid (by
        have := HLp.out
        rw [List.length_append, List.length_singleton]; exact Nat.le_trans (Nat.add_le_add_right this 1) (by decide))
      by_cases hs2 : c = 34 ∨ c = 92
      · have HE : Hid ((34 :: escL ((lA s).take (pos + 1))) = (34 :: escL ((lA s).take pos)) ++ [92] ++ [c]) := Lib.hid (by rw [HT.out, escL_snoc, if_pos hs2]; simp)
        have z : ((c.toNat : Nat) : Int) = 34 ∨ ((c.toNat : Nat) : Int) = 92 := by rcases hs2 with h | h <;> subst h <;> simp
        have zz : (((c.toNat : Nat) : Int) == 34 || ((c.toNat : Nat) : Int) == 92) = true := by rcases z with h | h <;> simp [h]
        clear hs2 HT
        rcases z with z | z
        all_goals
          have z1 := z
          clear z
          rw [z1] at KR
          go_wp2_with fail
          refine (K1.out _ _ hbn2.out (Nat.le_trans HLp.out (by omega)) hbw2.out.size).mono ?_
          rintro e W3 ⟨rfl, hb3, hl3⟩
          have HB3 := Lib.hid hb3
          have HI3 := Lib.hid (hl3.2.iter hit2.out hkb)
          have HW3 := Lib.hid (hbw2.out.trans hl3.1)
          clear hb3 hl3
          go_wp2_with fail
          refine (KR.out _ _ HB3.out HLq.out HW3.out.size).mono ?_
          rintro e W4 ⟨⟨x, rfl⟩, hb4, hl4⟩
          have HB4 := Lib.hid hb4
          have HI4 := Lib.hid (hl4.2.iter HI3.out hkb)
          have HW4 := Lib.hid (HW3.out.trans hl4.1)
          clear hb4 hl4
          go_wp2_with fail
          go_roundw
          case rel => exact ⟨pos + 1, by omega, by rw [HE.out]; exact HB4.out, HI4.out, HW4.out⟩
          case measure =>
            simp only [World.iterPos, HI4.out, HI.out]
            omega
      · have HE : Hid ((34 :: escL ((lA s).take (pos + 1))) = (34 :: escL ((lA s).take pos)) ++ [c]) := Lib.hid (by rw [HT.out, escL_snoc, if_neg hs2]; simp)
        have z1 : ¬ ((c.toNat : Nat) : Int) = 34 := fun h => hs2 (.inl (by apply UInt8.toNat_inj.1; show c.toNat = 34; omega))
        have z2 : ¬ ((c.toNat : Nat) : Int) = 92 := fun h => hs2 (.inr (by apply UInt8.toNat_inj.1; show c.toNat = 92; omega))
        have z3 : (((c.toNat : Nat) : Int) == 34) = false := beq_eq_false_iff_ne.2 z1
        have z4 : (((c.toNat : Nat) : Int) == 92) = false := beq_eq_false_iff_ne.2 z2
        clear hs2 HT
        go_wp2_with fail
        refine (KR.out _ _ hbn2.out (Nat.le_trans HLp.out (by omega)) hbw2.out.size).mono ?_
        rintro e W4 ⟨⟨x, rfl⟩, hb4, hl4⟩
        have HB4 := Lib.hid hb4
        have HI4 := Lib.hid (hl4.2.iter hit2.out hkb)
        have HW4 := Lib.hid (hbw2.out.trans hl4.1)
        clear hb4 hl4
        go_wp2_with fail
        go_roundw
        case rel => exact ⟨pos + 1, by omega, by rw [HE.out]; exact HB4.out, HI4.out, HW4.out⟩
        case measure =>
          simp only [World.iterPos, HI4.out, HI.out]
          omega
    · have hnx : ∀ ty, (Instr.next (.pointer (some ⟨w1.heap.size, 0, none⟩)) true ty).run Tryz.prog wr = _ := fun ty => Lib.run_next_end_at wr w1.heap.size s pos ty hit hp
      have HE : Hid ((34 :: escL ((lA s).take pos)) ++ [34] = quoL (lA s)) := Lib.hid (by
        rw [List.take_of_length_le (by rw [lA_len]; omega)]; rfl)
      have HLp := Lib.hid (HL.out pos)
      clear hit
      go_wp2_with fail
      refine (K0.out _ _ HQ.out.bon (Nat.le_trans HLp.out (by omega)) HQ.out.below.size).mono ?_
      rintro e W3 ⟨rfl, hb3, hl3⟩
      have HB3 := Lib.hid hb3
      have HW3 := Lib.hid (HQ.out.below.trans hl3.1)
      rw [HE.out] at HB3
      clear hb3 hl3
      go_wp2_with fail
      refine (wstring w.heap.size _ W3 HB3.out HW3.out.size).mono ?_
      rintro e W4 ⟨rfl, hb4⟩
      have HW4 := Lib.hid (HW3.out.trans hb4)
      clear hb4
      go_wp2_with fail
      go_ret
      exact ⟨rfl, HW4.out⟩
end Go.Proofs.YtakjgjhjndiggaaGreatDoor
