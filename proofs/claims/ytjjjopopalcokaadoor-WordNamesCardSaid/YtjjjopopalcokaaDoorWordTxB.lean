/-
  What the package's Text hands back.
-/
import Derived.Test.YtjjjopopalcokaaDoorWordTx
namespace Go.Proofs.YtjjjopopalcokaaDoor
open Go.RowKit
open WM
set_option linter.unusedVariables false
set_option linter.unusedSimpArgs false

/-- Text's error and text. -/
def tC (l : List Md) : Int := if chk l ≠ 0 then chk l else if 50000 < (txt l).length then 4 else 0
def tS (l : List Md) : Bs := if tC l = 0 then txt l else []
theorem tC_no {l : List Md} (h : chk l ≠ 0) : tC l = chk l ∧ tS l = [] := by
  have e : tC l = chk l := by unfold tC; rw [if_pos h]
  exact ⟨e, by unfold tS; rw [e, if_neg h]⟩
theorem tC_many {l : List Md} (h : chk l = 0) (h2 : 50000 < (txt l).length) : tC l = 4 ∧ tS l = [] := by
  have e : tC l = 4 := by unfold tC; rw [if_neg (by simp [h]), if_pos h2]
  exact ⟨e, by unfold tS; rw [e, if_neg (by decide)]⟩
theorem tC_yes {l : List Md} (h : chk l = 0) (h2 : ¬ 50000 < (txt l).length) : tC l = 0 ∧ tS l = txt l := by
  have e : tC l = 0 := by unfold tC; rw [if_neg (by simp [h]), if_neg h2]
  exact ⟨e, by unfold tS; rw [if_pos e]⟩
theorem bA_nil : bA [] = ByteArray.empty := rfl
theorem ptext_no (v : Value) (l : List Md) (hmax : l.length ≤ 9223372036854775807) (hargs : ∀ m ∈ l, m.a.length ≤ 9223372036854775807) (h0 : chk l ≠ 0) (w : World) (hv : Mods w v l) :
    Calls Tryd.prog 19 #[v] w fun e w' => e = .returned (.tuple #[.string (bA (tS l)), .int .i64 (tC l)]) ∧ Below w.heap.size w w' := by
  have HV := Lib.hid hv
  have HC := Lib.hid (fun w hv => pcheck_any v l hmax hargs w hv)
  rw [(tC_no h0).1, (tC_no h0).2, bA_nil]
  obtain ⟨c, hc⟩ : ∃ c, chk l = c := ⟨_, rfl⟩
  rw [hc] at HC h0 ⊢
  have h1 : (c != 0) = true := by rw [bne_iff_ne]; exact h0
  clear hv hargs h0 hc
  go_enter Tryd.func19, Tryd.ntmps19
  go_wp2_with fail
  refine (HC.out _ HV.out).mono ?_
  rintro e w1 ⟨rfl, hb⟩
  have B1 := Lib.hid hb
  clear hb
  go_wp2_with fail
  go_ret2
  exact ⟨rfl, B1.out⟩
theorem sandwich (s : Bs) : (⟨#[40]⟩ : ByteArray) ++ bA s ++ ⟨#[41]⟩ = bA (40 :: (s ++ [41])) := by
  apply lA_inj
  rw [lA_bA]
  simp [lA, bA, ByteArray.data_append]
theorem txt_pre {l : List Md} (h : ∀ m ∈ l, fineB m = true) (hl : l.length ≤ 2000) (k : Nat) : (txt (l.take k)).length ≤ 120000 := by
  have := txt_len (l.take k) fun m hm => h m (List.mem_of_mem_take hm)
  rw [List.length_take] at this; omega
theorem modT_nil {m : Md} (h : m.a = []) : modT m = [m.c] := by unfold modT; rw [h]
theorem modT_cons {m : Md} {x : Int} {a : List Int} (h : m.a = x :: a) : modT m = [m.c] ++ (40 :: ((Lib.itoa x ++ argsT a) ++ [41])) := by unfold modT; rw [h]; simp
set_option maxRecDepth 100000 in
set_option maxHeartbeats 3200000 in
theorem ptext_yes (v : Value) (l : List Md) (h0 : chk l = 0) (w : World) (hv : Mods w v l) (he : Env w) :
    Calls Tryd.prog 19 #[v] w fun e w' => e = .returned (.tuple #[.string (bA (tS l)), .int .i64 (tC l)]) ∧ Below w.heap.size w w' := by
  have hmax : l.length ≤ 2000 := (chk_zero.1 h0).1
  have hfine : ∀ m ∈ l, fineB m = true := by have := (chk_zero.1 h0).2.1; simpa using this
  have hargs : ∀ m ∈ l, m.a.length ≤ 4 ∧ rngB m.a = true := fun m hm => by
    have := hfine m hm
    unfold fineB at this
    simp only [Bool.and_eq_true, decide_eq_true_eq] at this
    exact ⟨this.1.1.2, this.2⟩
  obtain ⟨p, cap, rfl⟩ := hv.slice
  have HV := Lib.hid hv
  have HEn := Lib.hid he
  have HC := Lib.hid (fun w hv => pcheck_any (.slice p l.length cap) l (by omega) (fun m hm => by have := (hargs m hm).1; omega) w hv)
  have HA := Lib.hid hargs
  have HP := Lib.hid (fun k => txt_pre hfine hmax k)
  have HML := Lib.hid (fun m hm => modT_len (hfine m hm))
  have HY := Lib.hid (fun h => tC_yes h0 h)
  have HN := Lib.hid (fun h => tC_many h0 h)
  rw [h0] at HC
  clear hv he hargs hfine h0
  go_enter Tryd.func19, Tryd.ntmps19
  go_wp2_with fail
  refine (HC.out _ HV.out).mono ?_
  rintro e w1 ⟨rfl, hb⟩
  have B1 := Lib.hid hb
  have HV1 := Lib.hid (HV.out.later hb)
  have HE1 := Lib.hid (HEn.out.later hb)
  have HF := Lib.hid (Bon.fresh w1)
  have HFB : Hid (Below w1.heap.size w1 (w1.alloc (.cells #[.pointer none, .slice none 0 0] 59))) := Lib.hid ((Below.refl _ _).alloc (Nat.le_refl _) _)
  clear hb
  go_wp2_with fail
  go_loopw [14] (fun i wr => ∃ k : Nat, i = .int .i64 k ∧ k ≤ l.length ∧ Below w1.heap.size w1 wr ∧ Bon w1.heap.size (txt (l.take k)) wr) (fun i _ => l.length - (intOf i).toNat)
  case atStart => exact ⟨0, rfl, Nat.zero_le _, HFB.out, HF.out⟩
  case round =>
    obtain ⟨k, rfl, hk, hB, hO⟩ := hrel
    have HB := Lib.hid hB
    have HO := Lib.hid hO
    have lb := hO.lt
    clear hB hO
    by_cases hlt : k < l.length
    · obtain ⟨b, off, cap', q, c, hp, e1, e2, hin, lb1⟩ := HV1.out.at hlt
      obtain rfl : p = some ⟨b, off, none⟩ := by cases hp; rfl
      have e1 := (HB.out.cell (p := ⟨b, off + k * 2, none⟩) lb1).trans e1
      have e2 := (HB.out.cell (p := ⟨b, off + k * 2 + 1, none⟩) lb1).trans e2
      have lbr := Nat.lt_of_lt_of_le lb1 HB.out.size
      have k1 : (k : Int) < (l.length : Int) := by omega
      have hml := HML.out _ (List.getElem_mem hlt)
      have hpl := HP.out k
      have KB := Lib.hid (wbyte w1.heap.size (txt (l.take k)) l[k].c wr HO.out (by omega))
      have HS := Lib.hid (txt_snoc hlt)
      have ha := HA.out _ (List.getElem_mem hlt)
      clear hp
      cases hcase : l[k].a with
      | nil =>
        have hm := modT_nil hcase
        rw [hm] at HS
        have hz : l[k].a.length = 0 := by rw [hcase]; rfl
        rw [hz] at e2
        clear hcase hm hz hin ha hml
        generalize l[k].c = cc at e1 KB HS
        go_wp2_with fail
        refine KB.out.mono ?_
        rintro e w2 ⟨rfl, ho, hb⟩
        have HO2 := Lib.hid ho
        have HB2 := Lib.hid (HB.out.trans hb)
        have e2 := (hb.cell (p := ⟨b, off + k * 2 + 1, none⟩) lb1).trans e2
        have lb2 := Nat.lt_of_lt_of_le lbr hb.size
        clear ho hb
        go_wp2_with fail
        go_roundw
        case rel => exact ⟨k + 1, by go_num, by omega, HB2.out, by rw [HS.out]; exact HO2.out⟩
        case measure => simp [intOf]; omega
      | cons x a =>
        have hm := modT_cons hcase
        rw [hm] at HS hml
        have hz : l[k].a.length = a.length + 1 := by rw [hcase]; rfl
        have hrg := rngB_iff.1 ha.2
        rw [hcase] at hrg
        have hal := ha.1
        rw [hz] at e2 hal hin
        rw [hcase] at hin
        have HIn := Lib.hid hin
        have HW := Lib.hid (fun w2 hv he => written_any x a (.slice q (a.length + 1) c) (by omega) hrg w2 hv he)
        have z0 : (0 : Int) < ((a.length + 1 : Nat) : Int) := by omega
        have HSw := Lib.hid (sandwich (Lib.itoa x ++ argsT a))
        clear hcase hm hz hin ha hrg
        generalize l[k].c = cc at e1 KB HS hml
        obtain ⟨s, hs⟩ : ∃ s, Lib.itoa x ++ argsT a = s := ⟨_, rfl⟩
        rw [hs] at HW HS HSw hml
        have hsl : s.length ≤ 60 := by simp at hml; omega
        obtain ⟨S, hS⟩ : ∃ S, bA s = S := ⟨_, rfl⟩
        have hSz : S.size ≤ 60 := by rw [← hS, ← lA_len, lA_bA]; exact hsl
        rw [hS] at HW HSw
        clear hs hS
        generalize a.length + 1 = an at e2 HW z0 HIn hal
        go_wp2_with fail
        refine KB.out.mono ?_
        rintro e w2 ⟨rfl, ho, hb⟩
        have HO2 := Lib.hid ho
        have HB2 := Lib.hid (HB.out.trans hb)
        have e2 := (hb.cell (p := ⟨b, off + k * 2 + 1, none⟩) lb1).trans e2
        have lb2 := Nat.lt_of_lt_of_le lbr hb.size
        clear ho
        go_wp2_with fail
        refine (HW.out w2 (HIn.out.later HB2.out) (HE1.out.later HB2.out)).mono ?_
        rintro e w3 ⟨rfl, hb⟩
        have HO3 := Lib.hid (HO2.out.later hb)
        have HB3 := Lib.hid (HB2.out.trans (hb.mono HB2.out.size))
        have KS := Lib.hid (wstr w1.heap.size (txt (l.take k) ++ [cc]) (40 :: (s ++ [41])) w3 HO3.out (by simp; omega))
        rw [← HSw.out] at KS
        clear hb HSw
        go_wp2_with fail
        refine KS.out.mono ?_
        rintro e w4 ⟨⟨xx, rfl⟩, ho, hb⟩
        have HO4 := Lib.hid ho
        have HB4 := Lib.hid (HB3.out.trans hb)
        clear ho hb
        go_wp2_with fail
        go_roundw
        case rel => exact ⟨k + 1, by go_num, by omega, HB4.out, by rw [HS.out, ← List.append_assoc]; exact HO4.out⟩
        case measure => simp [intOf]; omega
    · have hkl : k = l.length := by omega
      have k1 : ¬ (k : Int) < (l.length : Int) := by omega
      rw [hkl, List.take_length] at HO
      have KL := Lib.hid (wlen w1.heap.size (txt l) wr HO.out)
      have KS := Lib.hid (wstring w1.heap.size (txt l) wr HO.out)
      have HB2 := Lib.hid (B1.out.trans (HB.out.mono B1.out.size))
      have hpl := HP.out l.length
      rw [List.take_length] at hpl
      clear hkl HP
      by_cases hlen : 50000 < (txt l).length
      · have HE2 := Lib.hid (HN.out hlen)
        have c1 : (50000 : Int) < ((txt l).length : Int) := by omega
        clear hlen
        generalize (txt l).length = tl at KL c1 hpl
        go_wp2_with fail
        refine KL.out.mono ?_
        rintro e wx ⟨rfl, rfl⟩
        go_wp2_with fail
        go_ret2
        refine ⟨?_, HB2.out⟩
        rw [HE2.out.1, HE2.out.2]; rfl
      · have HE2 := Lib.hid (HY.out hlen)
        have c1 : ¬ (50000 : Int) < ((txt l).length : Int) := by omega
        clear hlen
        generalize (txt l).length = tl at KL c1 hpl
        go_wp2_with fail
        refine KL.out.mono ?_
        rintro e wx ⟨rfl, rfl⟩
        go_wp2_with fail
        refine KS.out.mono ?_
        rintro e w2 ⟨rfl, hb⟩
        have HB3 := Lib.hid (HB2.out.trans (hb.mono (Nat.le_trans B1.out.size (Nat.le_refl _))))
        clear hb
        go_wp2_with fail
        go_ret2
        refine ⟨?_, HB3.out⟩
        rw [HE2.out.1, HE2.out.2]; rfl
theorem ptext_any (v : Value) (l : List Md) (hmax : l.length ≤ 9223372036854775807) (hargs : ∀ m ∈ l, m.a.length ≤ 9223372036854775807) (w : World) (hv : Mods w v l) (he : Env w) :
    Calls Tryd.prog 19 #[v] w fun e w' => e = .returned (.tuple #[.string (bA (tS l)), .int .i64 (tC l)]) ∧ Below w.heap.size w w' := by
  by_cases h0 : chk l = 0
  · exact ptext_yes v l h0 w hv he
  · exact ptext_no v l hmax hargs h0 w hv
end Go.Proofs.YtjjjopopalcokaaDoor
