/-
  Texts of the proof, merged: BWordTx, BWordTxB, BWordPs, BRewMath, BConMath.
-/
import Derived.Test.YtlmofdmbcddddaaGreatDoorBContextBranchProofM2
import Derived.Test.YtlmofdmbcddddaaGreatDoorBContextBranchProofM3
import Derived.Lib.FrozenHead2
import Derived.Test.YtlmofdmbcddddaaGreatDoorBContextBranchProofM4
import Derived.Test.YtlmofdmbcddddaaGreatDoorBContextBranchProofM1
namespace Go.Proofs.YtlmofdmbcddddaaGreatDoor
open Go.RowKit
open WM
set_option linter.unusedVariables false
set_option linter.unusedSimpArgs false

/-- A builder under way. -/
def Bon (b : Nat) (acc : Bs) (w : World) : Prop := Lib.IsBuilderF 74 5 b b (Lib.byteCells acc) w
theorem Bon.of {b : Nat} {acc : Bs} {w : World} (h : Bld b b (Lib.byteCells acc) w) : Bon b acc w := .inr h
theorem Bon.fresh (w : World) : Bon w.heap.size [] (w.alloc (.cells #[.pointer none, .slice none 0 0] 74)) := Lib.IsBuilderF.of (Lib.fresh_isBuilder 74 5 w)
theorem ownsF_later {w w1 : World} {base n size : Nat} {e : TypeId} {v : Value} {xs : List Value} (h : w.ownsRowF base e size v n xs) (hb : Below w.heap.size w w1) : w1.ownsRowF base e size v n xs := by
  refine ⟨h.1, ?_⟩
  rcases h.2 with h1 | ⟨g, cap, cur, fz, h1, h2, h3, h4⟩
  · exact .inl h1
  · exact .inr ⟨g, cap, cur, fz, h1, h2, (hb.block g (lt_of_block h3)).trans h3, h4⟩
theorem Bon.later {b : Nat} {acc : Bs} {w w1 : World} (h : Bon b acc w) (hb : Below w.heap.size w w1) : Bon b acc w1 := by
  rcases h with ⟨h0, v, h1, h2, h3⟩ | ⟨h0, v, h1, h2, h3⟩
  · exact .inl ⟨h0, v, (hb.block b (lt_of_block h1)).trans h1, ownsF_later h2 hb, h3⟩
  · exact .inr ⟨h0, v, (hb.block b (lt_of_block h1)).trans h1, ownsF_later h2 hb, h3⟩
theorem Bon.lt {b : Nat} {acc : Bs} {w : World} (h : Bon b acc w) : b < w.heap.size := by
  rcases h with ⟨h0, v, h1, _⟩ | ⟨h0, v, h1, _⟩ <;> exact lt_of_block h1
theorem wbyte (b : Nat) (acc : Bs) (c : UInt8) (w : World) (h : Bon b acc w) (hl : acc.length ≤ 1000000) :
    Calls Tryz.prog 40 #[.pointer (some ⟨b, 0, none⟩), .int .u8 c.toNat] w fun e w' => e = .returned .nilIface ∧ Bon b (acc ++ [c]) w' ∧ Below b w w' :=
  (byte_any b b (Lib.byteCells acc) c.toNat w h (by rw [Lib.byteCells_length]; exact hl) (Nat.le_of_lt h.lt)).mono fun e w' ⟨he, h1, h2⟩ => ⟨he, Bon.of (by rw [Lib.byteCells_append]; exact h1), h2.1⟩
theorem wstr (b : Nat) (acc s : Bs) (w : World) (h : Bon b acc w) (hl : acc.length + s.length ≤ 1000000) :
    Calls Tryz.prog 41 #[.pointer (some ⟨b, 0, none⟩), .string (bA s)] w fun e w' => (∃ x, e = .returned x) ∧ Bon b (acc ++ s) w' ∧ Below b w w' := by
  have hs : (bA s).size = s.length := by rw [← lA_len, lA_bA]
  refine (wstr_any b b (Lib.byteCells acc) (bA s) w h (by rw [Lib.byteCells_length, hs]; omega) (Nat.le_of_lt h.lt)).mono fun e w' ⟨he, h1, h2⟩ => ⟨⟨_, he⟩, Bon.of ?_, h2⟩
  rw [Lib.byteCells_append]
  exact h1
theorem wlen (b : Nat) (acc : Bs) (w : World) (h : Bon b acc w) :
    Calls Tryz.prog 43 #[.pointer (some ⟨b, 0, none⟩)] w fun e w' => e = .returned (.int .i64 acc.length) ∧ w' = w :=
  (Tryz.Builder_Len_f b b (Lib.byteCells acc) w h).mono fun e w' ⟨he, h1⟩ => ⟨by rw [he, Lib.byteCells_length], h1⟩
theorem wstring (b : Nat) (acc : Bs) (w : World) (h : Bon b acc w) :
    Calls Tryz.prog 44 #[.pointer (some ⟨b, 0, none⟩)] w fun e w' => e = .returned (.string (bA acc)) ∧ Below b w w' :=
  (Tryz.Builder_String_any_f b b acc w h (Nat.le_of_lt h.lt)).mono fun e w' ⟨he, _, h2⟩ => ⟨he, h2⟩
/-- Numerals as the cells of a row of strings. -/
def strC (l : List Int) : List Value := l.map fun x => .string (bA (Lib.itoa x))
theorem strC_snoc {l : List Int} {k : Nat} (h : k < l.length) : strC (l.take (k + 1)) = strC (l.take k) ++ [.string (bA (Lib.itoa l[k]))] := by
  unfold strC; rw [List.take_succ_eq_append_getElem h, List.map_append]; rfl
theorem str_info : (Tryz.prog.info? 9).map (fun i => (i.zero, i.size, i.bytes)) = some (some (.string ⟨#[]⟩), 1, 16) := by kernel_rfl
theorem join_lib {base : Nat} {w : World} {x : Int} {l : List Int} {v : Value} (h : w.ownsRow base 9 1 v (x :: l).length (strC (x :: l))) (hl : l.length ≤ 10) (hr : ∀ y ∈ x :: l, -1000000000 ≤ y ∧ y ≤ 1000000000) :
    Calls Tryz.prog 59 #[v, .string ⟨#[44]⟩] w fun e w' => e = .returned (.string (bA (Lib.itoa x ++ argsT l))) ∧ Below w.heap.size w w' := by
  rcases h.2 with ⟨rfl, h0⟩ | ⟨g, cap, cur, rfl, hb, hg, hn, hm, hs, ht⟩
  · simp at h0
  · have hc : ∀ (j : Nat) (y : ByteArray), ((x :: l).map fun x => bA (Lib.itoa x))[j]? = some y → w.cell? ⟨g, 0 + j, none⟩ = some (.string y) := by
      intro j y hy
      have e : (strC (x :: l))[j]? = some (.string y) := by
        unfold strC
        rw [List.getElem?_map] at hy ⊢
        cases hl : (x :: l)[j]? with
        | none => rw [hl] at hy; simp at hy
        | some z => rw [hl] at hy; simp only [Option.map_some, Option.some.injEq] at hy ⊢; rw [hy]
      rw [← ht, List.getElem?_take] at e
      split at e
      · simpa [World.cell?, hg] using e
      · simp at e
    have e1 : ((x :: l).map fun x => bA (Lib.itoa x)).map (·.data.toList) = (x :: l).map Lib.itoa := by
      rw [List.map_map]; rfl
    have e2 : Lib.join (((x :: l).map fun x => bA (Lib.itoa x)).map (·.data.toList)) (ByteArray.mk #[44]).data.toList = Lib.itoa x ++ argsT l := by
      rw [e1]; exact join_args x l
    have hlen : (Lib.itoa x ++ argsT l).length ≤ 1000 := by
      have := itoa_len x (hr x (by simp))
      have := argsT_len l fun y hy => hr y (by simp [hy])
      rw [List.length_append]; omega
    have K := Tryz.strings_Join g 0 cap ((x :: l).map fun x => bA (Lib.itoa x)) ⟨#[44]⟩ w hc (lt_of_block hg) (by rw [List.length_map, List.length_cons]; omega) (by rw [List.length_map]; exact hn) (by rw [e2]; omega)
    rw [e2, List.length_map] at K
    exact K.mono fun e w' h => ⟨h.1, h.2⟩
/-- Where written stands. -/
structure WrAt (w : World) (a : List Int) (k : Nat) (v : Value) (wr : World) : Prop where
  hi : k ≤ a.length
  below : Below w.heap.size w wr
  own : wr.ownsRow w.heap.size 9 1 v k (strC (a.take k))
theorem own_later {w w1 : World} {base n size : Nat} {e : TypeId} {v : Value} {xs : List Value} (h : w.ownsRow base e size v n xs) (hb : Below w.heap.size w w1) : w1.ownsRow base e size v n xs := by
  refine ⟨h.1, ?_⟩
  rcases h.2 with h1 | ⟨g, cap, cur, h1, h2, h3, h4⟩
  · exact .inl h1
  · exact .inr ⟨g, cap, cur, h1, h2, (hb.block g (lt_of_block h3)).trans h3, h4⟩
set_option maxRecDepth 100000 in
set_option maxHeartbeats 1600000 in
theorem written_any (x : Int) (l : List Int) (v : Value) (hl : l.length ≤ 10) (hr : ∀ y ∈ x :: l, -1000000000 ≤ y ∧ y ≤ 1000000000) (w : World) (hv : Ints w v (x :: l)) (he : Env w) :
    Calls Tryz.prog 42 #[v] w fun e w' => e = .returned (.string (bA (Lib.itoa x ++ argsT l))) ∧ Below w.heap.size w w' := by
  obtain ⟨p, cap, rfl⟩ := hv.slice
  have KJ := Lib.hid (fun base w v h => join_lib (base := base) (w := w) (v := v) h hl hr)
  have HV := Lib.hid hv
  have HE := Lib.hid he
  have HR := Lib.hid hr
  obtain ⟨i0, hi, hz0, hz1, hz2⟩ := info_parts str_info
  have HM : Hid (maxLen = 9223372036854775807) := Lib.hid rfl
  obtain ⟨a, ha⟩ : ∃ a, x :: l = a := ⟨_, rfl⟩
  have hal : a.length ≤ 11 := by rw [← ha]; simp; omega
  rw [ha] at KJ HV HR ⊢
  clear hv he hr ha
  go_enter Tryz.func42, Tryz.ntmps42
  go_wp2_with fail
  go_loopw [3, 8] (fun v i wr => ∃ k : Nat, i = .int .i64 k ∧ WrAt w a k v wr) (fun _ i _ => a.length - (intOf i).toNat)
  case atStart => exact ⟨0, rfl, Nat.zero_le _, Below.refl _ _, World.ownsRow_nil _ _ _ _⟩
  case round =>
    obtain ⟨k, rfl, hS⟩ := hrel
    have HS := Lib.hid hS
    have n1 := hS.hi
    have hsz := hS.below.size
    clear hS
    by_cases hlt : k < a.length
    · obtain ⟨b, off, cap', hp, e1, lb⟩ := (HV.out.later HS.out.below).at hlt
      obtain rfl : p = some ⟨b, off, none⟩ := by cases hp; rfl
      have k1 : (k : Int) < (a.length : Int) := by omega
      have hrk := HR.out a[k] (List.getElem_mem hlt)
      have KI := Lib.hid (itoa_lib a[k] (by omega) (by omega) wr (HE.out.later HS.out.below))
      have HX := Lib.hid (strC_snoc hlt)
      generalize a[k] = y at e1 KI HX hrk
      clear hp
      go_wp2_with fail
      refine KI.out.mono ?_
      rintro e w1 ⟨rfl, hb⟩
      have P5 := Lib.hid ((own_later HS.out.own hb).alloc (.cells #[.string (bA (Lib.itoa y))] 9))
      have B1 := Lib.hid (HS.out.below.trans (hb.mono hsz))
      have z1 := B1.out.size
      clear hb
      generalize bA (Lib.itoa y) = ys at P5 HX
      go_wp2_with (at_builtin; refine wpList_append_own _ rfl _ _ 96 rfl w.heap.size 9 i0 (.string ⟨#[]⟩) 1 16 Tryz.underlying96 hi hz0 hz1 hz2 rfl (by decide) u3 k (strC (a.take k)) rfl P5.out ⟨w1.heap.size, 0, none⟩ 1 1 [.string ys] rfl rfl (cell_one_new _ _ _) (by simp [Value.oneCell']) (by rw [HM.out]; omega) (by omega) (by simp; omega) ?_; intro v2 w3 ho2 hg2 hn2)
      have T1 : Hid (WrAt w a (k + 1) v2 w3) := Lib.hid ⟨hlt, (B1.out.alloc z1 _).grown hg2 (by simp; omega) (fun j e => (owns_lt P5.out j e).1), by rw [HX.out]; exact ho2⟩
      clear ho2 hg2 hn2
      go_wp2_with fail
      go_roundw
      case rel => exact ⟨k + 1, by go_num, T1.out⟩
      case measure => simp [intOf]; omega
    · have hk : k = a.length := by omega
      have KJ2 := Lib.hid (KJ.out w.heap.size wr u3 (by have := HS.out.own; rw [hk, List.take_length] at this; exact this))
      have k1 : ¬ (k : Int) < (a.length : Int) := by omega
      clear hk
      go_wp2_with fail
      refine KJ2.out.mono ?_
      rintro e w2 ⟨rfl, hb⟩
      have B2 := Lib.hid (HS.out.below.trans (hb.mono hsz))
      clear hb
      go_wp2_with fail
      go_ret
      exact ⟨rfl, B2.out⟩
end Go.Proofs.YtlmofdmbcddddaaGreatDoor
namespace Go.Proofs.YtlmofdmbcddddaaGreatDoor
open Go.RowKit
open WM
set_option linter.unusedVariables false
set_option linter.unusedSimpArgs false

/-- Text's error and text. -/
def tC (l : List Md) : Int := if chk l ≠ 0 then chk l else if 50000 < (txt l).length then 4 else 0
def tS (l : List Md) : Bs := if tC l = 0 then txt l else []
theorem tC_no {l : List Md} (h : chk l ≠ 0) : tC l = chk l ∧ tS l = [] := by
  have e : tC l = chk l := by unfold tC; rw [if_pos h]
  exact ⟨e, by unfold tS; rw [e, if_neg h]⟩
theorem tC_many {l : List Md} (h : chk l = 0) (h2 : 50000 < (txt l).length) : tC l = 4 ∧ tS l = [] := by
  have e : tC l = 4 := by unfold tC; rw [if_neg (by simp [h]), if_pos h2]
  exact ⟨e, by unfold tS; rw [e, if_neg (by decide)]⟩
theorem tC_yes {l : List Md} (h : chk l = 0) (h2 : ¬ 50000 < (txt l).length) : tC l = 0 ∧ tS l = txt l := by
  have e : tC l = 0 := by unfold tC; rw [if_neg (by simp [h]), if_neg h2]
  exact ⟨e, by unfold tS; rw [if_pos e]⟩
theorem bA_nil : bA [] = ByteArray.empty := rfl
theorem ptext_no (v : Value) (l : List Md) (hmax : l.length ≤ 9223372036854775807) (hargs : ∀ m ∈ l, m.a.length ≤ 9223372036854775807) (h0 : chk l ≠ 0) (w : World) (hv : Mods w v l) :
    Calls Tryz.prog 27 #[v] w fun e w' => e = .returned (.tuple #[.string (bA (tS l)), .int .i64 (tC l)]) ∧ Below w.heap.size w w' := by
  have HV := Lib.hid hv
  have HC := Lib.hid (fun w hv => pcheck_any v l hmax hargs w hv)
  rw [(tC_no h0).1, (tC_no h0).2, bA_nil]
  obtain ⟨c, hc⟩ : ∃ c, chk l = c := ⟨_, rfl⟩
  rw [hc] at HC h0 ⊢
  have h1 : (c != 0) = true := by rw [bne_iff_ne]; exact h0
  clear hv hargs h0 hc
  go_enter Tryz.func27, Tryz.ntmps27
  go_wp2_with fail
  refine (HC.out _ HV.out).mono ?_
  rintro e w1 ⟨rfl, hb⟩
  have B1 := Lib.hid hb
  clear hb
  go_wp2_with fail
  go_ret2
  exact ⟨rfl, B1.out⟩
theorem sandwich (s : Bs) : (⟨#[40]⟩ : ByteArray) ++ bA s ++ ⟨#[41]⟩ = bA (40 :: (s ++ [41])) := by
  apply lA_inj
  rw [lA_bA]
  simp [lA, bA, ByteArray.data_append]
theorem txt_pre {l : List Md} (h : ∀ m ∈ l, fineB m = true) (hl : l.length ≤ 2000) (k : Nat) : (txt (l.take k)).length ≤ 120000 := by
  have := txt_len (l.take k) fun m hm => h m (List.mem_of_mem_take hm)
  rw [List.length_take] at this; omega
theorem modT_nil {m : Md} (h : m.a = []) : modT m = [m.c] := by unfold modT; rw [h]
theorem modT_cons {m : Md} {x : Int} {a : List Int} (h : m.a = x :: a) : modT m = [m.c] ++ (40 :: ((Lib.itoa x ++ argsT a) ++ [41])) := by unfold modT; rw [h]; simp
set_option maxRecDepth 100000 in
set_option maxHeartbeats 3200000 in
theorem ptext_yes (v : Value) (l : List Md) (h0 : chk l = 0) (w : World) (hv : Mods w v l) (he : Env w) :
    Calls Tryz.prog 27 #[v] w fun e w' => e = .returned (.tuple #[.string (bA (tS l)), .int .i64 (tC l)]) ∧ Below w.heap.size w w' := by
  have hmax : l.length ≤ 2000 := (chk_zero.1 h0).1
  have hfine : ∀ m ∈ l, fineB m = true := by have := (chk_zero.1 h0).2.1; simpa using this
  have hargs : ∀ m ∈ l, m.a.length ≤ 4 ∧ rngB m.a = true := fun m hm => by
    have := hfine m hm
    unfold fineB at this
    simp only [Bool.and_eq_true, decide_eq_true_eq] at this
    exact ⟨this.1.1.2, this.2⟩
  obtain ⟨p, cap, rfl⟩ := hv.slice
  have HV := Lib.hid hv
  have HEn := Lib.hid he
  have HC := Lib.hid (fun w hv => pcheck_any (.slice p l.length cap) l (by omega) (fun m hm => by have := (hargs m hm).1; omega) w hv)
  have HA := Lib.hid hargs
  have HP := Lib.hid (fun k => txt_pre hfine hmax k)
  have HML := Lib.hid (fun m hm => modT_len (hfine m hm))
  have HY := Lib.hid (fun h => tC_yes h0 h)
  have HN := Lib.hid (fun h => tC_many h0 h)
  rw [h0] at HC
  clear hv he hargs hfine h0
  go_enter Tryz.func27, Tryz.ntmps27
  go_wp2_with fail
  refine (HC.out _ HV.out).mono ?_
  rintro e w1 ⟨rfl, hb⟩
  have B1 := Lib.hid hb
  have HV1 := Lib.hid (HV.out.later hb)
  have HE1 := Lib.hid (HEn.out.later hb)
  have HF := Lib.hid (Bon.fresh w1)
  have HFB : Hid (Below w1.heap.size w1 (w1.alloc (.cells #[.pointer none, .slice none 0 0] 74))) := Lib.hid ((Below.refl _ _).alloc (Nat.le_refl _) _)
  clear hb
  go_wp2_with fail
  go_loopw [14] (fun i wr => ∃ k : Nat, i = .int .i64 k ∧ k ≤ l.length ∧ Below w1.heap.size w1 wr ∧ Bon w1.heap.size (txt (l.take k)) wr) (fun i _ => l.length - (intOf i).toNat)
  case atStart => exact ⟨0, rfl, Nat.zero_le _, HFB.out, HF.out⟩
  case round =>
    obtain ⟨k, rfl, hk, hB, hO⟩ := hrel
    have HB := Lib.hid hB
    have HO := Lib.hid hO
    have lb := hO.lt
    clear hB hO
    by_cases hlt : k < l.length
    · obtain ⟨b, off, cap', q, c, hp, e1, e2, hin, lb1⟩ := HV1.out.at hlt
      obtain rfl : p = some ⟨b, off, none⟩ := by cases hp; rfl
      have e1 := (HB.out.cell (p := ⟨b, off + k * 2, none⟩) lb1).trans e1
      have e2 := (HB.out.cell (p := ⟨b, off + k * 2 + 1, none⟩) lb1).trans e2
      have lbr := Nat.lt_of_lt_of_le lb1 HB.out.size
      have k1 : (k : Int) < (l.length : Int) := by omega
      have hml := HML.out _ (List.getElem_mem hlt)
      have hpl := HP.out k
      have KB := Lib.hid (wbyte w1.heap.size (txt (l.take k)) l[k].c wr HO.out (by omega))
      have HS := Lib.hid (txt_snoc hlt)
      have ha := HA.out _ (List.getElem_mem hlt)
      clear hp
      cases hcase : l[k].a with
      | nil =>
        have hm := modT_nil hcase
        rw [hm] at HS
        have hz : l[k].a.length = 0 := by rw [hcase]; rfl
        rw [hz] at e2
        clear hcase hm hz hin ha hml
        generalize l[k].c = cc at e1 KB HS
        go_wp2_with fail
        refine KB.out.mono ?_
        rintro e w2 ⟨rfl, ho, hb⟩
        have HO2 := Lib.hid ho
        have HB2 := Lib.hid (HB.out.trans hb)
        have e2 := (hb.cell (p := ⟨b, off + k * 2 + 1, none⟩) lb1).trans e2
        have lb2 := Nat.lt_of_lt_of_le lbr hb.size
        clear ho hb
        go_wp2_with fail
        go_roundw
        case rel => exact ⟨k + 1, by go_num, by omega, HB2.out, by rw [HS.out]; exact HO2.out⟩
        case measure => simp [intOf]; omega
      | cons x a =>
        have hm := modT_cons hcase
        rw [hm] at HS hml
        have hz : l[k].a.length = a.length + 1 := by rw [hcase]; rfl
        have hrg := rngB_iff.1 ha.2
        rw [hcase] at hrg
        have hal := ha.1
        rw [hz] at e2 hal hin
        rw [hcase] at hin
        have HIn := Lib.hid hin
        have HW := Lib.hid (fun w2 hv he => written_any x a (.slice q (a.length + 1) c) (by omega) hrg w2 hv he)
        have z0 : (0 : Int) < ((a.length + 1 : Nat) : Int) := by omega
        have HSw := Lib.hid (sandwich (Lib.itoa x ++ argsT a))
        clear hcase hm hz hin ha hrg
        generalize l[k].c = cc at e1 KB HS hml
        obtain ⟨s, hs⟩ : ∃ s, Lib.itoa x ++ argsT a = s := ⟨_, rfl⟩
        rw [hs] at HW HS HSw hml
        have hsl : s.length ≤ 60 := by simp at hml; omega
        obtain ⟨S, hS⟩ : ∃ S, bA s = S := ⟨_, rfl⟩
        have hSz : S.size ≤ 60 := by rw [← hS, ← lA_len, lA_bA]; exact hsl
        rw [hS] at HW HSw
        clear hs hS
        generalize a.length + 1 = an at e2 HW z0 HIn hal
        go_wp2_with fail
        refine KB.out.mono ?_
        rintro e w2 ⟨rfl, ho, hb⟩
        have HO2 := Lib.hid ho
        have HB2 := Lib.hid (HB.out.trans hb)
        have e2 := (hb.cell (p := ⟨b, off + k * 2 + 1, none⟩) lb1).trans e2
        have lb2 := Nat.lt_of_lt_of_le lbr hb.size
        clear ho
        go_wp2_with fail
        refine (HW.out w2 (HIn.out.later HB2.out) (HE1.out.later HB2.out)).mono ?_
        rintro e w3 ⟨rfl, hb⟩
        have HO3 := Lib.hid (HO2.out.later hb)
        have HB3 := Lib.hid (HB2.out.trans (hb.mono HB2.out.size))
        have KS := Lib.hid (wstr w1.heap.size (txt (l.take k) ++ [cc]) (40 :: (s ++ [41])) w3 HO3.out (by simp; omega))
        rw [← HSw.out] at KS
        clear hb HSw
        go_wp2_with fail
        refine KS.out.mono ?_
        rintro e w4 ⟨⟨xx, rfl⟩, ho, hb⟩
        have HO4 := Lib.hid ho
        have HB4 := Lib.hid (HB3.out.trans hb)
        clear ho hb
        go_wp2_with fail
        go_roundw
        case rel => exact ⟨k + 1, by go_num, by omega, HB4.out, by rw [HS.out, ← List.append_assoc]; exact HO4.out⟩
        case measure => simp [intOf]; omega
    · have hkl : k = l.length := by omega
      have k1 : ¬ (k : Int) < (l.length : Int) := by omega
      rw [hkl, List.take_length] at HO
      have KL := Lib.hid (wlen w1.heap.size (txt l) wr HO.out)
      have KS := Lib.hid (wstring w1.heap.size (txt l) wr HO.out)
      have HB2 := Lib.hid (B1.out.trans (HB.out.mono B1.out.size))
      have hpl := HP.out l.length
      rw [List.take_length] at hpl
      clear hkl HP
      by_cases hlen : 50000 < (txt l).length
      · have HE2 := Lib.hid (HN.out hlen)
        have c1 : (50000 : Int) < ((txt l).length : Int) := by omega
        clear hlen
        generalize (txt l).length = tl at KL c1 hpl
        go_wp2_with fail
        refine KL.out.mono ?_
        rintro e wx ⟨rfl, rfl⟩
        go_wp2_with fail
        go_ret2
        refine ⟨?_, HB2.out⟩
        rw [HE2.out.1, HE2.out.2]; rfl
      · have HE2 := Lib.hid (HY.out hlen)
        have c1 : ¬ (50000 : Int) < ((txt l).length : Int) := by omega
        clear hlen
        generalize (txt l).length = tl at KL c1 hpl
        go_wp2_with fail
        refine KL.out.mono ?_
        rintro e wx ⟨rfl, rfl⟩
        go_wp2_with fail
        refine KS.out.mono ?_
        rintro e w2 ⟨rfl, hb⟩
        have HB3 := Lib.hid (HB2.out.trans (hb.mono (Nat.le_trans B1.out.size (Nat.le_refl _))))
        clear hb
        go_wp2_with fail
        go_ret2
        refine ⟨?_, HB3.out⟩
        rw [HE2.out.1, HE2.out.2]; rfl
theorem ptext_any (v : Value) (l : List Md) (hmax : l.length ≤ 9223372036854775807) (hargs : ∀ m ∈ l, m.a.length ≤ 9223372036854775807) (w : World) (hv : Mods w v l) (he : Env w) :
    Calls Tryz.prog 27 #[v] w fun e w' => e = .returned (.tuple #[.string (bA (tS l)), .int .i64 (tC l)]) ∧ Below w.heap.size w w' := by
  by_cases h0 : chk l = 0
  · exact ptext_yes v l h0 w hv he
  · exact ptext_no v l hmax hargs h0 w hv
end Go.Proofs.YtlmofdmbcddddaaGreatDoor
namespace Go.Proofs.YtlmofdmbcddddaaGreatDoor
open Go.RowKit
open WM
set_option linter.unusedVariables false
set_option linter.unusedSimpArgs false

theorem looseM_len : ∀ (n : Nat) (s : Bs), s.length ≤ n → (looseM s).length ≤ s.length ∧ ∀ m ∈ looseM s, m.a.length ≤ s.length + 1 := by
  intro n
  induction n with
  | zero =>
    intro s hs
    have : s = [] := List.length_eq_zero_iff.1 (by omega)
    subst this; rw [looseM_nil]; simp
  | succ n ih =>
    intro s hs
    cases s with
    | nil => rw [looseM_nil]; simp
    | cons c t =>
      simp at hs
      by_cases h : t.head? = some 40
      · rw [looseM_arg h]
        have h1 := cut_rest t.tail 41
        have h2 := cut_len t.tail 41
        have h3 : t.tail.length ≤ t.length := by simp
        obtain ⟨i1, i2⟩ := ih (Lib.cut t.tail [41]).2.1 (by omega)
        refine ⟨by simp; omega, fun m hm => ?_⟩
        rcases List.mem_cons.1 hm with e | e
        · subst e
          have h4 := pcs_len (Lib.cut t.tail [41]).1
          show (looseA (Lib.cut t.tail [41]).1).length ≤ _
          rw [looseA_length]; simp; omega
        · have := i2 m e; simp; omega
      · rw [looseM_bare h]
        obtain ⟨i1, i2⟩ := ih t (by omega)
        refine ⟨by simp; omega, fun m hm => ?_⟩
        rcases List.mem_cons.1 hm with e | e
        · subst e; simp
        · have := i2 m e; simp; omega
/-- Parse's error and word. -/
def pC (s : Bs) : Int := if 50000 < s.length then 12 else if (prs s).isSome = true then 0 else 12
def pL (s : Bs) : List Md := if 50000 < s.length then [] else (prs s).getD []
theorem pC_long {s : Bs} (h : 50000 < s.length) : pC s = 12 ∧ pL s = [] := by
  unfold pC pL; rw [if_pos h, if_pos h]; exact ⟨rfl, rfl⟩
theorem pC_none {s : Bs} (h : ¬ 50000 < s.length) (h2 : prs s = none) : pC s = 12 ∧ pL s = [] := by
  unfold pC pL; rw [if_neg h, if_neg h, h2]; exact ⟨rfl, rfl⟩
theorem pC_some {s : Bs} {w : List Md} (h : ¬ 50000 < s.length) (h2 : prs s = some w) : pC s = 0 ∧ pL s = w := by
  unfold pC pL; rw [if_neg h, if_neg h, h2]; exact ⟨rfl, rfl⟩
theorem prs_loose {s : Bs} (h1 : tC (looseM s) = 0) (h2 : txt (looseM s) = s) : prs s = some (looseM s) := by
  refine prs_iff.2 ⟨?_, h2⟩
  by_cases h : chk (looseM s) = 0
  · exact h
  · rw [(tC_no h).1] at h1; exact absurd h1 h
theorem prs_not {s : Bs} (hs : ¬ 50000 < s.length) (h : tC (looseM s) ≠ 0 ∨ txt (looseM s) ≠ s) : prs s = none := by
  cases hp : prs s with
  | none => rfl
  | some w =>
    exfalso
    have e := loose_prs hp
    obtain ⟨h1, h2⟩ := prs_iff.1 hp
    rw [e] at h
    rcases h with h | h
    · rw [(tC_yes h1 (by rw [h2]; exact hs)).1] at h; exact h rfl
    · exact h h2
/-- How Parse ends. -/
def PsEnd (s : Bs) (w : World) (e : Ending) (w' : World) : Prop := ∃ v vs, e = .returned (.tuple #[v, .int .i64 (pC s)]) ∧ Below w.heap.size w w' ∧ ModFr w' w.heap.size v (pL s) vs
set_option maxRecDepth 100000 in
set_option maxHeartbeats 1600000 in
theorem pparse_any (s : ByteArray) (hs : s.size ≤ 9223372036854775807) (w : World) (he : Env w) :
    Calls Tryz.prog 24 #[.string s] w (PsEnd (lA s) w) := by
  by_cases hlong : 50000 < s.size
  · have hl : 50000 < (lA s).length := by rw [lA_len]; exact hlong
    have HE : Hid (PsEnd (lA s) w (.returned (.tuple #[.slice none 0 0, .int .i64 12])) w) := Lib.hid ⟨_, [], by rw [(pC_long hl).1], Below.refl _ _, by rw [(pC_long hl).2]; exact modFr_nil _ _⟩
    have c1 : (50000 : Int) < (s.size : Int) := by omega
    clear hl
    go_enter Tryz.func24, Tryz.ntmps24
    go_wp2_with fail
    go_ret2
    exact HE.out
  · have hl : ¬ 50000 < (lA s).length := by rw [lA_len]; exact hlong
    have c1 : ¬ (50000 : Int) < (s.size : Int) := by omega
    have KL := Lib.hid (loose_any s (by omega) w he)
    have HEn := Lib.hid he
    obtain ⟨b1, b2⟩ := looseM_len _ (lA s) (Nat.le_refl _)
    have KT := Lib.hid (fun v w hv he => ptext_any v (looseM (lA s)) (by omega) (fun m hm => by have := b2 m hm; omega) w hv he)
    have HNo : Hid (∀ w', Below w.heap.size w w' → (tC (looseM (lA s)) ≠ 0 ∨ txt (looseM (lA s)) ≠ lA s) → PsEnd (lA s) w (.returned (.tuple #[.slice none 0 0, .int .i64 12])) w') := Lib.hid (fun w' hb h => by
      have hp := prs_not hl h
      exact ⟨_, [], by rw [(pC_none hl hp).1], hb, by rw [(pC_none hl hp).2]; exact modFr_nil _ _⟩)
    have HYes : Hid (∀ w' v vs, Below w.heap.size w w' → tC (looseM (lA s)) = 0 → txt (looseM (lA s)) = lA s → ModFr w' w.heap.size v (looseM (lA s)) vs → PsEnd (lA s) w (.returned (.tuple #[v, .int .i64 0])) w') := Lib.hid (fun w' v vs hb h1 h2 hm => by
      have hp := prs_loose h1 h2
      exact ⟨v, vs, by rw [(pC_some hl hp).1], hb, by rw [(pC_some hl hp).2]; exact hm⟩)
    have HTS : Hid (tC (looseM (lA s)) = 0 → tS (looseM (lA s)) = txt (looseM (lA s))) := Lib.hid (fun h => by unfold tS; rw [if_pos h])
    clear he b1 b2 hl hlong
    generalize looseM (lA s) = L at KL KT HNo HYes HTS
    obtain ⟨x, hx⟩ : ∃ x, tC L = x := ⟨_, rfl⟩
    rw [hx] at KT HNo HYes HTS
    clear hx
    by_cases h0 : x = 0
    · subst h0
      rw [HTS.out rfl] at KT
      have HNo := Lib.hid (fun w' hb h => HNo.out w' hb (.inr h))
      have HYes := Lib.hid (fun w' v vs hb h hm => HYes.out w' v vs hb rfl h hm)
      by_cases ht : txt L = lA s
      · have hbt : bA (txt L) = s := by rw [ht]; rfl
        rw [hbt] at KT
        have HY := Lib.hid (fun w' v vs hb hm => HYes.out w' v vs hb ht hm)
        have hq : (!(s.toList == s.toList)) = false := by simp
        clear ht hbt HNo HYes
        go_enter Tryz.func24, Tryz.ntmps24
        go_wp2_with fail
        refine KL.out.mono ?_
        rintro e w1 ⟨v, vs, rfl, hb, hm⟩
        have B1 := Lib.hid hb
        have M1 := Lib.hid hm
        have HE1 := Lib.hid (HEn.out.later hb)
        clear hb hm
        go_wp2_with fail
        refine (KT.out _ _ M1.out.mods HE1.out).mono ?_
        rintro e w2 ⟨rfl, hb⟩
        have B2 := Lib.hid (B1.out.trans (hb.mono B1.out.size))
        have M2 := Lib.hid (M1.out.later hb)
        clear hb
        go_wp2_with fail
        go_ret2
        exact HY.out _ _ _ B2.out M2.out
      · have hq : (!((bA (txt L)).toList == s.toList)) = true := by
          have : (bA (txt L)).toList ≠ s.toList := fun e => by
            rw [ByteArray.toList_eq, ByteArray.toList_eq] at e
            apply ht
            have e2 : (bA (txt L)).data.toList = txt L := lA_bA _
            rw [← e2]; exact e
          simpa using this
        have HN := Lib.hid (fun w' hb => HNo.out w' hb ht)
        clear ht HNo HYes
        generalize bA (txt L) = S at KT hq
        go_enter Tryz.func24, Tryz.ntmps24
        go_wp2_with fail
        refine KL.out.mono ?_
        rintro e w1 ⟨v, vs, rfl, hb, hm⟩
        have B1 := Lib.hid hb
        have M1 := Lib.hid hm
        have HE1 := Lib.hid (HEn.out.later hb)
        clear hb hm
        go_wp2_with fail
        refine (KT.out _ _ M1.out.mods HE1.out).mono ?_
        rintro e w2 ⟨rfl, hb⟩
        have B2 := Lib.hid (B1.out.trans (hb.mono B1.out.size))
        clear hb
        go_wp2_with fail
        go_ret2
        exact HN.out _ B2.out
    · have h1 : (x != 0) = true := by rw [bne_iff_ne]; exact h0
      have HN := Lib.hid (fun w' hb => HNo.out w' hb (.inl h0))
      clear h0 HNo HYes HTS
      go_enter Tryz.func24, Tryz.ntmps24
      go_wp2_with fail
      refine KL.out.mono ?_
      rintro e w1 ⟨v, vs, rfl, hb, hm⟩
      have B1 := Lib.hid hb
      have M1 := Lib.hid hm
      have HE1 := Lib.hid (HEn.out.later hb)
      clear hb hm
      go_wp2_with fail
      refine (KT.out _ _ M1.out.mods HE1.out).mono ?_
      rintro e w2 ⟨rfl, hb⟩
      have B2 := Lib.hid (B1.out.trans (hb.mono B1.out.size))
      clear hb
      go_wp2_with fail
      go_ret2
      exact HN.out _ B2.out
end Go.Proofs.YtlmofdmbcddddaaGreatDoor
namespace Go.Proofs.YtlmofdmbcddddaaGreatDoor
open WM
set_option linter.unusedVariables false
set_option linter.unusedSimpArgs false
namespace RM

structure Fm where
  k : Int
  cs : List Int
  deriving DecidableEq
structure Sh where
  c : UInt8
  a : List Fm
  deriving DecidableEq
structure Rw where
  c : UInt8
  ar : Int
  l : UInt8
  r : UInt8
  gs : List Fm
  wt : Int
  out : List Sh
  deriving DecidableEq
def coefB (x : Int) : Bool := decide (-1000000 ≤ x) && decide (x ≤ 1000000)
theorem coefB_iff {x : Int} : coefB x = true ↔ -1000000 ≤ x ∧ x ≤ 1000000 := by simp [coefB]
/-- Is a form valid for a number of arguments? -/
def formB (f : Fm) (n : Int) : Bool := coefB f.k && decide ((f.cs.length : Int) = n) && f.cs.all coefB
/-- The module that a shape is like, its args 0. -/
def shM (s : Sh) : Md := ⟨s.c, List.replicate s.a.length 0⟩
def shB (s : Sh) (n : Int) : Bool := fineB (shM s) && s.a.all (formB · n)
/-- Is a rule valid in what the layers share? -/
def ruleB (r : Rw) : Bool := letB r.c && !(braB r.c) && decide (0 ≤ r.ar) && decide (r.ar ≤ 4) && r.gs.all (formB · r.ar) && r.out.all (shB · r.ar) && decide (chk (r.out.map shM) = 0)
def plainB (r : Rw) : Bool := r.l == 0 && r.r == 0 && decide (r.wt = 0)
def manyB (l : List Rw) : Bool := decide (40 < l.length) || l.any fun r => decide (4 < r.gs.length) || decide (20 < r.out.length)
/-- Check. -/
def rchk (l : List Rw) : Int := if manyB l = true then 4 else if l.all (fun r => ruleB r && plainB r) = true then 0 else 8
def wor : Int → List Int → List Int → Int
  | n, _, [] => n
  | n, [], _ :: _ => n
  | n, c :: cs, x :: xs => wor (n + c * x) cs xs
/-- A form's value. -/
def worth (f : Fm) (x : List Int) : Int := wor f.k f.cs x
theorem wor_snoc : ∀ (n : Int) (cs xs : List Int) (c x : Int), cs.length = xs.length → wor n (cs ++ [c]) (xs ++ [x]) = wor n cs xs + c * x
  | n, [], [], c, x, _ => by simp [wor]
  | n, c' :: cs, x' :: xs, c, x, h => by
    simp only [List.cons_append, wor]
    exact wor_snoc _ cs xs c x (by simpa using h)
  | n, [], _ :: _, _, _, h => by simp at h
  | n, _ :: _, [], _, _, h => by simp at h
theorem take_snoc {l : List Int} {k : Nat} (h : k < l.length) : l.take (k + 1) = l.take k ++ [l[k]] := List.take_succ_eq_append_getElem h
theorem wor_take {n : Int} {cs xs : List Int} (hl : cs.length = xs.length) {k : Nat} (h : k < xs.length) : wor n (cs.take (k + 1)) (xs.take (k + 1)) = wor n (cs.take k) (xs.take k) + cs[k]'(by omega) * xs[k] := by
  rw [take_snoc (l := cs) (by omega), take_snoc h]
  exact wor_snoc _ _ _ _ _ (by rw [List.length_take, List.length_take]; omega)
theorem mul_rng {c x : Int} (hc : -1000000 ≤ c ∧ c ≤ 1000000) (hx : -1000000000 ≤ x ∧ x ≤ 1000000000) : -1000000000000000 ≤ c * x ∧ c * x ≤ 1000000000000000 := by
  have key : ∀ a b : Int, -1000000 ≤ a → a ≤ 1000000 → 0 ≤ b → b ≤ 1000000000 → -1000000000000000 ≤ a * b ∧ a * b ≤ 1000000000000000 := by
    intro a b h1 h2 h3 h4
    have e1 : a * b ≤ 1000000 * b := Int.mul_le_mul_of_nonneg_right h2 h3
    have e2 : -1000000 * b ≤ a * b := Int.mul_le_mul_of_nonneg_right h1 h3
    omega
  by_cases h : 0 ≤ x
  · exact key c x hc.1 hc.2 h hx.2
  · have := key c (-x) hc.1 hc.2 (by omega) (by omega)
    rw [Int.mul_neg] at this
    omega
/-- The sum stays small at each step. -/
theorem wor_rng {n : Int} {cs xs : List Int} (hl : cs.length = xs.length) (hn : coefB n = true) (hc : cs.all coefB = true) (hx : ∀ x ∈ xs, -1000000000 ≤ x ∧ x ≤ 1000000000) :
    ∀ k, k ≤ xs.length → -1000000 - k * 1000000000000000 ≤ wor n (cs.take k) (xs.take k) ∧ wor n (cs.take k) (xs.take k) ≤ 1000000 + k * 1000000000000000 := by
  intro k
  induction k with
  | zero => intro _; have := coefB_iff.1 hn; simp [wor]; omega
  | succ k ih =>
    intro hk
    have h1 := ih (by omega)
    rw [wor_take hl (by omega)]
    have h2 := mul_rng (coefB_iff.1 (List.all_eq_true.1 hc _ (List.getElem_mem (show k < cs.length by omega)))) (hx _ (List.getElem_mem (show k < xs.length by omega)))
    omega
/-- Does a rule fit a module? -/
def fitB (r : Rw) (m : Md) : Bool := r.c == m.c && decide (r.ar = (m.a.length : Int)) && r.gs.all fun g => decide (0 ≤ worth g m.a)
/-- The first rule that fits from an index on, or -1. -/
def firstF : List Rw → Md → Int → Int
  | [], _, _ => -1
  | r :: l, m, i => if fitB r m = true then i else firstF l m (i + 1)
def first (l : List Rw) (m : Md) : Int := firstF l m 0
theorem firstF_rng : ∀ (l : List Rw) (m : Md) (i : Int), firstF l m i = -1 ∨ (i ≤ firstF l m i ∧ firstF l m i < i + l.length)
  | [], _, _ => .inl rfl
  | r :: l, m, i => by
    unfold firstF
    split
    · right; simp; omega
    · rcases firstF_rng l m (i + 1) with h | h
      · exact .inl h
      · right; simp; omega
theorem firstF_drop {l : List Rw} {m : Md} {k : Nat} (hk : k < l.length) : firstF (l.drop k) m (k : Int) = if fitB l[k] m = true then (k : Int) else firstF (l.drop (k + 1)) m ((k + 1 : Nat) : Int) := by
  rw [List.drop_eq_getElem_cons hk, firstF]
  rfl
theorem firstF_end {l : List Rw} {m : Md} {k : Nat} (hk : l.length ≤ k) : firstF (l.drop k) m (k : Int) = -1 := by
  rw [List.drop_of_length_le hk]; rfl
/-- Find's error and index. -/
def finC (l : List Rw) (m : Md) : Int := if rchk l ≠ 0 then rchk l else if fineB m = true then 0 else 8
def finV (l : List Rw) (m : Md) : Int := if finC l m = 0 then first l m else 0
/-- Value's error and number. -/
def vaC (f : Fm) (x : List Int) : Int :=
  if 4 < x.length ∨ formB f (x.length : Int) = false ∨ fineB ⟨70, x⟩ = false then 8 else if -1000000000 ≤ worth f x ∧ worth f x ≤ 1000000000 then 0 else 16
def vaV (f : Fm) (x : List Int) : Int := if vaC f x = 0 then worth f x else 0
/-- What a shape becomes. -/
def mkM (s : Sh) (x : List Int) : Md := ⟨s.c, s.a.map (worth · x)⟩
def argB (x : Int) : Bool := decide (-1000000000 ≤ x) && decide (x ≤ 1000000000)
def mkB (s : Sh) (x : List Int) : Bool := s.a.all fun f => argB (worth f x)
/-- What a rule makes of a module. -/
def made (r : Rw) (m : Md) : Option (List Md) := if r.out.all (mkB · m.a) = true then some (r.out.map (mkM · m.a)) else none
/-- A module's successor. -/
def succM (l : List Rw) (m : Md) : Option (List Md) := if h : 0 ≤ first l m then (match l[(first l m).toNat]? with | some r => made r m | none => none) else some [m]
/-- A word's successor, before its length is looked at. -/
def stepL (l : List Rw) : List Md → Option (List Md)
  | [] => some []
  | m :: w => match succM l m, stepL l w with
    | some a, some b => some (a ++ b)
    | _, _ => none
theorem stepL_app (l : List Rw) : ∀ a b : List Md, stepL l (a ++ b) = (match stepL l a, stepL l b with | some x, some y => some (x ++ y) | _, _ => none)
  | [], b => by
    simp only [List.nil_append, stepL]
    cases stepL l b <;> rfl
  | m :: a, b => by
    simp only [List.cons_append, stepL]
    rw [stepL_app l a b]
    cases succM l m <;> cases stepL l a <;> cases stepL l b <;> simp
theorem stepL_one (l : List Rw) (m : Md) : stepL l [m] = succM l m := by
  simp only [stepL]
  cases succM l m <;> simp
/-- Step's error and word. -/
def stC (l : List Rw) (w : List Md) : Int := if rchk l ≠ 0 then rchk l else if chk w ≠ 0 then chk w else match stepL l w with
  | none => 16
  | some v => if 2000 < v.length then 4 else 0
def stL (l : List Rw) (w : List Md) : List Md := if stC l w = 0 then (stepL l w).getD [] else []
/-- Run's error and word. -/
def runF (l : List Rw) : Nat → List Md → Int × List Md
  | 0, w => (0, w)
  | n + 1, w => if stC l w ≠ 0 then (stC l w, []) else runF l n (stL l w)
def ruC (l : List Rw) (w : List Md) (n : Int) : Int := if rchk l ≠ 0 then rchk l else if chk w ≠ 0 then chk w else if n < 0 ∨ 30 < n then 2 else (runF l n.toNat w).1
def ruL (l : List Rw) (w : List Md) (n : Int) : List Md := if ruC l w n = 0 then (runF l n.toNat w).2 else []
def greatR (l : List Rw) : Bool := decide (50 < l.length) || l.any fun r => decide (10 < r.gs.length) || decide (30 < r.out.length) || r.gs.any (fun g => decide (10 < g.cs.length)) || r.out.any (fun s => decide (10 < s.a.length) || s.a.any (fun g => decide (10 < g.cs.length)))
end RM
end Go.Proofs.YtlmofdmbcddddaaGreatDoor
namespace Go.Proofs.YtlmofdmbcddddaaGreatDoor
open WM RM
set_option linter.unusedVariables false
set_option linter.unusedSimpArgs false
namespace CM

abbrev md (u : List Md) (k : Nat) : Md := u.getD k ⟨0, []⟩
theorem md_get {u : List Md} {k : Nat} (h : k < u.length) : md u k = u[k] := by simp [md, List.getD, h]
def hasB (s : Bs) (c : UInt8) : Bool := s.any (· == c)
def plnB (c : UInt8) : Bool := letB c && !(braB c)
theorem pln_no {c : UInt8} (h : plnB c = true) : c ≠ 91 ∧ c ≠ 93 := by
  unfold plnB braB at h
  constructor <;> (rintro rfl; simp at h)
/-- The names of what is ignored, up to a place. -/
def ignU (s : Bs) (k : Nat) : Bool := (List.range k).all fun i => plnB (s.getD i 0) && !(hasB (s.take i) (s.getD i 0))
theorem ignU_zero (s : Bs) : ignU s 0 = true := rfl
theorem ignU_succ (s : Bs) (k : Nat) : ignU s (k + 1) = (ignU s k && (plnB (s.getD k 0) && !(hasB (s.take k) (s.getD k 0)))) := by simp [ignU, List.range_succ]
theorem ignU_mono {s : Bs} {j k : Nat} (h : j ≤ k) (hk : ignU s k = true) : ignU s j = true := by
  unfold ignU at *
  rw [List.all_eq_true] at *
  intro i hi
  exact hk i (by rw [List.mem_range] at *; omega)
def ignB (s : Bs) : Bool := decide (s.length ≤ 20) && ignU s s.length
theorem ign_pln {s : Bs} (h : ignU s s.length = true) {c : UInt8} (hc : hasB s c = true) : plnB c = true := by
  unfold hasB at hc
  rw [List.any_eq_true] at hc
  obtain ⟨x, hx, he⟩ := hc
  obtain ⟨i, hi, rfl⟩ := List.mem_iff_getElem.1 hx
  have h1 := ignU_mono (j := i + 1) (by omega) h
  rw [ignU_succ] at h1
  simp only [Bool.and_eq_true] at h1
  have h2 := h1.2.1
  rw [show s.getD i 0 = s[i] by simp [List.getD, hi]] at h2
  rw [← beq_iff_eq.1 he]; exact h2
/-- Going to the left from a place, out of so many branches that are passed. -/
def bfF (g : Bs) (u : List Md) : Nat → Int → Int
  | 0, _ => -1
  | k + 1, c =>
    if (md u k).c = 93 then bfF g u k (c + 1)
    else if (md u k).c = 91 then bfF g u k (if 0 < c then c - 1 else c)
    else if c = 0 ∧ hasB g (md u k).c = false then (k : Int)
    else bfF g u k c
def bef (g : Bs) (u : List Md) (i : Nat) : Int := bfF g u i 0
/-- Going to the right. -/
def bhF (g : Bs) : List Md → Nat → Int → Int
  | [], _, _ => -1
  | m :: l, k, o =>
    if m.c = 91 then bhF g l (k + 1) (o + 1)
    else if m.c = 93 then (if o = 0 then -1 else bhF g l (k + 1) (o - 1))
    else if o = 0 ∧ hasB g m.c = false then (k : Int)
    else bhF g l (k + 1) o
def bhd (g : Bs) (u : List Md) (k : Nat) (o : Int) : Int := bhF g (u.drop k) k o
def beh (g : Bs) (u : List Md) (i : Nat) : Int := bhd g u (i + 1) 0
section
variable {g : Bs} {u : List Md} {k : Nat} {c : Int}
theorem bf_zero : bfF g u 0 c = -1 := rfl
theorem bf_close (h : (md u k).c = 93) : bfF g u (k + 1) c = bfF g u k (c + 1) := by rw [bfF, if_pos h]
theorem bf_open (h : (md u k).c = 91) (hc : 0 < c) : bfF g u (k + 1) c = bfF g u k (c - 1) := by
  rw [bfF, if_neg (by rw [h]; decide), if_pos h, if_pos hc]
theorem bf_open0 (h : (md u k).c = 91) : bfF g u (k + 1) 0 = bfF g u k 0 := by
  rw [bfF, if_neg (by rw [h]; decide), if_pos h, if_neg (by omega)]
theorem bf_stop (h1 : (md u k).c ≠ 93) (h2 : (md u k).c ≠ 91) (h : hasB g (md u k).c = false) : bfF g u (k + 1) 0 = k := by
  rw [bfF, if_neg h1, if_neg h2, if_pos ⟨rfl, h⟩]
theorem bf_pass (h1 : (md u k).c ≠ 93) (h2 : (md u k).c ≠ 91) (h : c ≠ 0 ∨ hasB g (md u k).c = true) : bfF g u (k + 1) c = bfF g u k c := by
  rw [bfF, if_neg h1, if_neg h2, if_neg]
  rintro ⟨a, b⟩
  rcases h with h | h
  · exact h a
  · rw [h] at b; simp at b
theorem bh_out (h : u.length ≤ k) : bhd g u k c = -1 := by unfold bhd; rw [List.drop_of_length_le h]; rfl
theorem bh_cons (h : k < u.length) : bhd g u k c = bhF g (u[k] :: u.drop (k + 1)) k c := by unfold bhd; rw [List.drop_eq_getElem_cons h]
theorem bh_open (hk : k < u.length) (h : (md u k).c = 91) : bhd g u k c = bhd g u (k + 1) (c + 1) := by
  rw [md_get hk] at h
  rw [bh_cons hk, bhF, if_pos h]; rfl
theorem bh_end (hk : k < u.length) (h : (md u k).c = 93) : bhd g u k 0 = -1 := by
  rw [md_get hk] at h
  rw [bh_cons hk, bhF, if_neg (by rw [h]; decide), if_pos h, if_pos rfl]
theorem bh_close (hk : k < u.length) (h : (md u k).c = 93) (hc : c ≠ 0) : bhd g u k c = bhd g u (k + 1) (c - 1) := by
  rw [md_get hk] at h
  rw [bh_cons hk, bhF, if_neg (by rw [h]; decide), if_pos h, if_neg hc]; rfl
theorem bh_stop (hk : k < u.length) (h1 : (md u k).c ≠ 93) (h2 : (md u k).c ≠ 91) (h : hasB g (md u k).c = false) : bhd g u k 0 = k := by
  rw [md_get hk] at h h1 h2
  rw [bh_cons hk, bhF, if_neg h2, if_neg h1, if_pos ⟨rfl, h⟩]
theorem bh_pass (hk : k < u.length) (h1 : (md u k).c ≠ 93) (h2 : (md u k).c ≠ 91) (h : c ≠ 0 ∨ hasB g (md u k).c = true) : bhd g u k c = bhd g u (k + 1) c := by
  rw [md_get hk] at h h1 h2
  rw [bh_cons hk, bhF, if_neg h2, if_neg h1, if_neg]
  · rfl
  · rintro ⟨a, b⟩
    rcases h with h | h
    · exact h a
    · rw [h] at b; simp at b
end
/-- The brackets that are open in front of a place, the last one first. -/
def stk (u : List Md) : Nat → List Nat
  | 0 => []
  | k + 1 => if (md u k).c = 91 then k :: stk u k else if (md u k).c = 93 then (stk u k).tail else stk u k
section
variable {u : List Md} {k : Nat}
theorem stk_open (h : (md u k).c = 91) : stk u (k + 1) = k :: stk u k := by rw [stk, if_pos h]
theorem stk_close (h : (md u k).c = 93) : stk u (k + 1) = (stk u k).tail := by rw [stk, if_neg (by rw [h]; decide), if_pos h]
theorem stk_else (h1 : (md u k).c ≠ 93) (h2 : (md u k).c ≠ 91) : stk u (k + 1) = stk u k := by rw [stk, if_neg h2, if_neg h1]
theorem stk_lt (u : List Md) : ∀ k, ∀ j ∈ stk u k, j < k ∧ (md u j).c = 91
  | 0, j, h => by simp [stk] at h
  | k + 1, j, h => by
    by_cases h1 : (md u k).c = 91
    · rw [stk_open h1, List.mem_cons] at h
      rcases h with rfl | h
      · exact ⟨by omega, h1⟩
      · have := stk_lt u k j h; exact ⟨by omega, this.2⟩
    · by_cases h2 : (md u k).c = 93
      · rw [stk_close h2] at h
        have := stk_lt u k j (List.mem_of_mem_tail h); exact ⟨by omega, this.2⟩
      · rw [stk_else h2 h1] at h
        have := stk_lt u k j h; exact ⟨by omega, this.2⟩
theorem stk_pw (u : List Md) : ∀ k, (stk u k).Pairwise (fun a b => b < a)
  | 0 => by simp [stk]
  | k + 1 => by
    by_cases h1 : (md u k).c = 91
    · rw [stk_open h1, List.pairwise_cons]
      exact ⟨fun a ha => (stk_lt u k a ha).1, stk_pw u k⟩
    · by_cases h2 : (md u k).c = 93
      · rw [stk_close h2]; exact (stk_pw u k).tail
      · rw [stk_else h2 h1]; exact stk_pw u k
theorem stk_len {u : List Md} (hu : okB u u.length = true) : ∀ k, k ≤ u.length → ((stk u k).length : Int) = dep (u.take k)
  | 0, _ => by simp [stk, dep_nil]
  | k + 1, h => by
    have hk : k < u.length := h
    have ih := stk_len hu k (by omega)
    have hd := dep_snoc hk
    have h0 := okB_iff.1 hu k hk
    by_cases h1 : (md u k).c = 91
    · rw [stk_open h1]
      rw [md_get hk] at h1
      rw [hd]; unfold dlt; rw [if_pos h1]; simp; omega
    · by_cases h2 : (md u k).c = 93
      · rw [stk_close h2]
        rw [md_get hk] at h1 h2
        have : dlt u[k] = -1 := by unfold dlt; rw [if_neg h1, if_pos h2]
        rw [List.length_tail]; omega
      · rw [stk_else h2 h1]
        rw [md_get hk] at h1 h2
        have : dlt u[k] = 0 := by unfold dlt; rw [if_neg h1, if_neg h2]
        omega
theorem stk_top {u : List Md} (hu : okB u u.length = true) {k : Nat} (hk : k < u.length) (h : (md u k).c = 93) : ∃ j rest, stk u k = j :: rest ∧ stk u (k + 1) = rest ∧ j < k ∧ (md u j).c = 91 := by
  have h1 := stk_len hu k (by omega)
  have h2 := stk_len hu (k + 1) (by omega)
  have hd := dep_snoc hk
  have h0 := okB_iff.1 hu k hk
  rw [md_get hk] at h
  have : dlt u[k] = -1 := by unfold dlt; rw [if_neg (by rw [h]; decide), if_pos h]
  cases hs : stk u k with
  | nil => rw [hs] at h1; simp at h1; omega
  | cons j rest =>
    have := stk_lt u k j (by rw [hs]; simp)
    exact ⟨j, rest, rfl, by rw [stk_close (by rw [md_get hk]; exact h), hs]; rfl, this.1, this.2⟩
theorem stk_end {u : List Md} (hu : okB u u.length = true) (h0 : dep u = 0) : stk u u.length = [] := by
  have := stk_len hu u.length (by omega)
  rw [List.take_length, h0] at this
  exact List.length_eq_zero_iff.1 (by omega)
theorem gone {u : List Md} {p j : Nat} {rest : List Nat} (h : stk u p = j :: rest) (hp : (md u p).c = 93) : ∀ d, j ∉ stk u (p + 1 + d)
  | 0 => by
    have hpw := stk_pw u p
    rw [h, List.pairwise_cons] at hpw
    rw [Nat.add_zero, stk_close hp, h]
    intro hj
    have := hpw.1 j hj
    omega
  | d + 1 => by
    have ih := gone h hp d
    have hj := (stk_lt u p j (by rw [h]; simp)).1
    rw [← Nat.add_assoc]
    by_cases h1 : (md u (p + 1 + d)).c = 91
    · rw [stk_open h1, List.mem_cons]
      rintro (e | e)
      · omega
      · exact ih e
    · by_cases h2 : (md u (p + 1 + d)).c = 93
      · rw [stk_close h2]; exact fun e => ih (List.mem_of_mem_tail e)
      · rw [stk_else h2 h1]; exact ih
theorem mate_in {u : List Md} {j : Nat} (he : stk u u.length = []) : ∀ d k, k + d = u.length → j ∈ stk u k → ∃ p rest, k ≤ p ∧ p < u.length ∧ (md u p).c = 93 ∧ stk u p = j :: rest
  | 0, k, hk, hj => by
    rw [show k = u.length by omega, he] at hj; simp at hj
  | d + 1, k, hk, hj => by
    by_cases h : j ∈ stk u (k + 1)
    · obtain ⟨p, rest, h1, h2⟩ := mate_in he d (k + 1) (by omega) h
      exact ⟨p, rest, by omega, h2⟩
    · by_cases h1 : (md u k).c = 91
      · rw [stk_open h1] at h; simp [hj] at h
      · by_cases h2 : (md u k).c = 93
        · rw [stk_close h2] at h
          cases hs : stk u k with
          | nil => rw [hs] at hj; simp at hj
          | cons a rest =>
            rw [hs] at h hj
            simp only [List.tail_cons] at h
            rw [List.mem_cons] at hj
            rcases hj with rfl | hj
            · exact ⟨k, rest, Nat.le_refl _, by omega, h2, hs⟩
            · exact absurd hj h
        · rw [stk_else h2 h1] at h; exact absurd hj h
theorem open_mate {u : List Md} (hu : okB u u.length = true) (h0 : dep u = 0) {j : Nat} (hj : j < u.length) (h : (md u j).c = 91) : ∃ p rest, j < p ∧ p < u.length ∧ (md u p).c = 93 ∧ stk u p = j :: rest := by
  obtain ⟨p, rest, h1, h2⟩ := mate_in (j := j) (stk_end hu h0) (u.length - (j + 1)) (j + 1) (by omega) (by rw [stk_open h]; simp)
  exact ⟨p, rest, by omega, h2⟩
end
/-- For each bracket, up to a place, the one that belongs to it. -/
def othL (u : List Md) : Nat → List Int
  | 0 => List.replicate u.length 0
  | k + 1 => if (md u k).c = 93 then ((othL u k).set k (((stk u k).headD 0 : Nat) : Int)).set ((stk u k).headD 0) (k : Int) else othL u k
theorem othL_length (u : List Md) : ∀ k, (othL u k).length = u.length
  | 0 => by simp [othL]
  | k + 1 => by
    rw [othL]; split
    · rw [List.length_set, List.length_set]; exact othL_length u k
    · exact othL_length u k
theorem othL_else {u : List Md} {k : Nat} (h : (md u k).c ≠ 93) : othL u (k + 1) = othL u k := by rw [othL, if_neg h]
theorem othL_close {u : List Md} {k j : Nat} {rest : List Nat} (h : (md u k).c = 93) (hs : stk u k = j :: rest) : othL u (k + 1) = ((othL u k).set k (j : Int)).set j (k : Int) := by
  rw [othL, if_pos h, hs]; rfl
theorem getD_set {l : List Int} {i j : Nat} {x : Int} (hi : i < l.length) : (l.set i x).getD j 0 = if i = j then x else l.getD j 0 := by
  simp only [List.getD_eq_getElem?_getD, List.getElem?_set]
  split
  · rename_i h; subst h; simp [hi]
  · rfl
theorem oth_ok {u : List Md} (hu : okB u u.length = true) : ∀ k, k ≤ u.length → ∀ p, p < k → (md u p).c = 93 → ∃ j rest, stk u p = j :: rest ∧ (othL u k).getD p 0 = (j : Int) ∧ (othL u k).getD j 0 = (p : Int)
  | 0, _, p, hp, _ => by omega
  | k + 1, hk, p, hp, hc => by
    by_cases h2 : (md u k).c = 93
    · obtain ⟨j, rest, hs, hs', hjk, hjo⟩ := stk_top hu (show k < u.length by omega) h2
      rw [othL_close h2 hs]
      have l1 : k < (othL u k).length := by rw [othL_length]; omega
      have l2 : j < ((othL u k).set k (j : Int)).length := by rw [List.length_set, othL_length]; omega
      rcases Nat.lt_or_eq_of_le (Nat.le_of_lt_succ hp) with h | h
      · obtain ⟨j', rest', g1, g2, g3⟩ := oth_ok hu k (by omega) p h hc
        have gj := stk_lt u p j' (by rw [g1]; simp)
        have hne : j ≠ j' := by
          intro e
          subst e
          have := gone g1 hc (k - (p + 1))
          rw [show p + 1 + (k - (p + 1)) = k by omega, hs] at this
          simp at this
        have hpj : j ≠ p := by intro e; subst e; rw [hc] at hjo; simp at hjo
        refine ⟨j', rest', g1, ?_, ?_⟩
        · rw [getD_set l2, if_neg hpj, getD_set l1, if_neg (by omega)]; exact g2
        · rw [getD_set l2, if_neg hne, getD_set l1, if_neg (by omega)]; exact g3
      · subst h
        refine ⟨j, rest, hs, ?_, ?_⟩
        · rw [getD_set l2, if_neg (by omega), getD_set l1, if_pos rfl]
        · rw [getD_set l2, if_pos rfl]
    · rw [othL_else h2]
      rcases Nat.lt_or_eq_of_le (Nat.le_of_lt_succ hp) with h | h
      · exact oth_ok hu k (by omega) p h hc
      · subst h; exact absurd hc h2
/-- To the left, over a branch. -/
theorem bf_stk {g : Bs} {u : List Md} : ∀ (k c : Nat) (s : Nat), (stk u k)[c]? = some s → bfF g u k ((c : Int) + 1) = bfF g u s 0
  | 0, c, s, h => by simp [stk] at h
  | k + 1, c, s, h => by
    by_cases h1 : (md u k).c = 91
    · rw [stk_open h1] at h
      rw [bf_open h1 (by omega)]
      cases c with
      | zero => simp at h; subst h; simp
      | succ c =>
        rw [List.getElem?_cons_succ] at h
        have := bf_stk (g := g) k c s h
        rw [← this]; congr 1; omega
    · by_cases h2 : (md u k).c = 93
      · rw [stk_close h2] at h
        rw [bf_close h2]
        have := bf_stk (g := g) k (c + 1) s (by rw [← h, List.getElem?_tail])
        rw [← this]; congr 1
      · rw [stk_else h2 h1] at h
        rw [bf_pass h2 h1 (.inl (by omega))]
        exact bf_stk k c s h
/-- To the right, over a branch. -/
theorem bh_stk {g : Bs} {u : List Md} {p j : Nat} {rest : List Nat} (hpu : p < u.length) (hp : (md u p).c = 93) (hs : stk u p = j :: rest) :
    ∀ d k, k + d = p → j < k → ∃ a : List Nat, stk u k = a ++ j :: rest ∧ bhd g u k ((a.length : Int) + 1) = bhd g u (p + 1) 0
  | 0, k, hk, hj => by
    obtain rfl : k = p := by omega
    refine ⟨[], hs, ?_⟩
    rw [bh_close hpu hp (by simp)]; rfl
  | d + 1, k, hk, hj => by
    obtain ⟨a, h1, h2⟩ := bh_stk (g := g) hpu hp hs d (k + 1) (by omega) (by omega)
    have hku : k < u.length := by omega
    by_cases c1 : (md u k).c = 91
    · rw [stk_open c1] at h1
      cases a with
      | nil => simp at h1; omega
      | cons x a =>
        rw [List.cons_append, List.cons.injEq] at h1
        refine ⟨a, h1.2, ?_⟩
        rw [bh_open hku c1, ← h2]
        congr 1 <;> simp
    · by_cases c2 : (md u k).c = 93
      · rw [stk_close c2] at h1
        cases hx : stk u k with
        | nil => rw [hx] at h1; simp at h1
        | cons x t =>
          rw [hx, List.tail_cons] at h1
          refine ⟨x :: a, by rw [h1]; rfl, ?_⟩
          rw [bh_close hku c2 (by simp; omega), ← h2]
          congr 1; simp
      · rw [stk_else c2 c1] at h1
        refine ⟨a, h1, ?_⟩
        rw [bh_pass hku c2 c1 (.inl (by omega))]; exact h2
theorem bh_mate {g : Bs} {u : List Md} {p j : Nat} {rest : List Nat} (hpu : p < u.length) (hp : (md u p).c = 93) (hs : stk u p = j :: rest) : bhd g u (j + 1) 1 = bhd g u (p + 1) 0 := by
  have hj := stk_lt u p j (by rw [hs]; simp)
  obtain ⟨a, h1, h2⟩ := bh_stk (g := g) hpu hp hs (p - (j + 1)) (j + 1) (by omega) (by omega)
  rw [stk_open hj.2] at h1
  cases a with
  | nil => simpa using h2
  | cons x a =>
    rw [List.cons_append, List.cons.injEq] at h1
    have := stk_lt u j j (by rw [h1.2]; simp)
    omega
/-- The neighbour at the left of a module behind a closed branch. -/
theorem bef_close {g : Bs} {u : List Md} (hu : okB u u.length = true) {k : Nat} (hk : k < u.length) (h : (md u k).c = 93) : ∃ j : Nat, j < k ∧ (othL u u.length).getD k 0 = (j : Int) ∧ bef g u (k + 1) = bef g u j := by
  obtain ⟨j, rest, h1, h2, h3⟩ := oth_ok hu u.length (Nat.le_refl _) k hk h
  refine ⟨j, (stk_lt u k j (by rw [h1]; simp)).1, h2, ?_⟩
  unfold bef
  rw [bf_close h]
  have := bf_stk (g := g) (u := u) k 0 j (by rw [h1]; rfl)
  simpa using this
theorem beh_open {g : Bs} {u : List Md} (hu : okB u u.length = true) (h0 : dep u = 0) {k : Nat} (hk : k < u.length) (h : (md u k).c = 91) : ∃ p : Nat, k < p ∧ p < u.length ∧ (othL u u.length).getD k 0 = (p : Int) ∧ bhd g u k 0 = beh g u p := by
  obtain ⟨p, rest, h1, h2, h3, h4⟩ := open_mate hu h0 hk h
  obtain ⟨j, rest', g1, g2, g3⟩ := oth_ok hu u.length (Nat.le_refl _) p h2 h3
  rw [h4, List.cons.injEq] at g1
  refine ⟨p, h1, h2, by rw [g1.1]; exact g3, ?_⟩
  rw [bh_open hk h, Int.zero_add]
  exact bh_mate h2 h3 h4
/-! The theorem of neighbours. -/
theorem bf_rng {g : Bs} {u : List Md} : ∀ (k : Nat) (c : Int), bfF g u k c = -1 ∨ ∃ a : Nat, bfF g u k c = (a : Int) ∧ a < k ∧ (md u a).c ≠ 91 ∧ (md u a).c ≠ 93 ∧ hasB g (md u a).c = false
  | 0, c => .inl rfl
  | k + 1, c => by
    have lift : ∀ c', (bfF g u k c' = -1 ∨ ∃ a : Nat, bfF g u k c' = (a : Int) ∧ a < k ∧ (md u a).c ≠ 91 ∧ (md u a).c ≠ 93 ∧ hasB g (md u a).c = false) → (bfF g u k c' = -1 ∨ ∃ a : Nat, bfF g u k c' = (a : Int) ∧ a < k + 1 ∧ (md u a).c ≠ 91 ∧ (md u a).c ≠ 93 ∧ hasB g (md u a).c = false) := by
      rintro c' (h | ⟨a, h1, h2, h3⟩)
      · exact .inl h
      · exact .inr ⟨a, h1, by omega, h3⟩
    rw [bfF]
    split
    · exact lift _ (bf_rng k _)
    · split
      · exact lift _ (bf_rng k _)
      · split
        · rename_i h1 h2 h3
          exact .inr ⟨k, rfl, by omega, h2, h1, h3.2⟩
        · exact lift _ (bf_rng k _)
theorem bh_rng {g : Bs} {u : List Md} : ∀ (d k : Nat) (c : Int), k + d = u.length → bhd g u k c = -1 ∨ ∃ a : Nat, bhd g u k c = (a : Int) ∧ k ≤ a ∧ a < u.length ∧ (md u a).c ≠ 91 ∧ (md u a).c ≠ 93 ∧ hasB g (md u a).c = false
  | 0, k, c, h => .inl (bh_out (by omega))
  | d + 1, k, c, h => by
    have hk : k < u.length := by omega
    have lift : ∀ c', (bhd g u (k + 1) c' = -1 ∨ ∃ a : Nat, bhd g u (k + 1) c' = (a : Int) ∧ k ≤ a ∧ a < u.length ∧ (md u a).c ≠ 91 ∧ (md u a).c ≠ 93 ∧ hasB g (md u a).c = false) := by
      intro c'
      rcases bh_rng (g := g) (u := u) d (k + 1) c' (by omega) with h | ⟨a, h1, h2, h3⟩
      · exact .inl h
      · exact .inr ⟨a, h1, by omega, h3⟩
    by_cases c1 : (md u k).c = 91
    · rw [bh_open hk c1]; exact lift _
    · by_cases c2 : (md u k).c = 93
      · by_cases c0 : c = 0
        · subst c0; rw [bh_end hk c2]; exact .inl rfl
        · rw [bh_close hk c2 c0]; exact lift _
      · by_cases c3 : c = 0 ∧ hasB g (md u k).c = false
        · obtain ⟨rfl, c3⟩ := c3
          rw [bh_stop hk c2 c1 c3]; exact .inr ⟨k, rfl, by omega, hk, c1, c2, c3⟩
        · rw [bh_pass hk c2 c1]
          · exact lift _
          · by_cases c4 : c = 0
            · right
              cases hh : hasB g (md u k).c
              · exact absurd ⟨c4, hh⟩ c3
              · rfl
            · exact .inl c4
/-- What stands to the right has this place at its left. -/
theorem bh_back {g : Bs} {u : List Md} {b : Nat} : ∀ (d k : Nat) (o : Int), k + d = u.length → 0 ≤ o → bhd g u k o = (b : Int) → bfF g u b 0 = bfF g u k o
  | 0, k, o, h, ho, hb => by rw [bh_out (by omega)] at hb; omega
  | d + 1, k, o, h, ho, hb => by
    have hk : k < u.length := by omega
    by_cases c1 : (md u k).c = 91
    · rw [bh_open hk c1] at hb
      rw [bh_back d (k + 1) (o + 1) (by omega) (by omega) hb, bf_open c1 (by omega)]
      congr 1; omega
    · by_cases c2 : (md u k).c = 93
      · by_cases c0 : o = 0
        · subst c0; rw [bh_end hk c2] at hb; omega
        · rw [bh_close hk c2 c0] at hb
          rw [bh_back d (k + 1) (o - 1) (by omega) (by omega) hb, bf_close c2]
          congr 1; omega
      · by_cases c3 : o = 0 ∧ hasB g (md u k).c = false
        · obtain ⟨rfl, c3⟩ := c3
          rw [bh_stop hk c2 c1 c3] at hb
          have : k = b := by omega
          rw [this]
        · have c4 : o ≠ 0 ∨ hasB g (md u k).c = true := by
            by_cases c4 : o = 0
            · right
              cases hh : hasB g (md u k).c
              · exact absurd ⟨c4, hh⟩ c3
              · rfl
            · exact .inl c4
          rw [bh_pass hk c2 c1 c4] at hb
          rw [bh_back d (k + 1) o (by omega) ho hb, bf_pass c2 c1 c4]
theorem beh_bef {g : Bs} {u : List Md} {i b : Nat} (hi : i < u.length) (h1 : (md u i).c ≠ 93) (h2 : (md u i).c ≠ 91) (h3 : hasB g (md u i).c = false) (hb : beh g u i = (b : Int)) : bef g u b = i := by
  unfold bef
  rw [bh_back (u.length - (i + 1)) (i + 1) 0 (by omega) (Int.le_refl _) hb]
  exact bf_stop h1 h2 h3
end CM
end Go.Proofs.YtlmofdmbcddddaaGreatDoor
