/-
  What the reference's Text hands back.
-/
import Derived.Test.YtjjjopopalcokaaDoorWordClM
import Derived.Test.YtjjjopopalcokaaDoorWordTwin
import Derived.Test.YtjjjopopalcokaaDoorWordRefB
import Derived.Test.YtjjjopopalcokaaDoorWordDec
import Derived.Lib.AppendStr
import Derived.Laws.BytesArg
namespace Go.Proofs.YtjjjopopalcokaaDoor
open Go.RowKit
open WM
set_option linter.unusedVariables false
set_option linter.unusedSimpArgs false

def preT : List Int → Bs
  | [] => []
  | x :: l => 40 :: (Lib.itoa x ++ argsT l)
theorem argsT_app : ∀ a b : List Int, argsT (a ++ b) = argsT a ++ argsT b
  | [], _ => rfl
  | x :: a, b => by simp [argsT, argsT_app a b]
theorem preT_snoc {a : List Int} {n : Nat} (h : n < a.length) : preT (a.take (n + 1)) = preT (a.take n) ++ [if n = 0 then 40 else 44] ++ Lib.itoa a[n] := by
  cases a with
  | nil => simp at h
  | cons x l => cases n with
    | zero => simp [preT, argsT]
    | succ n =>
      have hn : n < l.length := by simpa using h
      rw [if_neg (by omega)]
      simp only [List.take_succ_cons, preT, List.getElem_cons_succ]
      rw [List.take_add_one, List.getElem?_eq_getElem hn, argsT_app]
      simp [argsT]
theorem modT_pre (m : Md) : modT m = m.c :: (preT m.a ++ if m.a.length = 0 then [] else [41]) := by
  unfold modT preT
  cases m.a with
  | nil => rfl
  | cons x l => simp
theorem itoa_len {x : Int} (h : -1000000000 ≤ x ∧ x ≤ 1000000000) : (Lib.itoa x).length ≤ 21 := Lib.itoa_length_le x (by omega) (by omega)
theorem argsT_len : ∀ a : List Int, (∀ x ∈ a, -1000000000 ≤ x ∧ x ≤ 1000000000) → (argsT a).length ≤ 22 * a.length
  | [], _ => by simp [argsT]
  | x :: a, h => by
    have h1 := argsT_len a fun y hy => h y (List.mem_cons_of_mem _ hy)
    have h2 := itoa_len (h x (by simp))
    simp only [argsT, List.length_cons, List.length_append]; omega
theorem preT_len (a : List Int) (h : ∀ x ∈ a, -1000000000 ≤ x ∧ x ≤ 1000000000) : (preT a).length ≤ 22 * a.length := by
  cases a with
  | nil => simp [preT]
  | cons x a =>
    have h1 := argsT_len a fun y hy => h y (List.mem_cons_of_mem _ hy)
    have h2 := itoa_len (h x (by simp))
    simp only [preT, List.length_cons, List.length_append]; omega
theorem fine_args {m : Md} (h : fineB m = true) : m.a.length ≤ 4 ∧ ∀ x ∈ m.a, -1000000000 ≤ x ∧ x ≤ 1000000000 := by
  unfold fineB at h
  simp only [Bool.and_eq_true, decide_eq_true_eq] at h
  exact ⟨h.1.1.2, rngB_iff.1 h.2⟩
theorem modT_len {m : Md} (h : fineB m = true) : (modT m).length ≤ 100 := by
  obtain ⟨h1, h2⟩ := fine_args h
  have h3 := preT_len m.a h2
  rw [modT_pre, List.length_cons, List.length_append]
  split <;> simp <;> omega
theorem txt_len : ∀ l : List Md, l.all fineB = true → (txt l).length ≤ 100 * l.length
  | [], _ => by simp [txt]
  | m :: l, h => by
    simp only [List.all_cons, Bool.and_eq_true] at h
    have h1 := txt_len l h.2
    have h2 := modT_len h.1
    have e : txt (m :: l) = modT m ++ txt l := by simp [txt]
    rw [e, List.length_append, List.length_cons]; omega
def valsB (l : Bs) : List Value := l.map fun b => Value.int .u8 b.toNat
theorem valsB_app (a b : Bs) : valsB (a ++ b) = valsB a ++ valsB b := by simp [valsB]
theorem info_byte : (Tryd.prog.info? 5).map (fun i => (i.zero, i.size, i.bytes)) = some (some (.int .u8 0), 1, 1) := by kernel_rfl
/-- Bytes in a row of the call's own. -/
structure TxAt (w : World) (bs : Bs) (v : Value) (wr : World) : Prop where
  below : Below w.heap.size w wr
  own : wr.ownsRow w.heap.size 5 1 v bs.length (valsB bs)
theorem txAt_start (w : World) {wr : World} (hb : Below w.heap.size w wr) : TxAt w [] (.slice none 0 0) wr := ⟨hb, by simpa [valsB] using World.ownsRow_nil wr w.heap.size 5 1⟩
theorem txAt_byte {w wr w1 : World} {bs : Bs} {v v' : Value} {c : UInt8} {tmp : Obj} (h : TxAt w bs v wr) (o : w1.ownsRow w.heap.size 5 1 v' (bs.length + 1) (valsB bs ++ [.int .u8 c.toNat])) (g : (wr.alloc tmp).grownBy w1 v.ownBlock) : TxAt w (bs ++ [c]) v' w1 :=
  ⟨grown_step h.below h.own g, by rw [List.length_append, valsB_app]; exact o⟩
theorem txAt_str {w wr w1 : World} {bs l : Bs} {v v' : Value} (h : TxAt w bs v wr) (o : w1.ownsRow w.heap.size 5 1 v' (bs.length + (bA l).size) (valsB bs ++ Lib.strCells (bA l))) (g : wr.grownBy w1 v.ownBlock) : TxAt w (bs ++ l) v' w1 := by
  have hl : (bA l).size = l.length := by rw [← lA_len, lA_bA]
  refine ⟨h.below.grown g h.below.size (fun j e => (h.own.lt j e).1), ?_⟩
  rw [List.length_append, valsB_app, ← hl]; exact o
theorem txAt_conv {w wr : World} {bs : Bs} {v : Value} (h : TxAt w bs v wr) : ∃ q c, v = .slice q bs.length c ∧ (convert 57 9 (.slice q bs.length c)).run Tryd.prog wr = .ok (.string (bA bs)) wr := by
  rcases h.own.2 with ⟨hv, h0⟩ | ⟨g, cap, cur, hv, hb, hg, hc1, hc2, hsz, htake⟩
  · have e : bs = [] := List.length_eq_zero_iff.1 h0
    subst e
    exact ⟨none, 0, hv, run_convert_bytes_nil wr _ _ Tryd.underlying57 Tryd.underlying5 0 0 _ Tryd.underlying9⟩
  · refine ⟨_, cap, hv, run_convert_bytes_back wr _ _ _ _ cap bs Tryd.underlying57 Tryd.underlying5 Tryd.underlying9 fun j hj => ?_⟩
    have e : (cur.toList.take (bs.length * 1))[j]? = (valsB bs)[j]? := by rw [htake]
    rw [List.getElem?_take_of_lt (by omega), Array.getElem?_toList] at e
    have e2 : (⟨g, 0, none⟩ : Addr).add j = ⟨g, j, none⟩ := by
      unfold Addr.add
      rw [Nat.zero_add]
      split
      · rename_i h; rw [h]
      · rfl
    rw [e2]
    simp only [World.cell?, hg]
    refine e.trans ?_
    simp [valsB, hj]
/-- How Text ends. -/
def TxEnd (l : List Md) (w : World) (e : Ending) (w' : World) : Prop :=
  Below w.heap.size w w' ∧ ((chk l ≠ 0 ∧ e = .returned (.tuple #[.string ⟨#[]⟩, .int .i64 (chk l)])) ∨ (chk l = 0 ∧ 50000 < (txt l).length ∧ e = .returned (.tuple #[.string ⟨#[]⟩, .int .i64 4])) ∨
    (chk l = 0 ∧ ¬ 50000 < (txt l).length ∧ e = .returned (.tuple #[.string (bA (txt l)), .int .i64 0])))
theorem text_no (v : Value) (l : List Md) (hmax : l.length ≤ 2100) (hargs : ∀ m ∈ l, m.a.length ≤ 10) (h0 : chk l ≠ 0) (w : World) (hv : Mods w v l) :
    Calls Tryd.prog 20 #[v] w (TxEnd l w) := by
  have HV := Lib.hid hv
  have HC := Lib.hid (fun w hv => check_any v l hmax hargs w hv)
  have HE : Hid (∀ w', Below w.heap.size w w' → TxEnd l w (.returned (.tuple #[.string ⟨#[]⟩, .int .i64 (chk l)])) w') := Lib.hid (fun w' hb => ⟨hb, .inl ⟨h0, rfl⟩⟩)
  obtain ⟨c, hc⟩ : ∃ c, chk l = c := ⟨_, rfl⟩
  rw [hc] at HC HE h0
  have h1 : (c != 0) = true := by rw [bne_iff_ne]; exact h0
  clear hv hargs h0 hc
  go_enter Tryd.func20, Tryd.ntmps20
  go_wp2_with fail
  refine (HC.out _ HV.out).mono ?_
  rintro e w1 ⟨rfl, hb⟩
  have B1 := Lib.hid hb
  clear hb
  go_wp2_with fail
  refine (HC.out _ (HV.out.later B1.out)).mono ?_
  rintro e w2 ⟨rfl, hb⟩
  have B2 := Lib.hid (B1.out.trans (hb.mono B1.out.size))
  clear hb
  go_wp2_with fail
  go_ret2
  exact HE.out _ B2.out
set_option maxRecDepth 100000 in
set_option maxHeartbeats 3200000 in
theorem text_yes (v : Value) (l : List Md) (hargs : ∀ m ∈ l, m.a.length ≤ 10) (h0 : chk l = 0) (w : World) (hv : Mods w v l) :
    Calls Tryd.prog 20 #[v] w (TxEnd l w) := by
  have hmax : l.length ≤ 2000 := (chk_zero.1 h0).1
  obtain ⟨p, cap, rfl⟩ := hv.slice
  have HV := Lib.hid hv
  have HC := Lib.hid (fun w hv => check_any (.slice p l.length cap) l (by omega) hargs w hv)
  have HF : Hid (∀ k, (h : k < l.length) → fineB l[k] = true) := Lib.hid (fun k h => List.all_eq_true.1 (chk_zero.1 h0).2.1 _ (List.getElem_mem h))
  have HL : Hid (∀ k, (txt (l.take k)).length ≤ 200000) := Lib.hid (fun k => by
    have h1 := txt_len (l.take k) (List.all_eq_true.2 fun m hm => List.all_eq_true.1 (chk_zero.1 h0).2.1 m (List.mem_of_mem_take hm))
    have h2 : (l.take k).length ≤ l.length := by rw [List.length_take]; omega
    omega)
  have HE4 : Hid (∀ w', Below w.heap.size w w' → 50000 < (txt l).length → TxEnd l w (.returned (.tuple #[.string ⟨#[]⟩, .int .i64 4])) w') := Lib.hid (fun w' hb h => ⟨hb, .inr (.inl ⟨h0, h, rfl⟩)⟩)
  have HE0 : Hid (∀ w', Below w.heap.size w w' → ¬ 50000 < (txt l).length → TxEnd l w (.returned (.tuple #[.string (bA (txt l)), .int .i64 0])) w') := Lib.hid (fun w' hb h => ⟨hb, .inr (.inr ⟨h0, h, rfl⟩)⟩)
  obtain ⟨i0, hi, hz0, hz1, hz2⟩ := info_parts info_byte
  have HM : Hid (maxLen = 9223372036854775807) := Lib.hid rfl
  rw [h0] at HC
  clear hv hargs h0
  go_enter Tryd.func20, Tryd.ntmps20
  go_wp2_with fail
  refine (HC.out _ HV.out).mono ?_
  rintro e w1 ⟨rfl, hb⟩
  have S0 := Lib.hid (txAt_start w hb)
  clear hb
  go_wp2_with fail
  go_loopw [4, 5] (fun v i wr => ∃ k : Nat, k ≤ l.length ∧ i = .int .i64 k ∧ TxAt w (txt (l.take k)) v wr) (fun _ i _ => l.length - (intOf i).toNat)
  case atStart => exact ⟨0, Nat.zero_le _, rfl, S0.out⟩
  case round =>
    obtain ⟨k, hk, rfl, hT⟩ := hrel
    have HT := Lib.hid hT
    have hlen := HL.out k
    clear hT
    by_cases hlt : k < l.length
    · obtain ⟨b, off, cap', q, c, hp, f1, f2, hin, lb⟩ := HV.out.at hlt
      obtain rfl : p = some ⟨b, off, none⟩ := by cases hp; rfl
      have k1 : (k : Int) < (l.length : Int) := by omega
      have e1 := (HT.out.below.cell (p := ⟨b, off + k * 2, none⟩) lb).trans f1
      have F2 := Lib.hid f2
      have HIn := Lib.hid hin
      obtain ⟨ha4, har⟩ := fine_args (HF.out k hlt)
      have HAr := Lib.hid har
      have HTs : Hid (∀ n, n ≤ l[k].a.length → (preT (l[k].a.take n)).length ≤ 22 * n) := Lib.hid (fun n hn => by
        have := preT_len (l[k].a.take n) (fun x hx => har x (List.mem_of_mem_take hx))
        rw [List.length_take] at this; omega)
      obtain ⟨bs, hbs⟩ : ∃ bs, txt (l.take k) = bs := ⟨_, rfl⟩
      rw [hbs] at HT hlen
      have HBs : Hid (txt (l.take (k + 1)) = bs ++ modT l[k]) := Lib.hid (by rw [txt_snoc hlt, hbs])
      have hown := HT.out.own
      have hsz := HT.out.below.size
      clear hp hin har hbs f1 f2
      go_wp2_with (at_builtin; refine wpList_append_own _ rfl _ _ 57 rfl w.heap.size 5 i0 (.int .u8 0) 1 1 Tryd.underlying57 hi hz0 hz1 hz2 rfl (by decide) _ _ _ rfl (hown.alloc _) ⟨wr.heap.size, 0, none⟩ 1 1 [.int .u8 l[k].c.toNat] rfl rfl (cell_one_new _ _ _) (by simp [Value.oneCell']) (by rw [HM.out]; omega) (by omega) (by simp; omega) ?_; intro v' w2 hown' hgrow _)
      have T1 := Lib.hid (txAt_byte HT.out hown' hgrow)
      clear hown hown' hgrow hsz HT e1
      go_wp2_with fail
      go_loopw [4, 6] (fun v j wi => ∃ n : Nat, n ≤ l[k].a.length ∧ j = .int .i64 n ∧ TxAt w (bs ++ [l[k].c] ++ preT (l[k].a.take n)) v wi) (fun _ j _ => l[k].a.length - (intOf j).toNat)
      case atStart => exact ⟨0, Nat.zero_le _, rfl, by simpa [preT] using T1.out⟩
      case round =>
        obtain ⟨n, hn, rfl, hU⟩ := hrel
        have HU := Lib.hid hU
        have hpl := HTs.out n hn
        clear hU
        by_cases hnl : n < l[k].a.length
        · obtain ⟨b2, off2, cap2, hq, f3, lb2⟩ := HIn.out.at hnl
          obtain rfl : q = some ⟨b2, off2, none⟩ := by cases hq; rfl
          have F3 := Lib.hid f3
          have e2 := (HU.out.below.cell (p := ⟨b, off + k * 2 + 1, none⟩) lb).trans F2.out
          have hx := HAr.out _ (List.getElem_mem hnl)
          have HDc := Lib.hid (fun w => decimal_any l[k].a[n] hx.1 hx.2 w)
          have hdl := itoa_len hx
          have HP := Lib.hid (preT_snoc hnl)
          have i1 : (n : Int) < (l[k].a.length : Int) := by omega
          clear hq f3 hx
          obtain ⟨ds, hds⟩ : ∃ ds, Lib.itoa l[k].a[n] = ds := ⟨_, rfl⟩
          rw [hds] at HDc hdl HP
          obtain ⟨x, hx⟩ : ∃ x, l[k].a[n] = x := ⟨_, rfl⟩
          rw [hx] at F3 HDc
          clear hds hx
          obtain ⟨ps, hps⟩ : ∃ ps, bs ++ [l[k].c] ++ preT (l[k].a.take n) = ps := ⟨_, rfl⟩
          have hpsl : ps.length ≤ 300000 := by rw [← hps]; simp; omega
          have HPs := Lib.hid hps
          rw [hps] at HU
          have hbl : (bA ds).size = ds.length := by rw [← lA_len, lA_bA]
          have hown := HU.out.own
          have hsz := HU.out.below.size
          clear hps
          by_cases hn0 : n = 0
          · have n0 : ((n : Int) == 0) = true := by rw [beq_iff_eq]; omega
            have F3 : Hid (w.cell? ⟨b2, off2, none⟩ = some (.int .i64 x)) := Lib.hid (by have h9 := F3.out; rw [hn0] at h9; exact h9)
            go_wp2_with (at_builtin; refine wpList_append_own _ rfl _ _ 57 rfl w.heap.size 5 i0 (.int .u8 0) 1 1 Tryd.underlying57 hi hz0 hz1 hz2 rfl (by decide) _ _ _ rfl (hown.alloc _) ⟨wr.heap.size, 0, none⟩ 1 1 [.int .u8 40] rfl rfl (cell_one_new _ _ _) (by simp [Value.oneCell']) (by rw [HM.out]; omega) (by omega) (by simp; omega) ?_; intro v' w3 hown' hgrow _; have T2 := Lib.hid (txAt_byte (c := 40) HU.out hown' hgrow); have e4 := (T2.out.below.cell (p := ⟨b, off + k * 2 + 1, none⟩) lb).trans F2.out; have e3 := (T2.out.below.cell (p := ⟨b2, off2, none⟩) lb2).trans F3.out; clear hown' hgrow)
            have hown2 := T2.out.own
            have hsz2 := T2.out.below.size
            clear hown hsz
            go_wp2_with fail
            refine (HDc.out _).mono ?_
            rintro e w4 ⟨rfl, rfl⟩
            go_wp2_with (at_builtin; refine Lib.wpList_append_own_string _ rfl _ _ 57 9 rfl w.heap.size 5 i0 Tryd.underlying57 Tryd.underlying9 hi hz0 hz1 hz2 _ _ _ rfl hown2 (bA ds) rfl (by rw [HM.out, hbl, List.length_append]; simp; omega) (by rw [hbl, List.length_append]; simp; omega) (by omega) ?_; intro v' w5 hown' hgrow _)
            have T3 := Lib.hid (txAt_str T2.out hown' hgrow)
            clear hown' hgrow hown2 hsz2
            go_wp2_with fail
            go_roundw
            case rel => exact ⟨n + 1, by omega, by go_num, by have h9 := T3.out; rw [← HPs.out] at h9; rw [HP.out]; simpa [hn0, List.append_assoc] using h9⟩
            case measure => simp [intOf]; omega
          · have n0 : ((n : Int) == 0) = false := by rw [beq_eq_false_iff_ne]; omega
            go_wp2_with (at_builtin; refine wpList_append_own _ rfl _ _ 57 rfl w.heap.size 5 i0 (.int .u8 0) 1 1 Tryd.underlying57 hi hz0 hz1 hz2 rfl (by decide) _ _ _ rfl (hown.alloc _) ⟨wr.heap.size, 0, none⟩ 1 1 [.int .u8 44] rfl rfl (cell_one_new _ _ _) (by simp [Value.oneCell']) (by rw [HM.out]; omega) (by omega) (by simp; omega) ?_; intro v' w3 hown' hgrow _; have T2 := Lib.hid (txAt_byte (c := 44) HU.out hown' hgrow); have e4 := (T2.out.below.cell (p := ⟨b, off + k * 2 + 1, none⟩) lb).trans F2.out; have e3 := (T2.out.below.cell (p := ⟨b2, off2 + n, none⟩) lb2).trans F3.out; clear hown' hgrow)
            have hown2 := T2.out.own
            have hsz2 := T2.out.below.size
            clear hown hsz
            go_wp2_with fail
            refine (HDc.out _).mono ?_
            rintro e w4 ⟨rfl, rfl⟩
            go_wp2_with (at_builtin; refine Lib.wpList_append_own_string _ rfl _ _ 57 9 rfl w.heap.size 5 i0 Tryd.underlying57 Tryd.underlying9 hi hz0 hz1 hz2 _ _ _ rfl hown2 (bA ds) rfl (by rw [HM.out, hbl, List.length_append]; simp; omega) (by rw [hbl, List.length_append]; simp; omega) (by omega) ?_; intro v' w5 hown' hgrow _)
            have T3 := Lib.hid (txAt_str T2.out hown' hgrow)
            clear hown' hgrow hown2 hsz2
            go_wp2_with fail
            go_roundw
            case rel => exact ⟨n + 1, by omega, by go_num, by have h9 := T3.out; rw [← HPs.out] at h9; rw [HP.out]; simpa [hn0, List.append_assoc] using h9⟩
            case measure => simp [intOf]; omega
        · have hne : n = l[k].a.length := by omega
          have i1 : ¬ (n : Int) < (l[k].a.length : Int) := by omega
          have e2 := (HU.out.below.cell (p := ⟨b, off + k * 2 + 1, none⟩) lb).trans F2.out
          have HM2 := Lib.hid (modT_pre l[k])
          have HNe := Lib.hid hne
          clear hne hnl
          by_cases ha0 : l[k].a.length = 0
          · have g0 : ¬ (0 : Int) < (l[k].a.length : Int) := by omega
            have HA0 := Lib.hid ha0
            clear ha0
            go_wp2_with fail
            go_roundw
            case rel => exact ⟨k + 1, by omega, by go_num, by
              have h9 := HU.out
              rw [HNe.out, List.take_length] at h9
              rw [HBs.out, HM2.out, if_pos HA0.out]
              simpa [List.append_assoc] using h9⟩
            case measure => simp [intOf]; omega
          · have g0 : (0 : Int) < (l[k].a.length : Int) := by omega
            have HA0 := Lib.hid ha0
            clear ha0
            obtain ⟨ps, hps⟩ : ∃ ps, bs ++ [l[k].c] ++ preT (l[k].a.take n) = ps := ⟨_, rfl⟩
            have hpsl : ps.length ≤ 300000 := by rw [← hps]; simp; omega
            have HPs := Lib.hid hps
            rw [hps] at HU
            have hown := HU.out.own
            have hsz := HU.out.below.size
            clear hps
            go_wp2_with (at_builtin; refine wpList_append_own _ rfl _ _ 57 rfl w.heap.size 5 i0 (.int .u8 0) 1 1 Tryd.underlying57 hi hz0 hz1 hz2 rfl (by decide) _ _ _ rfl (hown.alloc _) ⟨wr.heap.size, 0, none⟩ 1 1 [.int .u8 41] rfl rfl (cell_one_new _ _ _) (by simp [Value.oneCell']) (by rw [HM.out]; omega) (by omega) (by simp; omega) ?_; intro v' w3 hown' hgrow _)
            have T2 := Lib.hid (txAt_byte (c := 41) HU.out hown' hgrow)
            clear hown' hgrow hown hsz
            go_wp2_with fail
            go_roundw
            case rel => exact ⟨k + 1, by omega, by go_num, by
              have h9 := T2.out
              rw [← HPs.out, HNe.out, List.take_length] at h9
              rw [HBs.out, HM2.out, if_neg HA0.out]
              simpa [List.append_assoc] using h9⟩
            case measure => simp [intOf]; omega
    · obtain rfl : k = l.length := by omega
      have HT2 := HT.out
      rw [List.take_length] at HT2
      obtain ⟨q, c, hv, hcv⟩ := txAt_conv HT2
      have HB := Lib.hid HT2.below
      clear HT2 HT HF HL hlen
      obtain ⟨bs, hbs⟩ : ∃ bs, txt l = bs := ⟨_, rfl⟩
      rw [hbs] at hcv hv HE4 HE0
      clear hbs
      subst hv
      by_cases hgt : 50000 < bs.length
      · have g1 : (50000 : Int) < (bs.length : Int) := by omega
        have HG := Lib.hid hgt
        go_wp2_with fail
        go_ret2
        exact HE4.out _ HB.out HG.out
      · have g1 : ¬ (50000 : Int) < (bs.length : Int) := by omega
        have HG := Lib.hid hgt
        clear hgt
        go_wp2_with fail
        go_ret2
        exact HE0.out _ HB.out HG.out
end Go.Proofs.YtjjjopopalcokaaDoor
