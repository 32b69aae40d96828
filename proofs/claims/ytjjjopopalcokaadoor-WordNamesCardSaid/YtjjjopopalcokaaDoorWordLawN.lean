/-
  The walk of WordNames.
-/
import Derived.Test.YtjjjopopalcokaaDoorWordNmN
namespace Go.Proofs.YtjjjopopalcokaaDoor
open Go.RowKit
open WM
set_option linter.unusedVariables false
set_option linter.unusedSimpArgs false

set_option maxRecDepth 100000 in
set_option maxHeartbeats 6400000 in
theorem names_walk (w : World) (he : Env w) :
    Calls Tryd.prog 3 #[] w fun e w' => e = .returned (.bool true) ∧ Below w.heap.size w w' := by
  have HE := Lib.hid he
  have KR := Lib.hid refs_any
  have KN := Lib.hid (fun w => checked_any (.slice none 0 0) [] (by decide) (by simp) w (.none _ _))
  rw [ck_nil] at KN
  have KZ := Lib.hid (fun w => checked_one (n := 0) rfl ck_zero w)
  have KT := Lib.hid (fun w => checked_two (n := 93) (m := 91) rfl rfl ck_two w)
  have KO := Lib.hid (fun w => checked_one (n := 91) rfl ck_open w)
  have KA1 := Lib.hid (fun w => checked_arg (n := 91) rfl (by decide) (by decide) ck_arg w)
  have KA2 := Lib.hid (fun w => checked_arg (n := 97) rfl (by decide) (by decide) ck_far w)
  have KA4 := Lib.hid (fun w => checked_arg (n := 33) rfl (by decide) (by decide) ck_four w)
  have KL := Lib.hid (fun w => checked_one (n := 60) rfl ck_less w)
  have KG := Lib.hid given_any
  have KC := Lib.hid (fun v i w h => uclose_any v giv (by decide) giv_args i w h)
  have KC0 := Lib.hid (fun v w h => KC.out v 0 w h)
  have KC1 := Lib.hid (fun v w h => KC.out v (-1) w h)
  have KC6 := Lib.hid (fun v w h => KC.out v 6 w h)
  have KC4 := Lib.hid (fun v w h => KC.out v 4 w h)
  rw [cl0] at KC0
  rw [cl1] at KC1
  rw [cl6] at KC6
  rw [cl4.1, cl4.2] at KC4
  obtain ⟨z0, hz0⟩ : ∃ z, clV giv 0 = z := ⟨_, rfl⟩
  obtain ⟨z1, hz1⟩ : ∃ z, clV giv (-1) = z := ⟨_, rfl⟩
  obtain ⟨z6, hz6⟩ : ∃ z, clV giv 6 = z := ⟨_, rfl⟩
  rw [hz0] at KC0
  rw [hz1] at KC1
  rw [hz6] at KC6
  clear he hz0 hz1 hz6 KC
  simp only [List.map_cons, List.map_nil, List.length_cons, List.length_nil] at KA1 KA2 KA4
  go_enter Tryd.func3, Tryd.ntmps3
  go_wp2_with fail
  refine (KR.out _ rf1 _ HE.out).mono ?_
  rintro e w1 ⟨rfl, hb⟩
  have B1 := Lib.hid hb
  have C1 := Lib.hid hb
  clear hb
  go_wp2_with fail
  refine (KR.out _ rf2 _ (HE.out.later B1.out)).mono ?_
  rintro e w2 ⟨rfl, hb⟩
  have B2 := Lib.hid (B1.out.trans (hb.mono B1.out.size))
  have C2 := Lib.hid hb
  clear hb
  go_wp2_with fail
  refine (KR.out _ rf3 _ (HE.out.later B2.out)).mono ?_
  rintro e w3 ⟨rfl, hb⟩
  have B3 := Lib.hid (B2.out.trans (hb.mono B2.out.size))
  have C3 := Lib.hid hb
  clear hb
  go_wp2_with fail
  refine (KR.out _ rf4 _ (HE.out.later B3.out)).mono ?_
  rintro e w4 ⟨rfl, hb⟩
  have B4 := Lib.hid (B3.out.trans (hb.mono B3.out.size))
  have C4 := Lib.hid hb
  clear hb
  go_wp2_with fail
  refine (KR.out _ rf5 _ (HE.out.later B4.out)).mono ?_
  rintro e w5 ⟨rfl, hb⟩
  have B5 := Lib.hid (B4.out.trans (hb.mono B4.out.size))
  have C5 := Lib.hid hb
  clear hb
  go_wp2_with fail
  refine (KR.out _ rf6 _ (HE.out.later B5.out)).mono ?_
  rintro e w6 ⟨rfl, hb⟩
  have B6 := Lib.hid (B5.out.trans (hb.mono B5.out.size))
  have C6 := Lib.hid hb
  clear hb
  go_wp2_with fail
  refine (KR.out _ rf7 _ (HE.out.later B6.out)).mono ?_
  rintro e w7 ⟨rfl, hb⟩
  have B7 := Lib.hid (B6.out.trans (hb.mono B6.out.size))
  have C7 := Lib.hid hb
  clear hb
  go_wp2_with fail
  refine (KR.out _ rf8 _ (HE.out.later B7.out)).mono ?_
  rintro e w8 ⟨rfl, hb⟩
  have B8 := Lib.hid (B7.out.trans (hb.mono B7.out.size))
  have C8 := Lib.hid hb
  clear hb
  go_wp2_with fail
  refine (KR.out _ rf9 _ (HE.out.later B8.out)).mono ?_
  rintro e w9 ⟨rfl, hb⟩
  have B9 := Lib.hid (B8.out.trans (hb.mono B8.out.size))
  have C9 := Lib.hid hb
  clear hb
  go_wp2_with fail
  refine (KR.out _ rf10 _ (HE.out.later B9.out)).mono ?_
  rintro e w10 ⟨rfl, hb⟩
  have B10 := Lib.hid (B9.out.trans (hb.mono B9.out.size))
  have C10 := Lib.hid hb
  clear hb
  go_wp2_with fail
  refine (KR.out _ rf11 _ (HE.out.later B10.out)).mono ?_
  rintro e w11 ⟨rfl, hb⟩
  have B11 := Lib.hid (B10.out.trans (hb.mono B10.out.size))
  have C11 := Lib.hid hb
  clear hb
  go_wp2_with fail
  refine (KR.out _ rf12 _ (HE.out.later B11.out)).mono ?_
  rintro e w12 ⟨rfl, hb⟩
  have B12 := Lib.hid (B11.out.trans (hb.mono B11.out.size))
  have C12 := Lib.hid hb
  clear hb
  go_wp2_with fail
  refine (KR.out _ rf13 _ (HE.out.later B12.out)).mono ?_
  rintro e w13 ⟨rfl, hb⟩
  have B13 := Lib.hid (B12.out.trans (hb.mono B12.out.size))
  have C13 := Lib.hid hb
  clear hb
  go_wp2_with fail
  refine (KR.out _ rf14 _ (HE.out.later B13.out)).mono ?_
  rintro e w14 ⟨rfl, hb⟩
  have B14 := Lib.hid (B13.out.trans (hb.mono B13.out.size))
  have C14 := Lib.hid hb
  clear hb
  go_wp2_with fail
  refine (KN.out _).mono ?_
  rintro e w15 ⟨rfl, hb⟩
  have B15 := Lib.hid (B14.out.trans (hb.mono B14.out.size))
  have C15 := Lib.hid hb
  clear hb
  go_wp2_with fail
  refine (KZ.out _).mono ?_
  rintro e w16 ⟨rfl, hb⟩
  have B16 := Lib.hid (B15.out.trans (hb.mono B15.out.size))
  have C16 := Lib.hid hb
  clear hb
  go_wp2_with fail
  refine (KT.out _).mono ?_
  rintro e w17 ⟨rfl, hb⟩
  have B17 := Lib.hid (B16.out.trans (hb.mono B16.out.size))
  have C17 := Lib.hid hb
  clear hb
  go_wp2_with fail
  refine (KO.out _).mono ?_
  rintro e w18 ⟨rfl, hb⟩
  have B18 := Lib.hid (B17.out.trans (hb.mono B17.out.size))
  have C18 := Lib.hid hb
  clear hb
  go_wp2_with fail
  refine (KA1.out _).mono ?_
  rintro e w19 ⟨rfl, hb⟩
  have B19 := Lib.hid (B18.out.trans (hb.mono B18.out.size))
  have C19 := Lib.hid hb
  clear hb
  go_wp2_with fail
  refine (KA2.out _).mono ?_
  rintro e w20 ⟨rfl, hb⟩
  have B20 := Lib.hid (B19.out.trans (hb.mono B19.out.size))
  have C20 := Lib.hid hb
  clear hb
  go_wp2_with fail
  refine (KA4.out _).mono ?_
  rintro e w21 ⟨rfl, hb⟩
  have B21 := Lib.hid (B20.out.trans (hb.mono B20.out.size))
  have C21 := Lib.hid hb
  clear hb
  go_wp2_with fail
  refine (KL.out _).mono ?_
  rintro e w22 ⟨rfl, hb⟩
  have B22 := Lib.hid (B21.out.trans (hb.mono B21.out.size))
  have C22 := Lib.hid hb
  clear hb
  go_wp2_with fail
  refine (KG.out _).mono ?_
  rintro e w23 ⟨vKC0, rfl, hn, hb, hm⟩
  have B23 := Lib.hid (B22.out.trans (hb.mono B22.out.size))
  have C23 := Lib.hid hb
  have M := Lib.hid hm
  clear hm hn
  clear hb
  go_wp2_with fail
  refine (KC0.out _ _ M.out).mono ?_
  rintro e w24 ⟨rfl, hb⟩
  have B24 := Lib.hid (B23.out.trans (hb.mono B23.out.size))
  have C24 := Lib.hid hb
  clear M
  clear hb
  go_wp2_with fail
  refine (KG.out _).mono ?_
  rintro e w25 ⟨vKC1, rfl, hn, hb, hm⟩
  have B25 := Lib.hid (B24.out.trans (hb.mono B24.out.size))
  have C25 := Lib.hid hb
  have M := Lib.hid hm
  clear hm hn
  clear hb
  go_wp2_with fail
  refine (KC1.out _ _ M.out).mono ?_
  rintro e w26 ⟨rfl, hb⟩
  have B26 := Lib.hid (B25.out.trans (hb.mono B25.out.size))
  have C26 := Lib.hid hb
  clear M
  clear hb
  go_wp2_with fail
  refine (KG.out _).mono ?_
  rintro e w27 ⟨vKC6, rfl, hn, hb, hm⟩
  have B27 := Lib.hid (B26.out.trans (hb.mono B26.out.size))
  have C27 := Lib.hid hb
  have M := Lib.hid hm
  clear hm hn
  clear hb
  go_wp2_with fail
  refine (KC6.out _ _ M.out).mono ?_
  rintro e w28 ⟨rfl, hb⟩
  have B28 := Lib.hid (B27.out.trans (hb.mono B27.out.size))
  have C28 := Lib.hid hb
  clear M
  clear hb
  go_wp2_with fail
  refine (KG.out _).mono ?_
  rintro e w29 ⟨vKC4, rfl, hn, hb, hm⟩
  have B29 := Lib.hid (B28.out.trans (hb.mono B28.out.size))
  have C29 := Lib.hid hb
  have M := Lib.hid hm
  clear hm hn
  clear hb
  go_wp2_with fail
  refine (KC4.out _ _ M.out).mono ?_
  rintro e w30 ⟨rfl, hb⟩
  have B30 := Lib.hid (B29.out.trans (hb.mono B29.out.size))
  have C30 := Lib.hid hb
  clear M
  clear hb
  obtain ⟨W1, hmk1, bm, mm⟩ := mk_many w30
  obtain ⟨W2, hmk2, hf⟩ := mk_half W1
  have BM := Lib.hid (B30.out.trans (bm.mono B30.out.size))
  have MM := Lib.hid mm
  have HF0 := Lib.hid hf
  clear bm mm hf
  go_wp2_with fail
  go_loopw [13] (fun i wr => ∃ k : Nat, i = .int .i64 k ∧ HfAt W1 k wr) (fun i _ => 1001 - (intOf i).toNat)
  case atStart => exact ⟨0, rfl, HF0.out⟩
  case round =>
    obtain ⟨k, rfl, hf⟩ := hrel
    have HF := Lib.hid hf
    have hk := hf.hi
    clear hf
    by_cases hlt : k < 1001
    · have k1 : (k : Int) < 1001 := by omega
      obtain ⟨⟨x, c1⟩, f1, l1⟩ := hf_cell HF.out hlt
      have HS := Lib.hid (hf_step HF.out hlt)
      go_wp2_with fail
      go_roundw
      case rel => exact ⟨k + 1, by go_num, HS.out⟩
      case measure => simp [intOf]; omega
    · obtain rfl : k = 1001 := by omega
      have H1 := Lib.hid (hf_end (n := 1001) HF.out (by decide) (by decide))
      have H9 := Lib.hid (hf_end (n := 999) HF.out (by decide) (by decide))
      have BW := Lib.hid (BM.out.trans (HF.out.below.mono BM.out.size))
      have MW := Lib.hid (MM.out.later HF.out.below)
      go_wp2_with fail
      refine (join_many _ _ (.inr ⟨_, _, _, rfl⟩) (.inr ⟨_, _, _, rfl⟩) _ H1.out H1.out).mono ?_
      rintro e u1 ⟨x1, rfl, hb⟩
      have D1 := Lib.hid hb
      clear hb
      go_wp2_with fail
      refine (join_full _ _ (.inr ⟨_, _, _, rfl⟩) (.inr ⟨_, _, _, rfl⟩) _ (H1.out.later D1.out) (H9.out.later D1.out)).mono ?_
      rintro e u2 ⟨p2, c2, rfl, hb⟩
      have D2 := Lib.hid (D1.out.trans (hb.mono D1.out.size))
      clear hb
      go_wp2_with fail
      refine (strip_open _).mono ?_
      rintro e u3 ⟨x3, rfl, hb⟩
      have D3 := Lib.hid (D2.out.trans (hb.mono D2.out.size))
      clear hb
      go_wp2_with fail
      have B4 := Lib.hid (BW.out.trans (D3.out.mono BW.out.size))
      refine (last_any _ (HE.out.later B4.out)).mono ?_
      rintro e u4 ⟨p4, c4, rfl, hb, hm⟩
      have D4 := Lib.hid (D3.out.trans (hb.mono D3.out.size))
      have L4 := Lib.hid hm
      clear hb hm
      go_wp2_with fail
      refine (many_any _ _ (MW.out.later D4.out)).mono ?_
      rintro e u5 ⟨rfl, hb⟩
      have D5 := Lib.hid (D4.out.trans (hb.mono D4.out.size))
      have L5 := Lib.hid (L4.out.later hb)
      clear hb
      go_wp2_with fail
      refine (count_last _ _ L5.out).mono ?_
      rintro e wx ⟨rfl, rfl⟩
      go_wp2_with fail
      have B5 := Lib.hid (BW.out.trans (D5.out.mono BW.out.size))
      refine (alive_any _ (HE.out.later B5.out)).mono ?_
      rintro e u6 ⟨rfl, hb⟩
      have B6 := Lib.hid (B5.out.trans (hb.mono B5.out.size))
      clear hb
      go_wp2_with fail
      go_ret
      exact ⟨rfl, B6.out⟩
end Go.Proofs.YtjjjopopalcokaaDoor
