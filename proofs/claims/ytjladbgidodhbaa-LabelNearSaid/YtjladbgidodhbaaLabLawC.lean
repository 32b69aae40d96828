/-
  LabelCommon, LabelOrder and LabelNear, walked.
-/
import Derived.Test.YtjladbgidodhbaaLabAlive
namespace Go.Proofs.Ytjladbgidodhbaa
open Go.RowKit Go.Shelf
open LM
set_option linter.unusedVariables false
set_option linter.unusedSimpArgs false
attribute [local go_sem] Oper.semAt_some

set_option maxRecDepth 100000
set_option maxHeartbeats 1000000 in
theorem common_not1 (p q o : ByteArray) (hf1 : fitB (lA p) (lA q) = false) (w : World) (hl : Len w) : Calls Try.prog 7 #[.string p, .string q, .string o] w fun e w' => e = .returned (.bool true) ∧ Below w.heap.size w w' := by
  have KF1 := Lib.hid (fun w => fit_any p q false hf1 w)
  have B0 := Lib.hid (Below.refl w.heap.size w)
  have L_0 := Lib.hid hl
  clear hl hf1
  go_enter Try.func7, Try.ntmps7
  go_wp2_with fail
  refine (alive_any _ L_0.out).mono ?_
  rintro e w1 ⟨rfl, hb⟩
  have B1 := Lib.hid (B0.out.trans (hb.mono B0.out.size))
  have L_1 := Lib.hid (L_0.out.later hb)
  clear hb B0 L_0
  go_wp2_with fail
  refine (KF1.out _).mono ?_
  rintro e w2 ⟨rfl, hb⟩
  have B2 := Lib.hid (B1.out.trans (hb.mono B1.out.size))
  have L_2 := Lib.hid (L_1.out.later hb)
  clear hb B1 L_1
  go_wp2_with fail
  go_ret
  exact ⟨rfl, B2.out⟩
set_option maxHeartbeats 1000000 in
theorem common_not2 (p q o : ByteArray) (hf1 : fitB (lA p) (lA q) = true) (hf2 : fitB (lA o) (lA ByteArray.empty) = false) (w : World) (hl : Len w) : Calls Try.prog 7 #[.string p, .string q, .string o] w fun e w' => e = .returned (.bool true) ∧ Below w.heap.size w w' := by
  have KF1 := Lib.hid (fun w => fit_any p q true hf1 w)
  have KF2 := Lib.hid (fun w => fit_any o ByteArray.empty false hf2 w)
  have B0 := Lib.hid (Below.refl w.heap.size w)
  have L_0 := Lib.hid hl
  clear hl hf1 hf2
  go_enter Try.func7, Try.ntmps7
  go_wp2_with fail
  refine (alive_any _ L_0.out).mono ?_
  rintro e w1 ⟨rfl, hb⟩
  have B1 := Lib.hid (B0.out.trans (hb.mono B0.out.size))
  have L_1 := Lib.hid (L_0.out.later hb)
  clear hb B0 L_0
  go_wp2_with fail
  refine (KF1.out _).mono ?_
  rintro e w2 ⟨rfl, hb⟩
  have B2 := Lib.hid (B1.out.trans (hb.mono B1.out.size))
  have L_2 := Lib.hid (L_1.out.later hb)
  clear hb B1 L_1
  go_wp2_with fail
  refine (KF2.out _).mono ?_
  rintro e w3 ⟨rfl, hb⟩
  have B3 := Lib.hid (B2.out.trans (hb.mono B2.out.size))
  have L_3 := Lib.hid (L_2.out.later hb)
  clear hb B2 L_2
  go_wp2_with fail
  go_ret
  exact ⟨rfl, B3.out⟩
set_option maxHeartbeats 2000000 in
theorem common_true_true (p q o c : ByteArray) (hf1 : fitB (lA p) (lA q) = true) (hf2 : fitB (lA o) (lA ByteArray.empty) = true)
    (h1 : (∀ w, Len w → Calls Try.prog 26 #[.string p, .string q] w fun e w' => e = .returned (.tuple #[.string c, .int .i64 0]) ∧ Below w.heap.size w w'))
    (h2 : (∀ w, Len w → Calls Try.prog 26 #[.string q, .string p] w fun e w' => e = .returned (.tuple #[.string c, .int .i64 0]) ∧ Below w.heap.size w w'))
    (h3 : (∀ w, Len w → Calls Try.prog 24 #[.string p, .string c] w fun e w' => e = .returned (.tuple #[.bool true, .int .i64 0]) ∧ Below w.heap.size w w'))
    (h4 : (∀ w, Len w → Calls Try.prog 24 #[.string q, .string c] w fun e w' => e = .returned (.tuple #[.bool true, .int .i64 0]) ∧ Below w.heap.size w w'))
    (h5 : (∀ w, Len w → Calls Try.prog 24 #[.string p, .string o] w fun e w' => e = .returned (.tuple #[.bool true, .int .i64 0]) ∧ Below w.heap.size w w'))
    (h6 : (∀ w, Len w → Calls Try.prog 24 #[.string q, .string o] w fun e w' => e = .returned (.tuple #[.bool true, .int .i64 0]) ∧ Below w.heap.size w w'))
    (h7 : (∀ w, Len w → Calls Try.prog 24 #[.string c, .string o] w fun e w' => e = .returned (.tuple #[.bool true, .int .i64 0]) ∧ Below w.heap.size w w')) (w : World) (hl : Len w) : Calls Try.prog 7 #[.string p, .string q, .string o] w fun e w' => e = .returned (.bool true) ∧ Below w.heap.size w w' := by
  have KF1 := Lib.hid (fun w => fit_any p q true hf1 w)
  have KF2 := Lib.hid (fun w => fit_any o ByteArray.empty true hf2 w)
  have K1 := Lib.hid h1
  have K2 := Lib.hid h2
  have K3 := Lib.hid h3
  have K4 := Lib.hid h4
  have K5 := Lib.hid h5
  have K6 := Lib.hid h6
  have K7 := Lib.hid h7
  have B0 := Lib.hid (Below.refl w.heap.size w)
  have L_0 := Lib.hid hl
  clear hl hf1 hf2 h1 h2 h3 h4 h5 h6 h7
  go_enter Try.func7, Try.ntmps7
  go_wp2_with fail
  refine (alive_any _ L_0.out).mono ?_
  rintro e w1 ⟨rfl, hb⟩
  have B1 := Lib.hid (B0.out.trans (hb.mono B0.out.size))
  have L_1 := Lib.hid (L_0.out.later hb)
  clear hb B0 L_0
  go_wp2_with fail
  refine (KF1.out _).mono ?_
  rintro e w2 ⟨rfl, hb⟩
  have B2 := Lib.hid (B1.out.trans (hb.mono B1.out.size))
  have L_2 := Lib.hid (L_1.out.later hb)
  clear hb B1 L_1
  go_wp2_with fail
  refine (KF2.out _).mono ?_
  rintro e w3 ⟨rfl, hb⟩
  have B3 := Lib.hid (B2.out.trans (hb.mono B2.out.size))
  have L_3 := Lib.hid (L_2.out.later hb)
  clear hb B2 L_2
  go_wp2_with fail
  refine (K1.out _ L_3.out).mono ?_
  rintro e w4 ⟨rfl, hb⟩
  have B4 := Lib.hid (B3.out.trans (hb.mono B3.out.size))
  have L_4 := Lib.hid (L_3.out.later hb)
  clear hb B3 L_3
  go_wp2_with fail
  refine (K2.out _ L_4.out).mono ?_
  rintro e w5 ⟨rfl, hb⟩
  have B5 := Lib.hid (B4.out.trans (hb.mono B4.out.size))
  have L_5 := Lib.hid (L_4.out.later hb)
  clear hb B4 L_4
  go_wp2_with fail
  refine (K3.out _ L_5.out).mono ?_
  rintro e w6 ⟨rfl, hb⟩
  have B6 := Lib.hid (B5.out.trans (hb.mono B5.out.size))
  have L_6 := Lib.hid (L_5.out.later hb)
  clear hb B5 L_5
  go_wp2_with fail
  refine (K4.out _ L_6.out).mono ?_
  rintro e w7 ⟨rfl, hb⟩
  have B7 := Lib.hid (B6.out.trans (hb.mono B6.out.size))
  have L_7 := Lib.hid (L_6.out.later hb)
  clear hb B6 L_6
  go_wp2_with fail
  refine (K5.out _ L_7.out).mono ?_
  rintro e w8 ⟨rfl, hb⟩
  have B8 := Lib.hid (B7.out.trans (hb.mono B7.out.size))
  have L_8 := Lib.hid (L_7.out.later hb)
  clear hb B7 L_7
  go_wp2_with fail
  refine (K6.out _ L_8.out).mono ?_
  rintro e w9 ⟨rfl, hb⟩
  have B9 := Lib.hid (B8.out.trans (hb.mono B8.out.size))
  have L_9 := Lib.hid (L_8.out.later hb)
  clear hb B8 L_8
  go_wp2_with fail
  refine (K7.out _ L_9.out).mono ?_
  rintro e w10 ⟨rfl, hb⟩
  have B10 := Lib.hid (B9.out.trans (hb.mono B9.out.size))
  have L_10 := Lib.hid (L_9.out.later hb)
  clear hb B9 L_9
  go_wp2_with fail
  go_ret
  exact ⟨rfl, B10.out⟩
set_option maxHeartbeats 2000000 in
theorem common_true_false (p q o c : ByteArray) (hf1 : fitB (lA p) (lA q) = true) (hf2 : fitB (lA o) (lA ByteArray.empty) = true)
    (h1 : (∀ w, Len w → Calls Try.prog 26 #[.string p, .string q] w fun e w' => e = .returned (.tuple #[.string c, .int .i64 0]) ∧ Below w.heap.size w w'))
    (h2 : (∀ w, Len w → Calls Try.prog 26 #[.string q, .string p] w fun e w' => e = .returned (.tuple #[.string c, .int .i64 0]) ∧ Below w.heap.size w w'))
    (h3 : (∀ w, Len w → Calls Try.prog 24 #[.string p, .string c] w fun e w' => e = .returned (.tuple #[.bool true, .int .i64 0]) ∧ Below w.heap.size w w'))
    (h4 : (∀ w, Len w → Calls Try.prog 24 #[.string q, .string c] w fun e w' => e = .returned (.tuple #[.bool true, .int .i64 0]) ∧ Below w.heap.size w w'))
    (h5 : (∀ w, Len w → Calls Try.prog 24 #[.string p, .string o] w fun e w' => e = .returned (.tuple #[.bool true, .int .i64 0]) ∧ Below w.heap.size w w'))
    (h6 : (∀ w, Len w → Calls Try.prog 24 #[.string q, .string o] w fun e w' => e = .returned (.tuple #[.bool false, .int .i64 0]) ∧ Below w.heap.size w w'))
    (h7 : (∀ w, Len w → Calls Try.prog 24 #[.string c, .string o] w fun e w' => e = .returned (.tuple #[.bool false, .int .i64 0]) ∧ Below w.heap.size w w')) (w : World) (hl : Len w) : Calls Try.prog 7 #[.string p, .string q, .string o] w fun e w' => e = .returned (.bool true) ∧ Below w.heap.size w w' := by
  have KF1 := Lib.hid (fun w => fit_any p q true hf1 w)
  have KF2 := Lib.hid (fun w => fit_any o ByteArray.empty true hf2 w)
  have K1 := Lib.hid h1
  have K2 := Lib.hid h2
  have K3 := Lib.hid h3
  have K4 := Lib.hid h4
  have K5 := Lib.hid h5
  have K6 := Lib.hid h6
  have K7 := Lib.hid h7
  have B0 := Lib.hid (Below.refl w.heap.size w)
  have L_0 := Lib.hid hl
  clear hl hf1 hf2 h1 h2 h3 h4 h5 h6 h7
  go_enter Try.func7, Try.ntmps7
  go_wp2_with fail
  refine (alive_any _ L_0.out).mono ?_
  rintro e w1 ⟨rfl, hb⟩
  have B1 := Lib.hid (B0.out.trans (hb.mono B0.out.size))
  have L_1 := Lib.hid (L_0.out.later hb)
  clear hb B0 L_0
  go_wp2_with fail
  refine (KF1.out _).mono ?_
  rintro e w2 ⟨rfl, hb⟩
  have B2 := Lib.hid (B1.out.trans (hb.mono B1.out.size))
  have L_2 := Lib.hid (L_1.out.later hb)
  clear hb B1 L_1
  go_wp2_with fail
  refine (KF2.out _).mono ?_
  rintro e w3 ⟨rfl, hb⟩
  have B3 := Lib.hid (B2.out.trans (hb.mono B2.out.size))
  have L_3 := Lib.hid (L_2.out.later hb)
  clear hb B2 L_2
  go_wp2_with fail
  refine (K1.out _ L_3.out).mono ?_
  rintro e w4 ⟨rfl, hb⟩
  have B4 := Lib.hid (B3.out.trans (hb.mono B3.out.size))
  have L_4 := Lib.hid (L_3.out.later hb)
  clear hb B3 L_3
  go_wp2_with fail
  refine (K2.out _ L_4.out).mono ?_
  rintro e w5 ⟨rfl, hb⟩
  have B5 := Lib.hid (B4.out.trans (hb.mono B4.out.size))
  have L_5 := Lib.hid (L_4.out.later hb)
  clear hb B4 L_4
  go_wp2_with fail
  refine (K3.out _ L_5.out).mono ?_
  rintro e w6 ⟨rfl, hb⟩
  have B6 := Lib.hid (B5.out.trans (hb.mono B5.out.size))
  have L_6 := Lib.hid (L_5.out.later hb)
  clear hb B5 L_5
  go_wp2_with fail
  refine (K4.out _ L_6.out).mono ?_
  rintro e w7 ⟨rfl, hb⟩
  have B7 := Lib.hid (B6.out.trans (hb.mono B6.out.size))
  have L_7 := Lib.hid (L_6.out.later hb)
  clear hb B6 L_6
  go_wp2_with fail
  refine (K5.out _ L_7.out).mono ?_
  rintro e w8 ⟨rfl, hb⟩
  have B8 := Lib.hid (B7.out.trans (hb.mono B7.out.size))
  have L_8 := Lib.hid (L_7.out.later hb)
  clear hb B7 L_7
  go_wp2_with fail
  refine (K6.out _ L_8.out).mono ?_
  rintro e w9 ⟨rfl, hb⟩
  have B9 := Lib.hid (B8.out.trans (hb.mono B8.out.size))
  have L_9 := Lib.hid (L_8.out.later hb)
  clear hb B8 L_8
  go_wp2_with fail
  refine (K7.out _ L_9.out).mono ?_
  rintro e w10 ⟨rfl, hb⟩
  have B10 := Lib.hid (B9.out.trans (hb.mono B9.out.size))
  have L_10 := Lib.hid (L_9.out.later hb)
  clear hb B9 L_9
  go_wp2_with fail
  go_ret
  exact ⟨rfl, B10.out⟩
set_option maxHeartbeats 2000000 in
theorem common_false_true (p q o c : ByteArray) (hf1 : fitB (lA p) (lA q) = true) (hf2 : fitB (lA o) (lA ByteArray.empty) = true)
    (h1 : (∀ w, Len w → Calls Try.prog 26 #[.string p, .string q] w fun e w' => e = .returned (.tuple #[.string c, .int .i64 0]) ∧ Below w.heap.size w w'))
    (h2 : (∀ w, Len w → Calls Try.prog 26 #[.string q, .string p] w fun e w' => e = .returned (.tuple #[.string c, .int .i64 0]) ∧ Below w.heap.size w w'))
    (h3 : (∀ w, Len w → Calls Try.prog 24 #[.string p, .string c] w fun e w' => e = .returned (.tuple #[.bool true, .int .i64 0]) ∧ Below w.heap.size w w'))
    (h4 : (∀ w, Len w → Calls Try.prog 24 #[.string q, .string c] w fun e w' => e = .returned (.tuple #[.bool true, .int .i64 0]) ∧ Below w.heap.size w w'))
    (h5 : (∀ w, Len w → Calls Try.prog 24 #[.string p, .string o] w fun e w' => e = .returned (.tuple #[.bool false, .int .i64 0]) ∧ Below w.heap.size w w'))
    (h6 : (∀ w, Len w → Calls Try.prog 24 #[.string q, .string o] w fun e w' => e = .returned (.tuple #[.bool true, .int .i64 0]) ∧ Below w.heap.size w w'))
    (h7 : (∀ w, Len w → Calls Try.prog 24 #[.string c, .string o] w fun e w' => e = .returned (.tuple #[.bool false, .int .i64 0]) ∧ Below w.heap.size w w')) (w : World) (hl : Len w) : Calls Try.prog 7 #[.string p, .string q, .string o] w fun e w' => e = .returned (.bool true) ∧ Below w.heap.size w w' := by
  have KF1 := Lib.hid (fun w => fit_any p q true hf1 w)
  have KF2 := Lib.hid (fun w => fit_any o ByteArray.empty true hf2 w)
  have K1 := Lib.hid h1
  have K2 := Lib.hid h2
  have K3 := Lib.hid h3
  have K4 := Lib.hid h4
  have K5 := Lib.hid h5
  have K6 := Lib.hid h6
  have K7 := Lib.hid h7
  have B0 := Lib.hid (Below.refl w.heap.size w)
  have L_0 := Lib.hid hl
  clear hl hf1 hf2 h1 h2 h3 h4 h5 h6 h7
  go_enter Try.func7, Try.ntmps7
  go_wp2_with fail
  refine (alive_any _ L_0.out).mono ?_
  rintro e w1 ⟨rfl, hb⟩
  have B1 := Lib.hid (B0.out.trans (hb.mono B0.out.size))
  have L_1 := Lib.hid (L_0.out.later hb)
  clear hb B0 L_0
  go_wp2_with fail
  refine (KF1.out _).mono ?_
  rintro e w2 ⟨rfl, hb⟩
  have B2 := Lib.hid (B1.out.trans (hb.mono B1.out.size))
  have L_2 := Lib.hid (L_1.out.later hb)
  clear hb B1 L_1
  go_wp2_with fail
  refine (KF2.out _).mono ?_
  rintro e w3 ⟨rfl, hb⟩
  have B3 := Lib.hid (B2.out.trans (hb.mono B2.out.size))
  have L_3 := Lib.hid (L_2.out.later hb)
  clear hb B2 L_2
  go_wp2_with fail
  refine (K1.out _ L_3.out).mono ?_
  rintro e w4 ⟨rfl, hb⟩
  have B4 := Lib.hid (B3.out.trans (hb.mono B3.out.size))
  have L_4 := Lib.hid (L_3.out.later hb)
  clear hb B3 L_3
  go_wp2_with fail
  refine (K2.out _ L_4.out).mono ?_
  rintro e w5 ⟨rfl, hb⟩
  have B5 := Lib.hid (B4.out.trans (hb.mono B4.out.size))
  have L_5 := Lib.hid (L_4.out.later hb)
  clear hb B4 L_4
  go_wp2_with fail
  refine (K3.out _ L_5.out).mono ?_
  rintro e w6 ⟨rfl, hb⟩
  have B6 := Lib.hid (B5.out.trans (hb.mono B5.out.size))
  have L_6 := Lib.hid (L_5.out.later hb)
  clear hb B5 L_5
  go_wp2_with fail
  refine (K4.out _ L_6.out).mono ?_
  rintro e w7 ⟨rfl, hb⟩
  have B7 := Lib.hid (B6.out.trans (hb.mono B6.out.size))
  have L_7 := Lib.hid (L_6.out.later hb)
  clear hb B6 L_6
  go_wp2_with fail
  refine (K5.out _ L_7.out).mono ?_
  rintro e w8 ⟨rfl, hb⟩
  have B8 := Lib.hid (B7.out.trans (hb.mono B7.out.size))
  have L_8 := Lib.hid (L_7.out.later hb)
  clear hb B7 L_7
  go_wp2_with fail
  refine (K6.out _ L_8.out).mono ?_
  rintro e w9 ⟨rfl, hb⟩
  have B9 := Lib.hid (B8.out.trans (hb.mono B8.out.size))
  have L_9 := Lib.hid (L_8.out.later hb)
  clear hb B8 L_8
  go_wp2_with fail
  refine (K7.out _ L_9.out).mono ?_
  rintro e w10 ⟨rfl, hb⟩
  have B10 := Lib.hid (B9.out.trans (hb.mono B9.out.size))
  have L_10 := Lib.hid (L_9.out.later hb)
  clear hb B9 L_9
  go_wp2_with fail
  go_ret
  exact ⟨rfl, B10.out⟩
set_option maxHeartbeats 2000000 in
theorem common_false_false (p q o c : ByteArray) (hf1 : fitB (lA p) (lA q) = true) (hf2 : fitB (lA o) (lA ByteArray.empty) = true)
    (h1 : (∀ w, Len w → Calls Try.prog 26 #[.string p, .string q] w fun e w' => e = .returned (.tuple #[.string c, .int .i64 0]) ∧ Below w.heap.size w w'))
    (h2 : (∀ w, Len w → Calls Try.prog 26 #[.string q, .string p] w fun e w' => e = .returned (.tuple #[.string c, .int .i64 0]) ∧ Below w.heap.size w w'))
    (h3 : (∀ w, Len w → Calls Try.prog 24 #[.string p, .string c] w fun e w' => e = .returned (.tuple #[.bool true, .int .i64 0]) ∧ Below w.heap.size w w'))
    (h4 : (∀ w, Len w → Calls Try.prog 24 #[.string q, .string c] w fun e w' => e = .returned (.tuple #[.bool true, .int .i64 0]) ∧ Below w.heap.size w w'))
    (h5 : (∀ w, Len w → Calls Try.prog 24 #[.string p, .string o] w fun e w' => e = .returned (.tuple #[.bool false, .int .i64 0]) ∧ Below w.heap.size w w'))
    (h6 : (∀ w, Len w → Calls Try.prog 24 #[.string q, .string o] w fun e w' => e = .returned (.tuple #[.bool false, .int .i64 0]) ∧ Below w.heap.size w w'))
    (h7 : (∀ w, Len w → Calls Try.prog 24 #[.string c, .string o] w fun e w' => e = .returned (.tuple #[.bool false, .int .i64 0]) ∧ Below w.heap.size w w')) (w : World) (hl : Len w) : Calls Try.prog 7 #[.string p, .string q, .string o] w fun e w' => e = .returned (.bool true) ∧ Below w.heap.size w w' := by
  have KF1 := Lib.hid (fun w => fit_any p q true hf1 w)
  have KF2 := Lib.hid (fun w => fit_any o ByteArray.empty true hf2 w)
  have K1 := Lib.hid h1
  have K2 := Lib.hid h2
  have K3 := Lib.hid h3
  have K4 := Lib.hid h4
  have K5 := Lib.hid h5
  have K6 := Lib.hid h6
  have K7 := Lib.hid h7
  have B0 := Lib.hid (Below.refl w.heap.size w)
  have L_0 := Lib.hid hl
  clear hl hf1 hf2 h1 h2 h3 h4 h5 h6 h7
  go_enter Try.func7, Try.ntmps7
  go_wp2_with fail
  refine (alive_any _ L_0.out).mono ?_
  rintro e w1 ⟨rfl, hb⟩
  have B1 := Lib.hid (B0.out.trans (hb.mono B0.out.size))
  have L_1 := Lib.hid (L_0.out.later hb)
  clear hb B0 L_0
  go_wp2_with fail
  refine (KF1.out _).mono ?_
  rintro e w2 ⟨rfl, hb⟩
  have B2 := Lib.hid (B1.out.trans (hb.mono B1.out.size))
  have L_2 := Lib.hid (L_1.out.later hb)
  clear hb B1 L_1
  go_wp2_with fail
  refine (KF2.out _).mono ?_
  rintro e w3 ⟨rfl, hb⟩
  have B3 := Lib.hid (B2.out.trans (hb.mono B2.out.size))
  have L_3 := Lib.hid (L_2.out.later hb)
  clear hb B2 L_2
  go_wp2_with fail
  refine (K1.out _ L_3.out).mono ?_
  rintro e w4 ⟨rfl, hb⟩
  have B4 := Lib.hid (B3.out.trans (hb.mono B3.out.size))
  have L_4 := Lib.hid (L_3.out.later hb)
  clear hb B3 L_3
  go_wp2_with fail
  refine (K2.out _ L_4.out).mono ?_
  rintro e w5 ⟨rfl, hb⟩
  have B5 := Lib.hid (B4.out.trans (hb.mono B4.out.size))
  have L_5 := Lib.hid (L_4.out.later hb)
  clear hb B4 L_4
  go_wp2_with fail
  refine (K3.out _ L_5.out).mono ?_
  rintro e w6 ⟨rfl, hb⟩
  have B6 := Lib.hid (B5.out.trans (hb.mono B5.out.size))
  have L_6 := Lib.hid (L_5.out.later hb)
  clear hb B5 L_5
  go_wp2_with fail
  refine (K4.out _ L_6.out).mono ?_
  rintro e w7 ⟨rfl, hb⟩
  have B7 := Lib.hid (B6.out.trans (hb.mono B6.out.size))
  have L_7 := Lib.hid (L_6.out.later hb)
  clear hb B6 L_6
  go_wp2_with fail
  refine (K5.out _ L_7.out).mono ?_
  rintro e w8 ⟨rfl, hb⟩
  have B8 := Lib.hid (B7.out.trans (hb.mono B7.out.size))
  have L_8 := Lib.hid (L_7.out.later hb)
  clear hb B7 L_7
  go_wp2_with fail
  refine (K6.out _ L_8.out).mono ?_
  rintro e w9 ⟨rfl, hb⟩
  have B9 := Lib.hid (B8.out.trans (hb.mono B8.out.size))
  have L_9 := Lib.hid (L_8.out.later hb)
  clear hb B8 L_8
  go_wp2_with fail
  refine (K7.out _ L_9.out).mono ?_
  rintro e w10 ⟨rfl, hb⟩
  have B10 := Lib.hid (B9.out.trans (hb.mono B9.out.size))
  have L_10 := Lib.hid (L_9.out.later hb)
  clear hb B9 L_9
  go_wp2_with fail
  go_ret
  exact ⟨rfl, B10.out⟩
set_option maxHeartbeats 1000000 in
theorem order_not1 (p q r : ByteArray) (hf1 : fitB (lA p) (lA q) = false) (w : World) (hl : Len w) : Calls Try.prog 8 #[.string p, .string q, .string r] w fun e w' => e = .returned (.bool true) ∧ Below w.heap.size w w' := by
  have KF1 := Lib.hid (fun w => fit_any p q false hf1 w)
  have B0 := Lib.hid (Below.refl w.heap.size w)
  have L_0 := Lib.hid hl
  clear hl hf1
  go_enter Try.func8, Try.ntmps8
  go_wp2_with fail
  refine (alive_any _ L_0.out).mono ?_
  rintro e w1 ⟨rfl, hb⟩
  have B1 := Lib.hid (B0.out.trans (hb.mono B0.out.size))
  have L_1 := Lib.hid (L_0.out.later hb)
  clear hb B0 L_0
  go_wp2_with fail
  refine (KF1.out _).mono ?_
  rintro e w2 ⟨rfl, hb⟩
  have B2 := Lib.hid (B1.out.trans (hb.mono B1.out.size))
  have L_2 := Lib.hid (L_1.out.later hb)
  clear hb B1 L_1
  go_wp2_with fail
  go_ret
  exact ⟨rfl, B2.out⟩
set_option maxHeartbeats 1000000 in
theorem order_not2 (p q r : ByteArray) (hf1 : fitB (lA p) (lA q) = true) (hf2 : fitB (lA r) (lA ByteArray.empty) = false) (w : World) (hl : Len w) : Calls Try.prog 8 #[.string p, .string q, .string r] w fun e w' => e = .returned (.bool true) ∧ Below w.heap.size w w' := by
  have KF1 := Lib.hid (fun w => fit_any p q true hf1 w)
  have KF2 := Lib.hid (fun w => fit_any r ByteArray.empty false hf2 w)
  have B0 := Lib.hid (Below.refl w.heap.size w)
  have L_0 := Lib.hid hl
  clear hl hf1 hf2
  go_enter Try.func8, Try.ntmps8
  go_wp2_with fail
  refine (alive_any _ L_0.out).mono ?_
  rintro e w1 ⟨rfl, hb⟩
  have B1 := Lib.hid (B0.out.trans (hb.mono B0.out.size))
  have L_1 := Lib.hid (L_0.out.later hb)
  clear hb B0 L_0
  go_wp2_with fail
  refine (KF1.out _).mono ?_
  rintro e w2 ⟨rfl, hb⟩
  have B2 := Lib.hid (B1.out.trans (hb.mono B1.out.size))
  have L_2 := Lib.hid (L_1.out.later hb)
  clear hb B1 L_1
  go_wp2_with fail
  refine (KF2.out _).mono ?_
  rintro e w3 ⟨rfl, hb⟩
  have B3 := Lib.hid (B2.out.trans (hb.mono B2.out.size))
  have L_3 := Lib.hid (L_2.out.later hb)
  clear hb B2 L_2
  go_wp2_with fail
  go_ret
  exact ⟨rfl, B3.out⟩
set_option maxHeartbeats 2000000 in
theorem order_gt (p q r : ByteArray) (c d : Int) (hne : p ≠ q) (hf1 : fitB (lA p) (lA q) = true) (hf2 : fitB (lA r) (lA ByteArray.empty) = true)
    (h1 : (∀ w, Len w → Calls Try.prog 28 #[.string p, .string q] w fun e w' => e = .returned (.tuple #[.int .i64 (1), .int .i64 0]) ∧ Below w.heap.size w w'))
    (h2 : (∀ w, Len w → Calls Try.prog 28 #[.string q, .string p] w fun e w' => e = .returned (.tuple #[.int .i64 (-1), .int .i64 0]) ∧ Below w.heap.size w w'))
    (h3 : (∀ w, Len w → Calls Try.prog 28 #[.string q, .string r] w fun e w' => e = .returned (.tuple #[.int .i64 (c), .int .i64 0]) ∧ Below w.heap.size w w'))
    (h4 : (∀ w, Len w → Calls Try.prog 28 #[.string p, .string r] w fun e w' => e = .returned (.tuple #[.int .i64 (d), .int .i64 0]) ∧ Below w.heap.size w w')) (w : World) (hl : Len w) : Calls Try.prog 8 #[.string p, .string q, .string r] w fun e w' => e = .returned (.bool true) ∧ Below w.heap.size w w' := by
  have KF1 := Lib.hid (fun w => fit_any p q true hf1 w)
  have KF2 := Lib.hid (fun w => fit_any r ByteArray.empty true hf2 w)
  have K1 := Lib.hid h1
  have K2 := Lib.hid h2
  have K3 := Lib.hid h3
  have K4 := Lib.hid h4
  have B0 := Lib.hid (Below.refl w.heap.size w)
  have L_0 := Lib.hid hl
  have hne2 := bA_ne (x := lA p) (y := lA q) (fun e => hne (lA_inj e))
  rw [bA_lA, bA_lA] at hne2
  obtain ⟨e1, e2, e3⟩ := hne2
  clear hne
  clear hl hf1 hf2 h1 h2 h3 h4
  go_enter Try.func8, Try.ntmps8
  go_wp2_with fail
  refine (alive_any _ L_0.out).mono ?_
  rintro e w1 ⟨rfl, hb⟩
  have B1 := Lib.hid (B0.out.trans (hb.mono B0.out.size))
  have L_1 := Lib.hid (L_0.out.later hb)
  clear hb B0 L_0
  go_wp2_with fail
  refine (KF1.out _).mono ?_
  rintro e w2 ⟨rfl, hb⟩
  have B2 := Lib.hid (B1.out.trans (hb.mono B1.out.size))
  have L_2 := Lib.hid (L_1.out.later hb)
  clear hb B1 L_1
  go_wp2_with fail
  refine (KF2.out _).mono ?_
  rintro e w3 ⟨rfl, hb⟩
  have B3 := Lib.hid (B2.out.trans (hb.mono B2.out.size))
  have L_3 := Lib.hid (L_2.out.later hb)
  clear hb B2 L_2
  go_wp2_with fail
  refine (K1.out _ L_3.out).mono ?_
  rintro e w4 ⟨rfl, hb⟩
  have B4 := Lib.hid (B3.out.trans (hb.mono B3.out.size))
  have L_4 := Lib.hid (L_3.out.later hb)
  clear hb B3 L_3
  go_wp2_with fail
  refine (K2.out _ L_4.out).mono ?_
  rintro e w5 ⟨rfl, hb⟩
  have B5 := Lib.hid (B4.out.trans (hb.mono B4.out.size))
  have L_5 := Lib.hid (L_4.out.later hb)
  clear hb B4 L_4
  go_wp2_with fail
  refine (K3.out _ L_5.out).mono ?_
  rintro e w6 ⟨rfl, hb⟩
  have B6 := Lib.hid (B5.out.trans (hb.mono B5.out.size))
  have L_6 := Lib.hid (L_5.out.later hb)
  clear hb B5 L_5
  go_wp2_with fail
  refine (K4.out _ L_6.out).mono ?_
  rintro e w7 ⟨rfl, hb⟩
  have B7 := Lib.hid (B6.out.trans (hb.mono B6.out.size))
  have L_7 := Lib.hid (L_6.out.later hb)
  clear hb B6 L_6
  go_wp2_with fail
  go_ret
  exact ⟨rfl, B7.out⟩
set_option maxHeartbeats 2000000 in
theorem order_lt_gt (p q r : ByteArray) (d : Int) (hne : p ≠ q) (hf1 : fitB (lA p) (lA q) = true) (hf2 : fitB (lA r) (lA ByteArray.empty) = true)
    (h1 : (∀ w, Len w → Calls Try.prog 28 #[.string p, .string q] w fun e w' => e = .returned (.tuple #[.int .i64 (-1), .int .i64 0]) ∧ Below w.heap.size w w'))
    (h2 : (∀ w, Len w → Calls Try.prog 28 #[.string q, .string p] w fun e w' => e = .returned (.tuple #[.int .i64 (1), .int .i64 0]) ∧ Below w.heap.size w w'))
    (h3 : (∀ w, Len w → Calls Try.prog 28 #[.string q, .string r] w fun e w' => e = .returned (.tuple #[.int .i64 (1), .int .i64 0]) ∧ Below w.heap.size w w'))
    (h4 : (∀ w, Len w → Calls Try.prog 28 #[.string p, .string r] w fun e w' => e = .returned (.tuple #[.int .i64 (d), .int .i64 0]) ∧ Below w.heap.size w w')) (w : World) (hl : Len w) : Calls Try.prog 8 #[.string p, .string q, .string r] w fun e w' => e = .returned (.bool true) ∧ Below w.heap.size w w' := by
  have KF1 := Lib.hid (fun w => fit_any p q true hf1 w)
  have KF2 := Lib.hid (fun w => fit_any r ByteArray.empty true hf2 w)
  have K1 := Lib.hid h1
  have K2 := Lib.hid h2
  have K3 := Lib.hid h3
  have K4 := Lib.hid h4
  have B0 := Lib.hid (Below.refl w.heap.size w)
  have L_0 := Lib.hid hl
  have hne2 := bA_ne (x := lA p) (y := lA q) (fun e => hne (lA_inj e))
  rw [bA_lA, bA_lA] at hne2
  obtain ⟨e1, e2, e3⟩ := hne2
  clear hne
  clear hl hf1 hf2 h1 h2 h3 h4
  go_enter Try.func8, Try.ntmps8
  go_wp2_with fail
  refine (alive_any _ L_0.out).mono ?_
  rintro e w1 ⟨rfl, hb⟩
  have B1 := Lib.hid (B0.out.trans (hb.mono B0.out.size))
  have L_1 := Lib.hid (L_0.out.later hb)
  clear hb B0 L_0
  go_wp2_with fail
  refine (KF1.out _).mono ?_
  rintro e w2 ⟨rfl, hb⟩
  have B2 := Lib.hid (B1.out.trans (hb.mono B1.out.size))
  have L_2 := Lib.hid (L_1.out.later hb)
  clear hb B1 L_1
  go_wp2_with fail
  refine (KF2.out _).mono ?_
  rintro e w3 ⟨rfl, hb⟩
  have B3 := Lib.hid (B2.out.trans (hb.mono B2.out.size))
  have L_3 := Lib.hid (L_2.out.later hb)
  clear hb B2 L_2
  go_wp2_with fail
  refine (K1.out _ L_3.out).mono ?_
  rintro e w4 ⟨rfl, hb⟩
  have B4 := Lib.hid (B3.out.trans (hb.mono B3.out.size))
  have L_4 := Lib.hid (L_3.out.later hb)
  clear hb B3 L_3
  go_wp2_with fail
  refine (K2.out _ L_4.out).mono ?_
  rintro e w5 ⟨rfl, hb⟩
  have B5 := Lib.hid (B4.out.trans (hb.mono B4.out.size))
  have L_5 := Lib.hid (L_4.out.later hb)
  clear hb B4 L_4
  go_wp2_with fail
  refine (K3.out _ L_5.out).mono ?_
  rintro e w6 ⟨rfl, hb⟩
  have B6 := Lib.hid (B5.out.trans (hb.mono B5.out.size))
  have L_6 := Lib.hid (L_5.out.later hb)
  clear hb B5 L_5
  go_wp2_with fail
  refine (K4.out _ L_6.out).mono ?_
  rintro e w7 ⟨rfl, hb⟩
  have B7 := Lib.hid (B6.out.trans (hb.mono B6.out.size))
  have L_7 := Lib.hid (L_6.out.later hb)
  clear hb B6 L_6
  go_wp2_with fail
  go_ret
  exact ⟨rfl, B7.out⟩
set_option maxHeartbeats 2000000 in
theorem order_lt_eq (p q r : ByteArray) (hne : p ≠ q) (hf1 : fitB (lA p) (lA q) = true) (hf2 : fitB (lA r) (lA ByteArray.empty) = true)
    (h1 : (∀ w, Len w → Calls Try.prog 28 #[.string p, .string q] w fun e w' => e = .returned (.tuple #[.int .i64 (-1), .int .i64 0]) ∧ Below w.heap.size w w'))
    (h2 : (∀ w, Len w → Calls Try.prog 28 #[.string q, .string p] w fun e w' => e = .returned (.tuple #[.int .i64 (1), .int .i64 0]) ∧ Below w.heap.size w w'))
    (h3 : (∀ w, Len w → Calls Try.prog 28 #[.string q, .string r] w fun e w' => e = .returned (.tuple #[.int .i64 (0), .int .i64 0]) ∧ Below w.heap.size w w'))
    (h4 : (∀ w, Len w → Calls Try.prog 28 #[.string p, .string r] w fun e w' => e = .returned (.tuple #[.int .i64 (-1), .int .i64 0]) ∧ Below w.heap.size w w')) (w : World) (hl : Len w) : Calls Try.prog 8 #[.string p, .string q, .string r] w fun e w' => e = .returned (.bool true) ∧ Below w.heap.size w w' := by
  have KF1 := Lib.hid (fun w => fit_any p q true hf1 w)
  have KF2 := Lib.hid (fun w => fit_any r ByteArray.empty true hf2 w)
  have K1 := Lib.hid h1
  have K2 := Lib.hid h2
  have K3 := Lib.hid h3
  have K4 := Lib.hid h4
  have B0 := Lib.hid (Below.refl w.heap.size w)
  have L_0 := Lib.hid hl
  have hne2 := bA_ne (x := lA p) (y := lA q) (fun e => hne (lA_inj e))
  rw [bA_lA, bA_lA] at hne2
  obtain ⟨e1, e2, e3⟩ := hne2
  clear hne
  clear hl hf1 hf2 h1 h2 h3 h4
  go_enter Try.func8, Try.ntmps8
  go_wp2_with fail
  refine (alive_any _ L_0.out).mono ?_
  rintro e w1 ⟨rfl, hb⟩
  have B1 := Lib.hid (B0.out.trans (hb.mono B0.out.size))
  have L_1 := Lib.hid (L_0.out.later hb)
  clear hb B0 L_0
  go_wp2_with fail
  refine (KF1.out _).mono ?_
  rintro e w2 ⟨rfl, hb⟩
  have B2 := Lib.hid (B1.out.trans (hb.mono B1.out.size))
  have L_2 := Lib.hid (L_1.out.later hb)
  clear hb B1 L_1
  go_wp2_with fail
  refine (KF2.out _).mono ?_
  rintro e w3 ⟨rfl, hb⟩
  have B3 := Lib.hid (B2.out.trans (hb.mono B2.out.size))
  have L_3 := Lib.hid (L_2.out.later hb)
  clear hb B2 L_2
  go_wp2_with fail
  refine (K1.out _ L_3.out).mono ?_
  rintro e w4 ⟨rfl, hb⟩
  have B4 := Lib.hid (B3.out.trans (hb.mono B3.out.size))
  have L_4 := Lib.hid (L_3.out.later hb)
  clear hb B3 L_3
  go_wp2_with fail
  refine (K2.out _ L_4.out).mono ?_
  rintro e w5 ⟨rfl, hb⟩
  have B5 := Lib.hid (B4.out.trans (hb.mono B4.out.size))
  have L_5 := Lib.hid (L_4.out.later hb)
  clear hb B4 L_4
  go_wp2_with fail
  refine (K3.out _ L_5.out).mono ?_
  rintro e w6 ⟨rfl, hb⟩
  have B6 := Lib.hid (B5.out.trans (hb.mono B5.out.size))
  have L_6 := Lib.hid (L_5.out.later hb)
  clear hb B5 L_5
  go_wp2_with fail
  refine (K4.out _ L_6.out).mono ?_
  rintro e w7 ⟨rfl, hb⟩
  have B7 := Lib.hid (B6.out.trans (hb.mono B6.out.size))
  have L_7 := Lib.hid (L_6.out.later hb)
  clear hb B6 L_6
  go_wp2_with fail
  go_ret
  exact ⟨rfl, B7.out⟩
set_option maxHeartbeats 2000000 in
theorem order_lt_lt (p q r : ByteArray) (hne : p ≠ q) (hf1 : fitB (lA p) (lA q) = true) (hf2 : fitB (lA r) (lA ByteArray.empty) = true)
    (h1 : (∀ w, Len w → Calls Try.prog 28 #[.string p, .string q] w fun e w' => e = .returned (.tuple #[.int .i64 (-1), .int .i64 0]) ∧ Below w.heap.size w w'))
    (h2 : (∀ w, Len w → Calls Try.prog 28 #[.string q, .string p] w fun e w' => e = .returned (.tuple #[.int .i64 (1), .int .i64 0]) ∧ Below w.heap.size w w'))
    (h3 : (∀ w, Len w → Calls Try.prog 28 #[.string q, .string r] w fun e w' => e = .returned (.tuple #[.int .i64 (-1), .int .i64 0]) ∧ Below w.heap.size w w'))
    (h4 : (∀ w, Len w → Calls Try.prog 28 #[.string p, .string r] w fun e w' => e = .returned (.tuple #[.int .i64 (-1), .int .i64 0]) ∧ Below w.heap.size w w')) (w : World) (hl : Len w) : Calls Try.prog 8 #[.string p, .string q, .string r] w fun e w' => e = .returned (.bool true) ∧ Below w.heap.size w w' := by
  have KF1 := Lib.hid (fun w => fit_any p q true hf1 w)
  have KF2 := Lib.hid (fun w => fit_any r ByteArray.empty true hf2 w)
  have K1 := Lib.hid h1
  have K2 := Lib.hid h2
  have K3 := Lib.hid h3
  have K4 := Lib.hid h4
  have B0 := Lib.hid (Below.refl w.heap.size w)
  have L_0 := Lib.hid hl
  have hne2 := bA_ne (x := lA p) (y := lA q) (fun e => hne (lA_inj e))
  rw [bA_lA, bA_lA] at hne2
  obtain ⟨e1, e2, e3⟩ := hne2
  clear hne
  clear hl hf1 hf2 h1 h2 h3 h4
  go_enter Try.func8, Try.ntmps8
  go_wp2_with fail
  refine (alive_any _ L_0.out).mono ?_
  rintro e w1 ⟨rfl, hb⟩
  have B1 := Lib.hid (B0.out.trans (hb.mono B0.out.size))
  have L_1 := Lib.hid (L_0.out.later hb)
  clear hb B0 L_0
  go_wp2_with fail
  refine (KF1.out _).mono ?_
  rintro e w2 ⟨rfl, hb⟩
  have B2 := Lib.hid (B1.out.trans (hb.mono B1.out.size))
  have L_2 := Lib.hid (L_1.out.later hb)
  clear hb B1 L_1
  go_wp2_with fail
  refine (KF2.out _).mono ?_
  rintro e w3 ⟨rfl, hb⟩
  have B3 := Lib.hid (B2.out.trans (hb.mono B2.out.size))
  have L_3 := Lib.hid (L_2.out.later hb)
  clear hb B2 L_2
  go_wp2_with fail
  refine (K1.out _ L_3.out).mono ?_
  rintro e w4 ⟨rfl, hb⟩
  have B4 := Lib.hid (B3.out.trans (hb.mono B3.out.size))
  have L_4 := Lib.hid (L_3.out.later hb)
  clear hb B3 L_3
  go_wp2_with fail
  refine (K2.out _ L_4.out).mono ?_
  rintro e w5 ⟨rfl, hb⟩
  have B5 := Lib.hid (B4.out.trans (hb.mono B4.out.size))
  have L_5 := Lib.hid (L_4.out.later hb)
  clear hb B4 L_4
  go_wp2_with fail
  refine (K3.out _ L_5.out).mono ?_
  rintro e w6 ⟨rfl, hb⟩
  have B6 := Lib.hid (B5.out.trans (hb.mono B5.out.size))
  have L_6 := Lib.hid (L_5.out.later hb)
  clear hb B5 L_5
  go_wp2_with fail
  refine (K4.out _ L_6.out).mono ?_
  rintro e w7 ⟨rfl, hb⟩
  have B7 := Lib.hid (B6.out.trans (hb.mono B6.out.size))
  have L_7 := Lib.hid (L_6.out.later hb)
  clear hb B6 L_6
  go_wp2_with fail
  go_ret
  exact ⟨rfl, B7.out⟩
set_option maxHeartbeats 2000000 in
theorem order_eq_gt (p r : ByteArray) (d : Int) (hf1 : fitB (lA p) (lA p) = true) (hf2 : fitB (lA r) (lA ByteArray.empty) = true)
    (h1 : (∀ w, Len w → Calls Try.prog 28 #[.string p, .string p] w fun e w' => e = .returned (.tuple #[.int .i64 (0), .int .i64 0]) ∧ Below w.heap.size w w'))
    (h2 : (∀ w, Len w → Calls Try.prog 28 #[.string p, .string p] w fun e w' => e = .returned (.tuple #[.int .i64 (0), .int .i64 0]) ∧ Below w.heap.size w w'))
    (h3 : (∀ w, Len w → Calls Try.prog 28 #[.string p, .string r] w fun e w' => e = .returned (.tuple #[.int .i64 (1), .int .i64 0]) ∧ Below w.heap.size w w'))
    (h4 : (∀ w, Len w → Calls Try.prog 28 #[.string p, .string r] w fun e w' => e = .returned (.tuple #[.int .i64 (d), .int .i64 0]) ∧ Below w.heap.size w w')) (w : World) (hl : Len w) : Calls Try.prog 8 #[.string p, .string p, .string r] w fun e w' => e = .returned (.bool true) ∧ Below w.heap.size w w' := by
  have KF1 := Lib.hid (fun w => fit_any p p true hf1 w)
  have KF2 := Lib.hid (fun w => fit_any r ByteArray.empty true hf2 w)
  have K1 := Lib.hid h1
  have K2 := Lib.hid h2
  have K3 := Lib.hid h3
  have K4 := Lib.hid h4
  have B0 := Lib.hid (Below.refl w.heap.size w)
  have L_0 := Lib.hid hl
  clear hl hf1 hf2 h1 h2 h3 h4
  go_enter Try.func8, Try.ntmps8
  go_wp2_with fail
  refine (alive_any _ L_0.out).mono ?_
  rintro e w1 ⟨rfl, hb⟩
  have B1 := Lib.hid (B0.out.trans (hb.mono B0.out.size))
  have L_1 := Lib.hid (L_0.out.later hb)
  clear hb B0 L_0
  go_wp2_with fail
  refine (KF1.out _).mono ?_
  rintro e w2 ⟨rfl, hb⟩
  have B2 := Lib.hid (B1.out.trans (hb.mono B1.out.size))
  have L_2 := Lib.hid (L_1.out.later hb)
  clear hb B1 L_1
  go_wp2_with fail
  refine (KF2.out _).mono ?_
  rintro e w3 ⟨rfl, hb⟩
  have B3 := Lib.hid (B2.out.trans (hb.mono B2.out.size))
  have L_3 := Lib.hid (L_2.out.later hb)
  clear hb B2 L_2
  go_wp2_with fail
  refine (K1.out _ L_3.out).mono ?_
  rintro e w4 ⟨rfl, hb⟩
  have B4 := Lib.hid (B3.out.trans (hb.mono B3.out.size))
  have L_4 := Lib.hid (L_3.out.later hb)
  clear hb B3 L_3
  go_wp2_with fail
  refine (K2.out _ L_4.out).mono ?_
  rintro e w5 ⟨rfl, hb⟩
  have B5 := Lib.hid (B4.out.trans (hb.mono B4.out.size))
  have L_5 := Lib.hid (L_4.out.later hb)
  clear hb B4 L_4
  go_wp2_with fail
  refine (K3.out _ L_5.out).mono ?_
  rintro e w6 ⟨rfl, hb⟩
  have B6 := Lib.hid (B5.out.trans (hb.mono B5.out.size))
  have L_6 := Lib.hid (L_5.out.later hb)
  clear hb B5 L_5
  go_wp2_with fail
  refine (K4.out _ L_6.out).mono ?_
  rintro e w7 ⟨rfl, hb⟩
  have B7 := Lib.hid (B6.out.trans (hb.mono B6.out.size))
  have L_7 := Lib.hid (L_6.out.later hb)
  clear hb B6 L_6
  go_wp2_with fail
  go_ret
  exact ⟨rfl, B7.out⟩
set_option maxHeartbeats 2000000 in
theorem order_eq_eq (p r : ByteArray) (hf1 : fitB (lA p) (lA p) = true) (hf2 : fitB (lA r) (lA ByteArray.empty) = true)
    (h1 : (∀ w, Len w → Calls Try.prog 28 #[.string p, .string p] w fun e w' => e = .returned (.tuple #[.int .i64 (0), .int .i64 0]) ∧ Below w.heap.size w w'))
    (h2 : (∀ w, Len w → Calls Try.prog 28 #[.string p, .string p] w fun e w' => e = .returned (.tuple #[.int .i64 (0), .int .i64 0]) ∧ Below w.heap.size w w'))
    (h3 : (∀ w, Len w → Calls Try.prog 28 #[.string p, .string r] w fun e w' => e = .returned (.tuple #[.int .i64 (0), .int .i64 0]) ∧ Below w.heap.size w w'))
    (h4 : (∀ w, Len w → Calls Try.prog 28 #[.string p, .string r] w fun e w' => e = .returned (.tuple #[.int .i64 (0), .int .i64 0]) ∧ Below w.heap.size w w')) (w : World) (hl : Len w) : Calls Try.prog 8 #[.string p, .string p, .string r] w fun e w' => e = .returned (.bool true) ∧ Below w.heap.size w w' := by
  have KF1 := Lib.hid (fun w => fit_any p p true hf1 w)
  have KF2 := Lib.hid (fun w => fit_any r ByteArray.empty true hf2 w)
  have K1 := Lib.hid h1
  have K2 := Lib.hid h2
  have K3 := Lib.hid h3
  have K4 := Lib.hid h4
  have B0 := Lib.hid (Below.refl w.heap.size w)
  have L_0 := Lib.hid hl
  clear hl hf1 hf2 h1 h2 h3 h4
  go_enter Try.func8, Try.ntmps8
  go_wp2_with fail
  refine (alive_any _ L_0.out).mono ?_
  rintro e w1 ⟨rfl, hb⟩
  have B1 := Lib.hid (B0.out.trans (hb.mono B0.out.size))
  have L_1 := Lib.hid (L_0.out.later hb)
  clear hb B0 L_0
  go_wp2_with fail
  refine (KF1.out _).mono ?_
  rintro e w2 ⟨rfl, hb⟩
  have B2 := Lib.hid (B1.out.trans (hb.mono B1.out.size))
  have L_2 := Lib.hid (L_1.out.later hb)
  clear hb B1 L_1
  go_wp2_with fail
  refine (KF2.out _).mono ?_
  rintro e w3 ⟨rfl, hb⟩
  have B3 := Lib.hid (B2.out.trans (hb.mono B2.out.size))
  have L_3 := Lib.hid (L_2.out.later hb)
  clear hb B2 L_2
  go_wp2_with fail
  refine (K1.out _ L_3.out).mono ?_
  rintro e w4 ⟨rfl, hb⟩
  have B4 := Lib.hid (B3.out.trans (hb.mono B3.out.size))
  have L_4 := Lib.hid (L_3.out.later hb)
  clear hb B3 L_3
  go_wp2_with fail
  refine (K2.out _ L_4.out).mono ?_
  rintro e w5 ⟨rfl, hb⟩
  have B5 := Lib.hid (B4.out.trans (hb.mono B4.out.size))
  have L_5 := Lib.hid (L_4.out.later hb)
  clear hb B4 L_4
  go_wp2_with fail
  refine (K3.out _ L_5.out).mono ?_
  rintro e w6 ⟨rfl, hb⟩
  have B6 := Lib.hid (B5.out.trans (hb.mono B5.out.size))
  have L_6 := Lib.hid (L_5.out.later hb)
  clear hb B5 L_5
  go_wp2_with fail
  refine (K4.out _ L_6.out).mono ?_
  rintro e w7 ⟨rfl, hb⟩
  have B7 := Lib.hid (B6.out.trans (hb.mono B6.out.size))
  have L_7 := Lib.hid (L_6.out.later hb)
  clear hb B6 L_6
  go_wp2_with fail
  go_ret
  exact ⟨rfl, B7.out⟩
set_option maxHeartbeats 2000000 in
theorem order_eq_lt (p r : ByteArray) (hf1 : fitB (lA p) (lA p) = true) (hf2 : fitB (lA r) (lA ByteArray.empty) = true)
    (h1 : (∀ w, Len w → Calls Try.prog 28 #[.string p, .string p] w fun e w' => e = .returned (.tuple #[.int .i64 (0), .int .i64 0]) ∧ Below w.heap.size w w'))
    (h2 : (∀ w, Len w → Calls Try.prog 28 #[.string p, .string p] w fun e w' => e = .returned (.tuple #[.int .i64 (0), .int .i64 0]) ∧ Below w.heap.size w w'))
    (h3 : (∀ w, Len w → Calls Try.prog 28 #[.string p, .string r] w fun e w' => e = .returned (.tuple #[.int .i64 (-1), .int .i64 0]) ∧ Below w.heap.size w w'))
    (h4 : (∀ w, Len w → Calls Try.prog 28 #[.string p, .string r] w fun e w' => e = .returned (.tuple #[.int .i64 (-1), .int .i64 0]) ∧ Below w.heap.size w w')) (w : World) (hl : Len w) : Calls Try.prog 8 #[.string p, .string p, .string r] w fun e w' => e = .returned (.bool true) ∧ Below w.heap.size w w' := by
  have KF1 := Lib.hid (fun w => fit_any p p true hf1 w)
  have KF2 := Lib.hid (fun w => fit_any r ByteArray.empty true hf2 w)
  have K1 := Lib.hid h1
  have K2 := Lib.hid h2
  have K3 := Lib.hid h3
  have K4 := Lib.hid h4
  have B0 := Lib.hid (Below.refl w.heap.size w)
  have L_0 := Lib.hid hl
  clear hl hf1 hf2 h1 h2 h3 h4
  go_enter Try.func8, Try.ntmps8
  go_wp2_with fail
  refine (alive_any _ L_0.out).mono ?_
  rintro e w1 ⟨rfl, hb⟩
  have B1 := Lib.hid (B0.out.trans (hb.mono B0.out.size))
  have L_1 := Lib.hid (L_0.out.later hb)
  clear hb B0 L_0
  go_wp2_with fail
  refine (KF1.out _).mono ?_
  rintro e w2 ⟨rfl, hb⟩
  have B2 := Lib.hid (B1.out.trans (hb.mono B1.out.size))
  have L_2 := Lib.hid (L_1.out.later hb)
  clear hb B1 L_1
  go_wp2_with fail
  refine (KF2.out _).mono ?_
  rintro e w3 ⟨rfl, hb⟩
  have B3 := Lib.hid (B2.out.trans (hb.mono B2.out.size))
  have L_3 := Lib.hid (L_2.out.later hb)
  clear hb B2 L_2
  go_wp2_with fail
  refine (K1.out _ L_3.out).mono ?_
  rintro e w4 ⟨rfl, hb⟩
  have B4 := Lib.hid (B3.out.trans (hb.mono B3.out.size))
  have L_4 := Lib.hid (L_3.out.later hb)
  clear hb B3 L_3
  go_wp2_with fail
  refine (K2.out _ L_4.out).mono ?_
  rintro e w5 ⟨rfl, hb⟩
  have B5 := Lib.hid (B4.out.trans (hb.mono B4.out.size))
  have L_5 := Lib.hid (L_4.out.later hb)
  clear hb B4 L_4
  go_wp2_with fail
  refine (K3.out _ L_5.out).mono ?_
  rintro e w6 ⟨rfl, hb⟩
  have B6 := Lib.hid (B5.out.trans (hb.mono B5.out.size))
  have L_6 := Lib.hid (L_5.out.later hb)
  clear hb B5 L_5
  go_wp2_with fail
  refine (K4.out _ L_6.out).mono ?_
  rintro e w7 ⟨rfl, hb⟩
  have B7 := Lib.hid (B6.out.trans (hb.mono B6.out.size))
  have L_7 := Lib.hid (L_6.out.later hb)
  clear hb B6 L_6
  go_wp2_with fail
  go_ret
  exact ⟨rfl, B7.out⟩
set_option maxHeartbeats 1000000 in
theorem near_not1 (p q r : ByteArray) (hf1 : fitB (lA p) (lA q) = false) (w : World) (hl : Len w) : Calls Try.prog 9 #[.string p, .string q, .string r] w fun e w' => e = .returned (.bool true) ∧ Below w.heap.size w w' := by
  have KF1 := Lib.hid (fun w => fit_any p q false hf1 w)
  have B0 := Lib.hid (Below.refl w.heap.size w)
  have L_0 := Lib.hid hl
  clear hl hf1
  go_enter Try.func9, Try.ntmps9
  go_wp2_with fail
  refine (alive_any _ L_0.out).mono ?_
  rintro e w1 ⟨rfl, hb⟩
  have B1 := Lib.hid (B0.out.trans (hb.mono B0.out.size))
  have L_1 := Lib.hid (L_0.out.later hb)
  clear hb B0 L_0
  go_wp2_with fail
  refine (KF1.out _).mono ?_
  rintro e w2 ⟨rfl, hb⟩
  have B2 := Lib.hid (B1.out.trans (hb.mono B1.out.size))
  have L_2 := Lib.hid (L_1.out.later hb)
  clear hb B1 L_1
  go_wp2_with fail
  go_ret
  exact ⟨rfl, B2.out⟩
set_option maxHeartbeats 1000000 in
theorem near_not2 (p q r : ByteArray) (hf1 : fitB (lA p) (lA q) = true) (hf2 : fitB (lA r) (lA ByteArray.empty) = false) (w : World) (hl : Len w) : Calls Try.prog 9 #[.string p, .string q, .string r] w fun e w' => e = .returned (.bool true) ∧ Below w.heap.size w w' := by
  have KF1 := Lib.hid (fun w => fit_any p q true hf1 w)
  have KF2 := Lib.hid (fun w => fit_any r ByteArray.empty false hf2 w)
  have B0 := Lib.hid (Below.refl w.heap.size w)
  have L_0 := Lib.hid hl
  clear hl hf1 hf2
  go_enter Try.func9, Try.ntmps9
  go_wp2_with fail
  refine (alive_any _ L_0.out).mono ?_
  rintro e w1 ⟨rfl, hb⟩
  have B1 := Lib.hid (B0.out.trans (hb.mono B0.out.size))
  have L_1 := Lib.hid (L_0.out.later hb)
  clear hb B0 L_0
  go_wp2_with fail
  refine (KF1.out _).mono ?_
  rintro e w2 ⟨rfl, hb⟩
  have B2 := Lib.hid (B1.out.trans (hb.mono B1.out.size))
  have L_2 := Lib.hid (L_1.out.later hb)
  clear hb B1 L_1
  go_wp2_with fail
  refine (KF2.out _).mono ?_
  rintro e w3 ⟨rfl, hb⟩
  have B3 := Lib.hid (B2.out.trans (hb.mono B2.out.size))
  have L_3 := Lib.hid (L_2.out.later hb)
  clear hb B2 L_2
  go_wp2_with fail
  go_ret
  exact ⟨rfl, B3.out⟩
set_option maxHeartbeats 2000000 in
theorem near_off (p q r : ByteArray) (a b c : Int) (t : Bool) (hf1 : fitB (lA p) (lA q) = true) (hf2 : fitB (lA r) (lA ByteArray.empty) = true)
    (h1 : (∀ w, Len w → Calls Try.prog 24 #[.string q, .string p] w fun e w' => e = .returned (.tuple #[.bool false, .int .i64 0]) ∧ Below w.heap.size w w'))
    (h2 : (∀ w, Len w → Calls Try.prog 24 #[.string r, .string p] w fun e w' => e = .returned (.tuple #[.bool t, .int .i64 0]) ∧ Below w.heap.size w w'))
    (h3 : (∀ w, Len w → Calls Try.prog 28 #[.string p, .string q] w fun e w' => e = .returned (.tuple #[.int .i64 (a), .int .i64 0]) ∧ Below w.heap.size w w'))
    (h4 : (∀ w, Len w → Calls Try.prog 28 #[.string p, .string r] w fun e w' => e = .returned (.tuple #[.int .i64 (b), .int .i64 0]) ∧ Below w.heap.size w w'))
    (h5 : (∀ w, Len w → Calls Try.prog 28 #[.string q, .string r] w fun e w' => e = .returned (.tuple #[.int .i64 (c), .int .i64 0]) ∧ Below w.heap.size w w')) (w : World) (hl : Len w) : Calls Try.prog 9 #[.string p, .string q, .string r] w fun e w' => e = .returned (.bool true) ∧ Below w.heap.size w w' := by
  have KF1 := Lib.hid (fun w => fit_any p q true hf1 w)
  have KF2 := Lib.hid (fun w => fit_any r ByteArray.empty true hf2 w)
  have K1 := Lib.hid h1
  have K2 := Lib.hid h2
  have K3 := Lib.hid h3
  have K4 := Lib.hid h4
  have K5 := Lib.hid h5
  have B0 := Lib.hid (Below.refl w.heap.size w)
  have L_0 := Lib.hid hl
  clear hl hf1 hf2 h1 h2 h3 h4 h5
  go_enter Try.func9, Try.ntmps9
  go_wp2_with fail
  refine (alive_any _ L_0.out).mono ?_
  rintro e w1 ⟨rfl, hb⟩
  have B1 := Lib.hid (B0.out.trans (hb.mono B0.out.size))
  have L_1 := Lib.hid (L_0.out.later hb)
  clear hb B0 L_0
  go_wp2_with fail
  refine (KF1.out _).mono ?_
  rintro e w2 ⟨rfl, hb⟩
  have B2 := Lib.hid (B1.out.trans (hb.mono B1.out.size))
  have L_2 := Lib.hid (L_1.out.later hb)
  clear hb B1 L_1
  go_wp2_with fail
  refine (KF2.out _).mono ?_
  rintro e w3 ⟨rfl, hb⟩
  have B3 := Lib.hid (B2.out.trans (hb.mono B2.out.size))
  have L_3 := Lib.hid (L_2.out.later hb)
  clear hb B2 L_2
  go_wp2_with fail
  refine (K1.out _ L_3.out).mono ?_
  rintro e w4 ⟨rfl, hb⟩
  have B4 := Lib.hid (B3.out.trans (hb.mono B3.out.size))
  have L_4 := Lib.hid (L_3.out.later hb)
  clear hb B3 L_3
  go_wp2_with fail
  refine (K2.out _ L_4.out).mono ?_
  rintro e w5 ⟨rfl, hb⟩
  have B5 := Lib.hid (B4.out.trans (hb.mono B4.out.size))
  have L_5 := Lib.hid (L_4.out.later hb)
  clear hb B4 L_4
  go_wp2_with fail
  refine (K3.out _ L_5.out).mono ?_
  rintro e w6 ⟨rfl, hb⟩
  have B6 := Lib.hid (B5.out.trans (hb.mono B5.out.size))
  have L_6 := Lib.hid (L_5.out.later hb)
  clear hb B5 L_5
  go_wp2_with fail
  refine (K4.out _ L_6.out).mono ?_
  rintro e w7 ⟨rfl, hb⟩
  have B7 := Lib.hid (B6.out.trans (hb.mono B6.out.size))
  have L_7 := Lib.hid (L_6.out.later hb)
  clear hb B6 L_6
  go_wp2_with fail
  refine (K5.out _ L_7.out).mono ?_
  rintro e w8 ⟨rfl, hb⟩
  have B8 := Lib.hid (B7.out.trans (hb.mono B7.out.size))
  have L_8 := Lib.hid (L_7.out.later hb)
  clear hb B7 L_7
  go_wp2_with fail
  go_ret
  exact ⟨rfl, B8.out⟩
set_option maxHeartbeats 2000000 in
theorem near_both (p q r : ByteArray) (a b c : Int) (ha : a ≤ 0) (hf1 : fitB (lA p) (lA q) = true) (hf2 : fitB (lA r) (lA ByteArray.empty) = true)
    (h1 : (∀ w, Len w → Calls Try.prog 24 #[.string q, .string p] w fun e w' => e = .returned (.tuple #[.bool true, .int .i64 0]) ∧ Below w.heap.size w w'))
    (h2 : (∀ w, Len w → Calls Try.prog 24 #[.string r, .string p] w fun e w' => e = .returned (.tuple #[.bool true, .int .i64 0]) ∧ Below w.heap.size w w'))
    (h3 : (∀ w, Len w → Calls Try.prog 28 #[.string p, .string q] w fun e w' => e = .returned (.tuple #[.int .i64 (a), .int .i64 0]) ∧ Below w.heap.size w w'))
    (h4 : (∀ w, Len w → Calls Try.prog 28 #[.string p, .string r] w fun e w' => e = .returned (.tuple #[.int .i64 (b), .int .i64 0]) ∧ Below w.heap.size w w'))
    (h5 : (∀ w, Len w → Calls Try.prog 28 #[.string q, .string r] w fun e w' => e = .returned (.tuple #[.int .i64 (c), .int .i64 0]) ∧ Below w.heap.size w w')) (w : World) (hl : Len w) : Calls Try.prog 9 #[.string p, .string q, .string r] w fun e w' => e = .returned (.bool true) ∧ Below w.heap.size w w' := by
  have KF1 := Lib.hid (fun w => fit_any p q true hf1 w)
  have KF2 := Lib.hid (fun w => fit_any r ByteArray.empty true hf2 w)
  have K1 := Lib.hid h1
  have K2 := Lib.hid h2
  have K3 := Lib.hid h3
  have K4 := Lib.hid h4
  have K5 := Lib.hid h5
  have B0 := Lib.hid (Below.refl w.heap.size w)
  have L_0 := Lib.hid hl
  have a1 : ¬ (0 : Int) < a := by omega
  have a2 : decide ((0 : Int) < a) = false := decide_eq_false a1
  clear hl hf1 hf2 h1 h2 h3 h4 h5
  go_enter Try.func9, Try.ntmps9
  go_wp2_with fail
  refine (alive_any _ L_0.out).mono ?_
  rintro e w1 ⟨rfl, hb⟩
  have B1 := Lib.hid (B0.out.trans (hb.mono B0.out.size))
  have L_1 := Lib.hid (L_0.out.later hb)
  clear hb B0 L_0
  go_wp2_with fail
  refine (KF1.out _).mono ?_
  rintro e w2 ⟨rfl, hb⟩
  have B2 := Lib.hid (B1.out.trans (hb.mono B1.out.size))
  have L_2 := Lib.hid (L_1.out.later hb)
  clear hb B1 L_1
  go_wp2_with fail
  refine (KF2.out _).mono ?_
  rintro e w3 ⟨rfl, hb⟩
  have B3 := Lib.hid (B2.out.trans (hb.mono B2.out.size))
  have L_3 := Lib.hid (L_2.out.later hb)
  clear hb B2 L_2
  go_wp2_with fail
  refine (K1.out _ L_3.out).mono ?_
  rintro e w4 ⟨rfl, hb⟩
  have B4 := Lib.hid (B3.out.trans (hb.mono B3.out.size))
  have L_4 := Lib.hid (L_3.out.later hb)
  clear hb B3 L_3
  go_wp2_with fail
  refine (K2.out _ L_4.out).mono ?_
  rintro e w5 ⟨rfl, hb⟩
  have B5 := Lib.hid (B4.out.trans (hb.mono B4.out.size))
  have L_5 := Lib.hid (L_4.out.later hb)
  clear hb B4 L_4
  go_wp2_with fail
  refine (K3.out _ L_5.out).mono ?_
  rintro e w6 ⟨rfl, hb⟩
  have B6 := Lib.hid (B5.out.trans (hb.mono B5.out.size))
  have L_6 := Lib.hid (L_5.out.later hb)
  clear hb B5 L_5
  go_wp2_with fail
  refine (K4.out _ L_6.out).mono ?_
  rintro e w7 ⟨rfl, hb⟩
  have B7 := Lib.hid (B6.out.trans (hb.mono B6.out.size))
  have L_7 := Lib.hid (L_6.out.later hb)
  clear hb B6 L_6
  go_wp2_with fail
  refine (K5.out _ L_7.out).mono ?_
  rintro e w8 ⟨rfl, hb⟩
  have B8 := Lib.hid (B7.out.trans (hb.mono B7.out.size))
  have L_8 := Lib.hid (L_7.out.later hb)
  clear hb B7 L_7
  go_wp2_with fail
  go_ret
  exact ⟨rfl, B8.out⟩
set_option maxHeartbeats 2000000 in
theorem near_gt (p q r : ByteArray) (a b c : Int) (ha : a ≤ 0) (hb : 0 < b) (hf1 : fitB (lA p) (lA q) = true) (hf2 : fitB (lA r) (lA ByteArray.empty) = true)
    (h1 : (∀ w, Len w → Calls Try.prog 24 #[.string q, .string p] w fun e w' => e = .returned (.tuple #[.bool true, .int .i64 0]) ∧ Below w.heap.size w w'))
    (h2 : (∀ w, Len w → Calls Try.prog 24 #[.string r, .string p] w fun e w' => e = .returned (.tuple #[.bool false, .int .i64 0]) ∧ Below w.heap.size w w'))
    (h3 : (∀ w, Len w → Calls Try.prog 28 #[.string p, .string q] w fun e w' => e = .returned (.tuple #[.int .i64 (a), .int .i64 0]) ∧ Below w.heap.size w w'))
    (h4 : (∀ w, Len w → Calls Try.prog 28 #[.string p, .string r] w fun e w' => e = .returned (.tuple #[.int .i64 (b), .int .i64 0]) ∧ Below w.heap.size w w'))
    (h5 : (∀ w, Len w → Calls Try.prog 28 #[.string q, .string r] w fun e w' => e = .returned (.tuple #[.int .i64 (c), .int .i64 0]) ∧ Below w.heap.size w w')) (w : World) (hl : Len w) : Calls Try.prog 9 #[.string p, .string q, .string r] w fun e w' => e = .returned (.bool true) ∧ Below w.heap.size w w' := by
  have KF1 := Lib.hid (fun w => fit_any p q true hf1 w)
  have KF2 := Lib.hid (fun w => fit_any r ByteArray.empty true hf2 w)
  have K1 := Lib.hid h1
  have K2 := Lib.hid h2
  have K3 := Lib.hid h3
  have K4 := Lib.hid h4
  have K5 := Lib.hid h5
  have B0 := Lib.hid (Below.refl w.heap.size w)
  have L_0 := Lib.hid hl
  have a1 : ¬ (0 : Int) < a := by omega
  have a2 : decide ((0 : Int) < a) = false := decide_eq_false a1
  have b2 : decide ((0 : Int) < b) = true := decide_eq_true hb
  clear hl hf1 hf2 h1 h2 h3 h4 h5
  go_enter Try.func9, Try.ntmps9
  go_wp2_with fail
  refine (alive_any _ L_0.out).mono ?_
  rintro e w1 ⟨rfl, hb⟩
  have B1 := Lib.hid (B0.out.trans (hb.mono B0.out.size))
  have L_1 := Lib.hid (L_0.out.later hb)
  clear hb B0 L_0
  go_wp2_with fail
  refine (KF1.out _).mono ?_
  rintro e w2 ⟨rfl, hb⟩
  have B2 := Lib.hid (B1.out.trans (hb.mono B1.out.size))
  have L_2 := Lib.hid (L_1.out.later hb)
  clear hb B1 L_1
  go_wp2_with fail
  refine (KF2.out _).mono ?_
  rintro e w3 ⟨rfl, hb⟩
  have B3 := Lib.hid (B2.out.trans (hb.mono B2.out.size))
  have L_3 := Lib.hid (L_2.out.later hb)
  clear hb B2 L_2
  go_wp2_with fail
  refine (K1.out _ L_3.out).mono ?_
  rintro e w4 ⟨rfl, hb⟩
  have B4 := Lib.hid (B3.out.trans (hb.mono B3.out.size))
  have L_4 := Lib.hid (L_3.out.later hb)
  clear hb B3 L_3
  go_wp2_with fail
  refine (K2.out _ L_4.out).mono ?_
  rintro e w5 ⟨rfl, hb⟩
  have B5 := Lib.hid (B4.out.trans (hb.mono B4.out.size))
  have L_5 := Lib.hid (L_4.out.later hb)
  clear hb B4 L_4
  go_wp2_with fail
  refine (K3.out _ L_5.out).mono ?_
  rintro e w6 ⟨rfl, hb⟩
  have B6 := Lib.hid (B5.out.trans (hb.mono B5.out.size))
  have L_6 := Lib.hid (L_5.out.later hb)
  clear hb B5 L_5
  go_wp2_with fail
  refine (K4.out _ L_6.out).mono ?_
  rintro e w7 ⟨rfl, hb⟩
  have B7 := Lib.hid (B6.out.trans (hb.mono B6.out.size))
  have L_7 := Lib.hid (L_6.out.later hb)
  clear hb B6 L_6
  go_wp2_with fail
  refine (K5.out _ L_7.out).mono ?_
  rintro e w8 ⟨rfl, hb⟩
  have B8 := Lib.hid (B7.out.trans (hb.mono B7.out.size))
  have L_8 := Lib.hid (L_7.out.later hb)
  clear hb B7 L_7
  go_wp2_with fail
  go_ret
  exact ⟨rfl, B8.out⟩
set_option maxHeartbeats 2000000 in
theorem near_lt (p q r : ByteArray) (a b c : Int) (ha : a ≤ 0) (hb : b ≤ 0) (hc : c < 0) (hf1 : fitB (lA p) (lA q) = true) (hf2 : fitB (lA r) (lA ByteArray.empty) = true)
    (h1 : (∀ w, Len w → Calls Try.prog 24 #[.string q, .string p] w fun e w' => e = .returned (.tuple #[.bool true, .int .i64 0]) ∧ Below w.heap.size w w'))
    (h2 : (∀ w, Len w → Calls Try.prog 24 #[.string r, .string p] w fun e w' => e = .returned (.tuple #[.bool false, .int .i64 0]) ∧ Below w.heap.size w w'))
    (h3 : (∀ w, Len w → Calls Try.prog 28 #[.string p, .string q] w fun e w' => e = .returned (.tuple #[.int .i64 (a), .int .i64 0]) ∧ Below w.heap.size w w'))
    (h4 : (∀ w, Len w → Calls Try.prog 28 #[.string p, .string r] w fun e w' => e = .returned (.tuple #[.int .i64 (b), .int .i64 0]) ∧ Below w.heap.size w w'))
    (h5 : (∀ w, Len w → Calls Try.prog 28 #[.string q, .string r] w fun e w' => e = .returned (.tuple #[.int .i64 (c), .int .i64 0]) ∧ Below w.heap.size w w')) (w : World) (hl : Len w) : Calls Try.prog 9 #[.string p, .string q, .string r] w fun e w' => e = .returned (.bool true) ∧ Below w.heap.size w w' := by
  have KF1 := Lib.hid (fun w => fit_any p q true hf1 w)
  have KF2 := Lib.hid (fun w => fit_any r ByteArray.empty true hf2 w)
  have K1 := Lib.hid h1
  have K2 := Lib.hid h2
  have K3 := Lib.hid h3
  have K4 := Lib.hid h4
  have K5 := Lib.hid h5
  have B0 := Lib.hid (Below.refl w.heap.size w)
  have L_0 := Lib.hid hl
  have a1 : ¬ (0 : Int) < a := by omega
  have a2 : decide ((0 : Int) < a) = false := decide_eq_false a1
  have b1 : ¬ (0 : Int) < b := by omega
  have b2 : decide ((0 : Int) < b) = false := decide_eq_false b1
  have c2 : decide (c < (0 : Int)) = true := decide_eq_true hc
  clear hl hf1 hf2 h1 h2 h3 h4 h5
  go_enter Try.func9, Try.ntmps9
  go_wp2_with fail
  refine (alive_any _ L_0.out).mono ?_
  rintro e w1 ⟨rfl, hb⟩
  have B1 := Lib.hid (B0.out.trans (hb.mono B0.out.size))
  have L_1 := Lib.hid (L_0.out.later hb)
  clear hb B0 L_0
  go_wp2_with fail
  refine (KF1.out _).mono ?_
  rintro e w2 ⟨rfl, hb⟩
  have B2 := Lib.hid (B1.out.trans (hb.mono B1.out.size))
  have L_2 := Lib.hid (L_1.out.later hb)
  clear hb B1 L_1
  go_wp2_with fail
  refine (KF2.out _).mono ?_
  rintro e w3 ⟨rfl, hb⟩
  have B3 := Lib.hid (B2.out.trans (hb.mono B2.out.size))
  have L_3 := Lib.hid (L_2.out.later hb)
  clear hb B2 L_2
  go_wp2_with fail
  refine (K1.out _ L_3.out).mono ?_
  rintro e w4 ⟨rfl, hb⟩
  have B4 := Lib.hid (B3.out.trans (hb.mono B3.out.size))
  have L_4 := Lib.hid (L_3.out.later hb)
  clear hb B3 L_3
  go_wp2_with fail
  refine (K2.out _ L_4.out).mono ?_
  rintro e w5 ⟨rfl, hb⟩
  have B5 := Lib.hid (B4.out.trans (hb.mono B4.out.size))
  have L_5 := Lib.hid (L_4.out.later hb)
  clear hb B4 L_4
  go_wp2_with fail
  refine (K3.out _ L_5.out).mono ?_
  rintro e w6 ⟨rfl, hb⟩
  have B6 := Lib.hid (B5.out.trans (hb.mono B5.out.size))
  have L_6 := Lib.hid (L_5.out.later hb)
  clear hb B5 L_5
  go_wp2_with fail
  refine (K4.out _ L_6.out).mono ?_
  rintro e w7 ⟨rfl, hb⟩
  have B7 := Lib.hid (B6.out.trans (hb.mono B6.out.size))
  have L_7 := Lib.hid (L_6.out.later hb)
  clear hb B6 L_6
  go_wp2_with fail
  refine (K5.out _ L_7.out).mono ?_
  rintro e w8 ⟨rfl, hb⟩
  have B8 := Lib.hid (B7.out.trans (hb.mono B7.out.size))
  have L_8 := Lib.hid (L_7.out.later hb)
  clear hb B7 L_7
  go_wp2_with fail
  go_ret
  exact ⟨rfl, B8.out⟩
end Go.Proofs.Ytjladbgidodhbaa
