/-
  Texts of the proof, merged: BConAlive, BConBrM, BConLawB.
-/
import Derived.Test.YtlmofdmbcddddaaGreatDoorBContextBranchProofM5
import Derived.Test.YtlmofdmbcddddaaGreatDoorBContextBranchProofM16
import Derived.Test.YtlmofdmbcddddaaGreatDoorBContextBranchProofM6
namespace Go.Proofs.YtlmofdmbcddddaaGreatDoor
open Go.RowKit
open WM RM CM
set_option linter.unusedVariables false
set_option linter.unusedSimpArgs false

/-- The rules of the examples. -/
def cgivR : List Rw := [⟨65, 0, 66, 0, [], 0, [⟨66, []⟩]⟩, ⟨66, 0, 0, 0, [], 0, [⟨65, []⟩]⟩]
def cgivC (o1 o2 : Nat) : Array Value := #[.int .u8 65, .int .i64 0, .int .u8 66, .int .u8 0, .slice none 0 0, .int .i64 0, .slice (some ⟨o1, 0, none⟩) 1 1, .int .u8 66, .int .i64 0, .int .u8 0, .int .u8 0, .slice none 0 0, .int .i64 0, .slice (some ⟨o2, 0, none⟩) 1 1]
/-- Where they lie. -/
structure CGiv (w : World) (lo r o1 o2 : Nat) : Prop where
  R : w.heap[r]? = some (.cells (cgivC o1 o2) 45 (0, 0))
  O1 : w.heap[o1]? = some (.cells #[.int .u8 66, .slice none 0 0] 49 (0, 0))
  O2 : w.heap[o2]? = some (.cells #[.int .u8 65, .slice none 0 0] 49 (0, 0))
  hr : lo ≤ r
  n1 : o1 ≠ r
  n2 : o2 ≠ r
theorem CGiv.later {w w1 : World} {lo r o1 o2 : Nat} (h : CGiv w lo r o1 o2) (hb : Below w.heap.size w w1) : CGiv w1 lo r o1 o2 :=
  ⟨(hb.block _ (lt_of_block h.R)).trans h.R, (hb.block _ (lt_of_block h.O1)).trans h.O1, (hb.block _ (lt_of_block h.O2)).trans h.O2, h.hr, h.n1, h.n2⟩
theorem shs_one {w : World} {o : Nat} {c : UInt8} (h : w.heap[o]? = some (.cells #[.int .u8 c.toNat, .slice none 0 0] 49 (0, 0))) : Shs w (.slice (some ⟨o, 0, none⟩) 1 1) [⟨c, []⟩] := by
  refine .some o 0 1 [⟨c, []⟩] (by simp) (lt_of_block h) fun i hi => ?_
  obtain rfl : i = 0 := by simpa using hi
  exact ⟨by simp [World.cell?, h], .slice none 0 0, by simp [World.cell?, h], .none _ _⟩
theorem CGiv.rws {w : World} {lo r o1 o2 : Nat} (h : CGiv w lo r o1 o2) : Rws w (.slice (some ⟨r, 0, none⟩) 2 2) cgivR := by
  have hR := h.R
  unfold cgivC at hR
  refine .some r 0 2 cgivR (by decide) (lt_of_block hR) fun i hi => ?_
  have : i = 0 ∨ i = 1 := by
    have : i < 2 := hi
    omega
  rcases this with rfl | rfl
  · exact ⟨by simp [World.cell?, hR, cgivR], by simp [World.cell?, hR, cgivR], by simp [World.cell?, hR, cgivR], by simp [World.cell?, hR, cgivR], by simp [World.cell?, hR, cgivR], ⟨.slice none 0 0, by simp [World.cell?, hR], .none _ _⟩, ⟨.slice (some ⟨o1, 0, none⟩) 1 1, by simp [World.cell?, hR], shs_one h.O1⟩⟩
  · exact ⟨by simp [World.cell?, hR, cgivR], by simp [World.cell?, hR, cgivR], by simp [World.cell?, hR, cgivR], by simp [World.cell?, hR, cgivR], by simp [World.cell?, hR, cgivR], ⟨.slice none 0 0, by simp [World.cell?, hR], .none _ _⟩, ⟨.slice (some ⟨o2, 0, none⟩) 1 1, by simp [World.cell?, hR], shs_one h.O2⟩⟩
/-- How given ends. -/
def CgEnd (w : World) (e : Ending) (w' : World) : Prop := ∃ r o1 o2, e = .returned (.slice (some ⟨r, 0, none⟩) 2 2) ∧ Below w.heap.size w w' ∧ CGiv w' w.heap.size r o1 o2
set_option maxRecDepth 100000 in
set_option maxHeartbeats 1600000 in
theorem cgiven_any (w : World) : Calls Tryz.prog 26 #[] w (CgEnd w) := by
  have HE : Hid (CgEnd w (.returned (.slice (some ⟨w.heap.size + 1 + 1, 0, none⟩) 2 2)) (((w.alloc (.cells #[.int .u8 66, .slice none 0 0] 49)).alloc (.cells #[.int .u8 65, .slice none 0 0] 49)).alloc (.cells (cgivC w.heap.size (w.heap.size + 1)) 45))) := Lib.hid (by
    have h1 := heap_alloc_old (heap_alloc_old (heap_alloc_new w (.cells #[.int .u8 66, .slice none 0 0] 49)) (.cells #[.int .u8 65, .slice none 0 0] 49)) (.cells (cgivC w.heap.size (w.heap.size + 1)) 45)
    have h2 := heap_alloc_old (heap_alloc_new (w.alloc (.cells #[.int .u8 66, .slice none 0 0] 49)) (.cells #[.int .u8 65, .slice none 0 0] 49)) (.cells (cgivC w.heap.size (w.heap.size + 1)) 45)
    have h3 := heap_alloc_new ((w.alloc (.cells #[.int .u8 66, .slice none 0 0] 49)).alloc (.cells #[.int .u8 65, .slice none 0 0] 49)) (.cells (cgivC w.heap.size (w.heap.size + 1)) 45)
    rw [World.size_alloc] at h2
    rw [World.size_alloc, World.size_alloc] at h3
    exact ⟨_, w.heap.size, w.heap.size + 1, rfl, (((Below.refl _ _).alloc (Nat.le_refl _) _).alloc (by simp) _).alloc (by simp; omega) _, h3, h1, h2, by omega, by omega, by omega⟩)
  unfold cgivC at HE
  go_enter Tryz.func26, Tryz.ntmps26
  go_wp2_with fail
  go_ret
  exact HE.out
theorem cgiv_sm : ∀ r ∈ cgivR, RwSm r := by
  intro r hr
  have : r = cgivR[0] ∨ r = cgivR[1] := by simpa [cgivR] using hr
  rcases this with rfl | rfl
  · refine ⟨by decide, by decide, ?_, ?_⟩
    · intro f hf; simp [cgivR] at hf
    · intro s hs
      have h1 : ∀ s ∈ cgivR[0].out, s.a.length ≤ 10 := by decide
      have h2 : ∀ s ∈ cgivR[0].out, ∀ f ∈ s.a, f.cs.length ≤ 10 := by decide
      exact ⟨h1 s hs, h2 s hs⟩
  · refine ⟨by decide, by decide, ?_, ?_⟩
    · intro f hf; simp [cgivR] at hf
    · intro s hs
      have h1 : ∀ s ∈ cgivR[1].out, s.a.length ≤ 10 := by decide
      have h2 : ∀ s ∈ cgivR[1].out, ∀ f ∈ s.a, f.cs.length ≤ 10 := by decide
      exact ⟨h1 s hs, h2 s hs⟩
set_option maxRecDepth 100000 in
set_option maxHeartbeats 1600000 in
theorem cbeside_any (s t : ByteArray) (hs : s.size ≤ 1000) (ht : t.size ≤ 1000) (i a b : Int) (u : List Md) (hu : u.length ≤ 1000) (hua : ∀ m ∈ u, m.a.length ≤ 1000) (h1 : pC (lA s) = 0 ∧ pL (lA s) = u) (h2 : askC (lA t) u i = 0 ∧ lefV (lA t) u i = a ∧ rigV (lA t) u i = b) (w : World) (he : Env w) :
    Calls Tryz.prog 13 #[.string s, .int .i64 i, .string t, .int .i64 a, .int .i64 b] w fun e w' => e = .returned (.bool true) ∧ Below w.heap.size w w' := by
  have HE := Lib.hid he
  have KP := Lib.hid (fun w he => pparse_any s (by omega) w he)
  unfold PsEnd at KP
  rw [h1.1, h1.2] at KP
  have KL := Lib.hid (fun wv w hw => pleft_any wv u (by omega) (fun m hm => by have := hua m hm; omega) i t (by omega) w hw)
  have KR := Lib.hid (fun wv w hw => pright_any wv u (by omega) (fun m hm => by have := hua m hm; omega) i t (by omega) w hw)
  rw [h2.1, h2.2.1] at KL
  rw [h2.1, h2.2.2] at KR
  clear he h1 h2
  have t1 : (a == a) = true := beq_self_eq_true _
  have t2 : (b == b) = true := beq_self_eq_true _
  go_enter Tryz.func13, Tryz.ntmps13
  go_wp2_with fail
  refine (KP.out _ HE.out).mono ?_
  rintro e w1 ⟨v1, vs1, rfl, hb, hm⟩
  have B1 := Lib.hid hb
  have M1 := Lib.hid hm.mods
  obtain ⟨p1, c1, rfl⟩ := hm.mods.slice
  clear hb hm
  go_wp2_with fail
  refine (KL.out _ _ M1.out).mono ?_
  rintro e w2 ⟨rfl, hb⟩
  have C2 := Lib.hid hb
  have B2 := Lib.hid (B1.out.trans (hb.mono B1.out.size))
  clear hb
  go_wp2_with fail
  refine (KR.out _ _ (M1.out.later C2.out)).mono ?_
  rintro e w3 ⟨rfl, hb⟩
  have B3 := Lib.hid (B2.out.trans (hb.mono B2.out.size))
  clear hb
  go_wp2_with fail
  go_ret
  exact ⟨rfl, B3.out⟩
def noS : ByteArray := ⟨#[]⟩
set_option maxRecDepth 100000 in
set_option maxHeartbeats 1600000 in
theorem cbecomes_any (s t : ByteArray) (n : Int) (u d : List Md) (hs : s.size ≤ 1000) (hu : u.length ≤ 1000) (hua : ∀ m ∈ u, m.a.length ≤ 1000) (hd : d.length ≤ 1000) (hda : ∀ m ∈ d, m.a.length ≤ 1000) (h1 : pC (lA s) = 0 ∧ pL (lA s) = u) (h2 : cruC [] cgivR u n = 0 ∧ cruL [] cgivR u n = d) (h3 : tC d = 0 ∧ tS d = lA t) (w : World) (he : Env w) :
    Calls Tryz.prog 14 #[.string s, .int .i64 n, .string t] w fun e w' => e = .returned (.bool true) ∧ Below w.heap.size w w' := by
  have HE := Lib.hid he
  have KP := Lib.hid (fun w he => pparse_any s (by omega) w he)
  unfold PsEnd at KP
  rw [h1.1, h1.2] at KP
  have KG := Lib.hid cgiven_any
  have KR : Hid (∀ v wv w, Rws w v cgivR → NilOr v → Mods w wv u → NilOr wv → Calls Tryz.prog 25 #[v, .string ⟨#[]⟩, wv, .int .i64 n] w (CpuEnd [] cgivR u n w)) := Lib.hid (fun v wv w hv hn hw hn2 => cprun_any v cgivR (by decide) cgiv_sm ⟨#[]⟩ (by decide) wv u (by omega) (fun m hm => by have := hua m hm; omega) n w hv hn hw hn2)
  unfold CpuEnd at KR
  rw [h2.1, h2.2] at KR
  have KT := Lib.hid (fun v w hv he => ptext_any v d (by omega) (fun m hm => by have := hda m hm; omega) w hv he)
  rw [h3.1, h3.2, bA_lA] at KT
  clear he h1 h2 h3
  go_enter Tryz.func14, Tryz.ntmps14
  go_wp2_with fail
  refine (KP.out _ HE.out).mono ?_
  rintro e w1 ⟨v1, vs1, rfl, hb, hm⟩
  have B1 := Lib.hid hb
  have M1 := Lib.hid hm
  obtain ⟨p1, c1, rfl⟩ := hm.mods.slice
  clear hb hm
  go_wp2_with fail
  refine (KG.out _).mono ?_
  rintro e w2 ⟨r, o1, o2, rfl, hb, hG⟩
  have C2 := Lib.hid hb
  have B2 := Lib.hid (B1.out.trans (hb.mono B1.out.size))
  have R2 := Lib.hid hG.rws
  clear hb hG
  go_wp2_with fail
  refine (KR.out _ _ _ R2.out (.inr ⟨_, _, _, rfl⟩) (M1.out.later C2.out).mods (M1.out.later C2.out).nilOr).mono ?_
  rintro e w3 ⟨v3, vs3, rfl, hb, hm⟩
  have B3 := Lib.hid (B2.out.trans (hb.mono B2.out.size))
  have M3 := Lib.hid hm
  obtain ⟨p3, c3, rfl⟩ := hm.mods.slice
  clear hb hm
  go_wp2_with fail
  refine (KT.out _ _ M3.out.mods (HE.out.later B3.out)).mono ?_
  rintro e w4 ⟨rfl, hb⟩
  have B4 := Lib.hid (B3.out.trans (hb.mono B3.out.size))
  clear hb
  go_wp2_with fail
  go_ret
  exact ⟨rfl, B4.out⟩
def cx0 : List Md := [⟨65, []⟩, ⟨91, []⟩, ⟨66, []⟩, ⟨93, []⟩, ⟨67, []⟩, ⟨91, []⟩, ⟨68, []⟩, ⟨91, []⟩, ⟨69, []⟩, ⟨93, []⟩, ⟨70, []⟩, ⟨93, []⟩]
def ct0 : Bs := [65, 91, 66, 93, 67, 91, 68, 91, 69, 93, 70, 93]
def cx1 : List Md := [⟨66, []⟩, ⟨65, []⟩, ⟨65, []⟩, ⟨65, []⟩]
def ct1 : Bs := [66, 65, 65, 65]
def cx2 : List Md := [⟨65, []⟩, ⟨66, []⟩, ⟨65, []⟩, ⟨65, []⟩]
def ct2 : Bs := [65, 66, 65, 65]
def cx3 : List Md := [⟨65, []⟩, ⟨65, []⟩, ⟨66, []⟩, ⟨65, []⟩]
def ct3 : Bs := [65, 65, 66, 65]
def cx4 : List Md := [⟨65, []⟩, ⟨65, []⟩, ⟨65, []⟩, ⟨66, []⟩]
def ct4 : Bs := [65, 65, 65, 66]
def cx5 : List Md := [⟨65, []⟩, ⟨43, []⟩, ⟨66, []⟩]
def ct5 : Bs := [65, 43, 66]
theorem cx_prs : prs ct0 = some cx0 ∧ prs ct1 = some cx1 ∧ prs ct2 = some cx2 ∧ prs ct3 = some cx3 ∧ prs ct4 = some cx4 ∧ prs ct5 = some cx5 := by decide +kernel
theorem cx_text {s : Bs} {u : List Md} (h : prs s = some u) (hl : s.length ≤ 1000) : tC u = 0 ∧ tS u = s := by
  obtain ⟨h1, h2⟩ := prs_iff.1 h
  have := tC_yes h1 (by rw [h2]; omega)
  rwa [h2] at this
theorem cx_small : (∀ m ∈ cx0, m.a.length ≤ 1000) ∧ (∀ m ∈ cx1, m.a.length ≤ 1000) ∧ (∀ m ∈ cx2, m.a.length ≤ 1000) ∧ (∀ m ∈ cx3, m.a.length ≤ 1000) ∧ (∀ m ∈ cx4, m.a.length ≤ 1000) ∧ (∀ m ∈ cx5, m.a.length ≤ 1000) := by decide
theorem cx_run : (cruC [] cgivR cx1 1 = 0 ∧ cruL [] cgivR cx1 1 = cx2) ∧ (cruC [] cgivR cx1 2 = 0 ∧ cruL [] cgivR cx1 2 = cx3) ∧ (cruC [] cgivR cx1 3 = 0 ∧ cruL [] cgivR cx1 3 = cx4) := by decide +kernel
theorem cb0 : askC [] cx0 0 = 0 ∧ lefV [] cx0 0 = (-1) ∧ rigV [] cx0 0 = 4 := by decide +kernel
theorem cb1 : askC [] cx0 2 = 0 ∧ lefV [] cx0 2 = 0 ∧ rigV [] cx0 2 = (-1) := by decide +kernel
theorem cb2 : askC [] cx0 4 = 0 ∧ lefV [] cx0 4 = 0 ∧ rigV [] cx0 4 = (-1) := by decide +kernel
theorem cb3 : askC [] cx0 6 = 0 ∧ lefV [] cx0 6 = 4 ∧ rigV [] cx0 6 = 10 := by decide +kernel
theorem cb4 : askC [] cx0 8 = 0 ∧ lefV [] cx0 8 = 6 ∧ rigV [] cx0 8 = (-1) := by decide +kernel
theorem cb5 : askC [] cx0 10 = 0 ∧ lefV [] cx0 10 = 6 ∧ rigV [] cx0 10 = (-1) := by decide +kernel
theorem cb6 : askC [43] cx5 2 = 0 ∧ lefV [43] cx5 2 = 0 ∧ rigV [43] cx5 2 = (-1) := by decide +kernel
theorem cb7 : askC [43] cx5 1 = 0 ∧ lefV [43] cx5 1 = 0 ∧ rigV [43] cx5 1 = 2 := by decide +kernel
set_option maxRecDepth 100000 in
set_option maxHeartbeats 3200000 in
theorem calive_any (w : World) (he : Env w) : Calls Tryz.prog 5 #[] w fun e w' => e = .returned (.bool true) ∧ Below w.heap.size w w' := by
  have HE := Lib.hid he
  obtain ⟨p0, p1, p2, p3, p4, p5⟩ := cx_prs
  obtain ⟨s0, s1, s2, s3, s4, s5⟩ := cx_small
  obtain ⟨r1, r2, r3⟩ := cx_run
  have hp0 : pC (lA ⟨#[65, 91, 66, 93, 67, 91, 68, 91, 69, 93, 70, 93]⟩) = 0 ∧ pL (lA ⟨#[65, 91, 66, 93, 67, 91, 68, 91, 69, 93, 70, 93]⟩) = cx0 := pC_some (s := ct0) (by decide) p0
  have hp1 : pC (lA ⟨#[66, 65, 65, 65]⟩) = 0 ∧ pL (lA ⟨#[66, 65, 65, 65]⟩) = cx1 := pC_some (s := ct1) (by decide) p1
  have hp5 : pC (lA ⟨#[65, 43, 66]⟩) = 0 ∧ pL (lA ⟨#[65, 43, 66]⟩) = cx5 := pC_some (s := ct5) (by decide) p5
  have K0 := Lib.hid (fun w he => cbeside_any ⟨#[65, 91, 66, 93, 67, 91, 68, 91, 69, 93, 70, 93]⟩ ⟨#[]⟩ (by decide) (by decide) 0 (-1) (4) cx0 (by decide) s0 hp0 cb0 w he)
  have K1 := Lib.hid (fun w he => cbeside_any ⟨#[65, 91, 66, 93, 67, 91, 68, 91, 69, 93, 70, 93]⟩ ⟨#[]⟩ (by decide) (by decide) 2 (0) (-1) cx0 (by decide) s0 hp0 cb1 w he)
  have K2 := Lib.hid (fun w he => cbeside_any ⟨#[65, 91, 66, 93, 67, 91, 68, 91, 69, 93, 70, 93]⟩ ⟨#[]⟩ (by decide) (by decide) 4 (0) (-1) cx0 (by decide) s0 hp0 cb2 w he)
  have K3 := Lib.hid (fun w he => cbeside_any ⟨#[65, 91, 66, 93, 67, 91, 68, 91, 69, 93, 70, 93]⟩ ⟨#[]⟩ (by decide) (by decide) 6 (4) (10) cx0 (by decide) s0 hp0 cb3 w he)
  have K4 := Lib.hid (fun w he => cbeside_any ⟨#[65, 91, 66, 93, 67, 91, 68, 91, 69, 93, 70, 93]⟩ ⟨#[]⟩ (by decide) (by decide) 8 (6) (-1) cx0 (by decide) s0 hp0 cb4 w he)
  have K5 := Lib.hid (fun w he => cbeside_any ⟨#[65, 91, 66, 93, 67, 91, 68, 91, 69, 93, 70, 93]⟩ ⟨#[]⟩ (by decide) (by decide) 10 (6) (-1) cx0 (by decide) s0 hp0 cb5 w he)
  have K6 := Lib.hid (fun w he => cbeside_any ⟨#[65, 43, 66]⟩ ⟨#[43]⟩ (by decide) (by decide) 2 (0) (-1) cx5 (by decide) s5 hp5 cb6 w he)
  have K7 := Lib.hid (fun w he => cbeside_any ⟨#[65, 43, 66]⟩ ⟨#[43]⟩ (by decide) (by decide) 1 (0) (2) cx5 (by decide) s5 hp5 cb7 w he)
  have R1 := Lib.hid (fun w he => cbecomes_any ⟨#[66, 65, 65, 65]⟩ ⟨#[65, 66, 65, 65]⟩ 1 cx1 cx2 (by decide) (by decide) s1 (by decide) s2 hp1 r1 (cx_text p2 (by decide)) w he)
  have R2 := Lib.hid (fun w he => cbecomes_any ⟨#[66, 65, 65, 65]⟩ ⟨#[65, 65, 66, 65]⟩ 2 cx1 cx3 (by decide) (by decide) s1 (by decide) s3 hp1 r2 (cx_text p3 (by decide)) w he)
  have R3 := Lib.hid (fun w he => cbecomes_any ⟨#[66, 65, 65, 65]⟩ ⟨#[65, 65, 65, 66]⟩ 3 cx1 cx4 (by decide) (by decide) s1 (by decide) s4 hp1 r3 (cx_text p4 (by decide)) w he)
  clear p0 p1 p2 p3 p4 p5 s0 s1 s2 s3 s4 s5 r1 r2 r3 hp0 hp1 hp5 he
  go_enter Tryz.func5, Tryz.ntmps5
  go_wp2_with fail
  refine (K0.out _ HE.out).mono ?_
  rintro e w1 ⟨rfl, hb⟩
  have B1 := Lib.hid hb
  clear hb
  go_wp2_with fail
  refine (K1.out _ (HE.out.later B1.out)).mono ?_
  rintro e w2 ⟨rfl, hb⟩
  have B2 := Lib.hid (B1.out.trans (hb.mono B1.out.size))
  clear hb
  go_wp2_with fail
  refine (K2.out _ (HE.out.later B2.out)).mono ?_
  rintro e w3 ⟨rfl, hb⟩
  have B3 := Lib.hid (B2.out.trans (hb.mono B2.out.size))
  clear hb
  go_wp2_with fail
  refine (K3.out _ (HE.out.later B3.out)).mono ?_
  rintro e w4 ⟨rfl, hb⟩
  have B4 := Lib.hid (B3.out.trans (hb.mono B3.out.size))
  clear hb
  go_wp2_with fail
  refine (K4.out _ (HE.out.later B4.out)).mono ?_
  rintro e w5 ⟨rfl, hb⟩
  have B5 := Lib.hid (B4.out.trans (hb.mono B4.out.size))
  clear hb
  go_wp2_with fail
  refine (K5.out _ (HE.out.later B5.out)).mono ?_
  rintro e w6 ⟨rfl, hb⟩
  have B6 := Lib.hid (B5.out.trans (hb.mono B5.out.size))
  clear hb
  go_wp2_with fail
  refine (R1.out _ (HE.out.later B6.out)).mono ?_
  rintro e w7 ⟨rfl, hb⟩
  have B7 := Lib.hid (B6.out.trans (hb.mono B6.out.size))
  clear hb
  go_wp2_with fail
  refine (R2.out _ (HE.out.later B7.out)).mono ?_
  rintro e w8 ⟨rfl, hb⟩
  have B8 := Lib.hid (B7.out.trans (hb.mono B7.out.size))
  clear hb
  go_wp2_with fail
  refine (R3.out _ (HE.out.later B8.out)).mono ?_
  rintro e w9 ⟨rfl, hb⟩
  have B9 := Lib.hid (B8.out.trans (hb.mono B8.out.size))
  clear hb
  go_wp2_with fail
  refine (K6.out _ (HE.out.later B9.out)).mono ?_
  rintro e w10 ⟨rfl, hb⟩
  have B10 := Lib.hid (B9.out.trans (hb.mono B9.out.size))
  clear hb
  go_wp2_with fail
  refine (K7.out _ (HE.out.later B10.out)).mono ?_
  rintro e w11 ⟨rfl, hb⟩
  have B11 := Lib.hid (B10.out.trans (hb.mono B10.out.size))
  clear hb
  go_wp2_with fail
  go_ret
  exact ⟨rfl, B11.out⟩
/-! ### valid -/
def clawB (g : Bs) (l : List Rw) (u : List Md) : Bool := !(greatR l) && decide (g.length ≤ 100) && decide (cchk g l = 0) && !(greatB u) && decide (u.length ≤ 300) && decide (chk u = 0)
theorem clawB_iff {g : Bs} {l : List Rw} {u : List Md} : clawB g l u = true ↔ greatR l = false ∧ g.length ≤ 100 ∧ cchk g l = 0 ∧ greatB u = false ∧ u.length ≤ 300 ∧ chk u = 0 := by
  unfold clawB
  simp only [Bool.and_eq_true, Bool.not_eq_true', decide_eq_true_eq]
  constructor
  · rintro ⟨⟨⟨⟨⟨a, b⟩, c⟩, d⟩, e⟩, f⟩; exact ⟨a, b, c, d, e, f⟩
  · rintro ⟨a, b, c, d, e, f⟩; exact ⟨⟨⟨⟨⟨a, b⟩, c⟩, d⟩, e⟩, f⟩
theorem clawB_no {g : Bs} {l : List Rw} {u : List Md} (h : greatR l = true ∨ 100 < g.length ∨ cchk g l ≠ 0 ∨ greatB u = true ∨ 300 < u.length ∨ chk u ≠ 0) : clawB g l u = false := by
  cases hh : clawB g l u
  · rfl
  · obtain ⟨a, b, c, d, e, f⟩ := clawB_iff.1 hh
    rcases h with h | h | h | h | h | h
    · rw [a] at h; simp at h
    · omega
    · exact absurd c h
    · rw [d] at h; simp at h
    · omega
    · exact absurd f h
set_option maxRecDepth 100000 in
set_option maxHeartbeats 3200000 in
theorem cvalid_any (v wv : Value) (l : List Rw) (s : ByteArray) (u : List Md) (hl : l.length ≤ 9223372036854775807) (hss : s.size ≤ 9223372036854775807) (hu : u.length ≤ 9223372036854775807) (hua : ∀ m ∈ u, m.a.length ≤ 9223372036854775807) (w : World) (h1 : Rws w v l) (h2 : Mods w wv u) :
    Calls Tryz.prog 4 #[v, .string s, wv] w fun e w' => e = .returned (.bool (clawB (lA s) l u)) ∧ Below w.heap.size w w' := by
  have KG := Lib.hid (refgreat_any v l hl w h1)
  have KW := Lib.hid (fun w h => great_any wv u hu w h hua)
  have KC0 := Lib.hid (fun g2 w h => refccheck_any v l hl g2 s hss w h)
  have KK0 := Lib.hid (fun a b w h => check_any wv u a b w h)
  have HSz := Lib.hid (lA_len s)
  obtain ⟨p, cap, rfl⟩ := h1.slice
  obtain ⟨p2, cap2, rfl⟩ := h2.slice
  have H1 := Lib.hid h1
  have H2 := Lib.hid h2
  clear h1 h2
  generalize lA s = g at KC0 HSz ⊢
  cases hg : greatR l with
  | true =>
    have HF : Hid (clawB g l u = false) := Lib.hid (clawB_no (.inl hg))
    rw [hg] at KG
    clear hg
    go_enter Tryz.func4, Tryz.ntmps4
    go_wp2_with fail
    refine KG.out.mono ?_
    rintro e wx ⟨rfl, rfl⟩
    go_wp2_with fail
    go_ret
    exact ⟨ret_bool HF.out.symm, Below.refl _ _⟩
  | false =>
    rw [hg] at KG
    obtain ⟨g1, g2⟩ := greatR_sm hg
    have KC := Lib.hid (KC0.out g2)
    by_cases c1 : (s.size : Int) ≤ 100
    · by_cases h0 : cchk g l = 0
      · rw [h0] at KC
        cases hg2 : greatB u with
        | true =>
          have HF : Hid (clawB g l u = false) := Lib.hid (clawB_no (.inr (.inr (.inr (.inl hg2)))))
          rw [hg2] at KW
          clear hg hg2 g1 g2 h0
          go_enter Tryz.func4, Tryz.ntmps4
          go_wp2_with fail
          refine KG.out.mono ?_
          rintro e wx ⟨rfl, rfl⟩
          go_wp2_with fail
          refine (KC.out _ H1.out).mono ?_
          rintro e w1 ⟨rfl, hb⟩
          have B1 := Lib.hid hb
          clear hb
          go_wp2_with fail
          refine (KW.out _ (H2.out.later B1.out)).mono ?_
          rintro e wx ⟨rfl, rfl⟩
          go_wp2_with fail
          go_ret
          exact ⟨ret_bool HF.out.symm, B1.out⟩
        | false =>
          obtain ⟨lb, lbb⟩ := great_no hg2
          have KK := Lib.hid (KK0.out lb lbb)
          rw [hg2] at KW
          by_cases c3 : (u.length : Int) ≤ 300
          · have HF : Hid (clawB g l u = decide (chk u = 0)) := Lib.hid (by
              unfold clawB
              rw [hg, hg2, h0, decide_eq_true (show g.length ≤ 100 by rw [HSz.out]; omega), decide_eq_true (show u.length ≤ 300 by omega)]; simp)
            obtain ⟨c, hc⟩ : ∃ c, chk u = c := ⟨_, rfl⟩
            rw [hc] at KK HF
            clear hg hg2 g1 g2 h0 lb lbb hc
            go_enter Tryz.func4, Tryz.ntmps4
            go_wp2_with fail
            refine KG.out.mono ?_
            rintro e wx ⟨rfl, rfl⟩
            go_wp2_with fail
            refine (KC.out _ H1.out).mono ?_
            rintro e w1 ⟨rfl, hb⟩
            have B1 := Lib.hid hb
            clear hb
            go_wp2_with fail
            refine (KW.out _ (H2.out.later B1.out)).mono ?_
            rintro e wx ⟨rfl, rfl⟩
            go_wp2_with fail
            refine (KK.out _ (H2.out.later B1.out)).mono ?_
            rintro e w2 ⟨rfl, hb⟩
            have B2 := Lib.hid (B1.out.trans (hb.mono B1.out.size))
            clear hb
            go_wp2_with fail
            go_ret
            exact ⟨ret_bool (by rw [HF.out, Bool.eq_iff_iff, beq_iff_eq, decide_eq_true_iff]), B2.out⟩
          · have HF : Hid (clawB g l u = false) := Lib.hid (clawB_no (.inr (.inr (.inr (.inr (.inl (by omega)))))))
            clear hg hg2 g1 g2 h0 lb lbb
            go_enter Tryz.func4, Tryz.ntmps4
            go_wp2_with fail
            refine KG.out.mono ?_
            rintro e wx ⟨rfl, rfl⟩
            go_wp2_with fail
            refine (KC.out _ H1.out).mono ?_
            rintro e w1 ⟨rfl, hb⟩
            have B1 := Lib.hid hb
            clear hb
            go_wp2_with fail
            refine (KW.out _ (H2.out.later B1.out)).mono ?_
            rintro e wx ⟨rfl, rfl⟩
            go_wp2_with fail
            go_ret
            exact ⟨ret_bool HF.out.symm, B1.out⟩
      · have HF : Hid (clawB g l u = false) := Lib.hid (clawB_no (.inr (.inr (.inl h0))))
        obtain ⟨c, hc⟩ : ∃ c, cchk g l = c := ⟨_, rfl⟩
        rw [hc] at KC h0
        have h1 : (c == 0) = false := by simpa using h0
        clear hg g1 g2 h0 hc
        go_enter Tryz.func4, Tryz.ntmps4
        go_wp2_with fail
        refine KG.out.mono ?_
        rintro e wx ⟨rfl, rfl⟩
        go_wp2_with fail
        refine (KC.out _ H1.out).mono ?_
        rintro e w1 ⟨rfl, hb⟩
        have B1 := Lib.hid hb
        clear hb
        go_wp2_with fail
        go_ret
        exact ⟨ret_bool HF.out.symm, B1.out⟩
    · have HF : Hid (clawB g l u = false) := Lib.hid (clawB_no (.inr (.inl (by rw [HSz.out]; omega))))
      clear hg g1 g2
      go_enter Tryz.func4, Tryz.ntmps4
      go_wp2_with fail
      refine KG.out.mono ?_
      rintro e wx ⟨rfl, rfl⟩
      go_wp2_with fail
      go_ret
      exact ⟨ret_bool HF.out.symm, Below.refl _ _⟩
end Go.Proofs.YtlmofdmbcddddaaGreatDoor
namespace Go.Proofs.YtlmofdmbcddddaaGreatDoor
open Go.RowKit
open WM RM CM
set_option linter.unusedVariables false
set_option linter.unusedSimpArgs false

/-- Cells that hold a word. -/
structure RowM (w : World) (xs : List Value) (l : List Md) : Prop where
  ex : ∃ vs : List Value, vs.length = l.length ∧ xs = modC l vs ∧ ∀ j, (h : j < l.length) → (h2 : j < vs.length) → Ints w vs[j] l[j].a ∧ NilOr vs[j]
theorem RowM.nil (w : World) : RowM w [] [] := ⟨[], rfl, rfl, fun j h => by simp at h⟩
theorem RowM.later {w w1 : World} {xs : List Value} {l : List Md} (h : RowM w xs l) (hb : Below w.heap.size w w1) : RowM w1 xs l := by
  obtain ⟨vs, h1, h2, h3⟩ := h.ex
  exact ⟨vs, h1, h2, fun j a b => ⟨(h3 j a b).1.later hb, (h3 j a b).2⟩⟩
theorem RowM.app {w : World} {xs ys : List Value} {l m : List Md} (h : RowM w xs l) (h' : RowM w ys m) : RowM w (xs ++ ys) (l ++ m) := by
  obtain ⟨vs, a1, a2, a3⟩ := h.ex
  obtain ⟨us, b1, b2, b3⟩ := h'.ex
  refine ⟨vs ++ us, by simp [a1, b1], by rw [j_app _ _ _ _ a1.symm, a2, b2], fun j hj hj2 => ?_⟩
  by_cases hlt : j < l.length
  · rw [List.getElem_append_left hlt, List.getElem_append_left (show j < vs.length by omega)]
    exact a3 j hlt (by omega)
  · rw [List.length_append] at hj hj2
    have e : j - vs.length = j - l.length := by omega
    have hk : j - l.length < m.length := by omega
    have := b3 (j - l.length) hk (by omega)
    rw [List.getElem_append_right (by omega), List.getElem_append_right (by omega)]
    simp only [e]
    exact this
theorem RowM.lit (w : World) (c : UInt8) : RowM w [.int .u8 c.toNat, .slice none 0 0] [⟨c, []⟩] :=
  ⟨[.slice none 0 0], rfl, rfl, fun j hj hj2 => by
    obtain rfl : j = 0 := by simpa using hj
    exact ⟨.none _ _, .inl rfl⟩⟩
theorem RowM.mods {w : World} {base : Nat} {v : Value} {xs : List Value} {l : List Md} (h : RowM w xs l) (ho : w.ownsRow base 27 2 v l.length xs) : Mods w v l := by
  obtain ⟨vs, h1, h2, h3⟩ := h.ex
  subst h2
  exact mods_of_rows h1 ho h3
theorem RowM.len {w : World} {xs : List Value} {l : List Md} (h : RowM w xs l) : xs.length = l.length * 2 := by
  obtain ⟨vs, h1, h2, h3⟩ := h.ex
  rw [h2]; exact modC_length _ _ h1.symm
theorem modC_in : ∀ (l : List Md) (vs : List Value), ∀ u ∈ modC l vs, (∃ x, u = .int .u8 x) ∨ u ∈ vs
  | [], _, u, h => by simp [modC] at h
  | _ :: _, [], u, h => by simp [modC] at h
  | m :: l, v :: vs, u, h => by
    simp only [modC, List.mem_cons] at h
    rcases h with h | h | h
    · exact .inl ⟨_, h⟩
    · exact .inr (by simp [h])
    · rcases modC_in l vs u h with h | h
      · exact .inl h
      · exact .inr (by simp [h])
theorem RowM.ones {w : World} {xs : List Value} {l : List Md} (h : RowM w xs l) : ∀ u ∈ xs, u.oneCell' = true := by
  obtain ⟨vs, h1, h2, h3⟩ := h.ex
  subst h2
  intro u hu
  rcases modC_in l vs u hu with ⟨x, rfl⟩ | h
  · rfl
  · obtain ⟨j, hj, rfl⟩ := List.mem_iff_getElem.1 h
    obtain ⟨p, c, e⟩ := (h3 j (by omega) hj).1.slice
    rw [e]; rfl
theorem mods_news {w : World} {ad : Addr} {n cap : Nat} {l : List Md} (h : Mods w (.slice (some ad) n cap) l) : ∃ news, RowM w news l ∧ ∀ w1, Below w.heap.size w w1 → ∀ j u, news[j]? = some u → w1.cell? (ad.add j) = some u := by
  generalize hv : Value.slice (some ad) n cap = v at h
  cases h with
  | none p cap => exact ⟨[], .nil w, fun w1 _ j u hj => by simp at hj⟩
  | some b off cap' _ hpos hb hx =>
    simp only [Value.slice.injEq, Option.some.injEq] at hv
    obtain ⟨rfl, _, _⟩ := hv
    have key : ∀ i : Fin l.length, ∃ v, w.cell? ⟨b, off + i.1 * 2 + 1, none⟩ = some v ∧ Ints w v l[i.1].a ∧ NilOr v := fun i => (hx i.1 i.2).2
    obtain ⟨f, hf⟩ := Classical.axiomOfChoice key
    have hlen : (List.ofFn f).length = l.length := List.length_ofFn
    refine ⟨modC l (List.ofFn f), ⟨List.ofFn f, hlen, rfl, fun j hj hj2 => ?_⟩, fun w1 hw j u hj => ?_⟩
    · rw [List.getElem_ofFn]; exact (hf ⟨j, hj⟩).2
    · have hjl := (List.getElem?_eq_some_iff.1 hj).1
      rw [modC_length _ _ hlen.symm] at hjl
      have hk : j / 2 < l.length := by omega
      obtain ⟨g1, g2⟩ := modC_get l (List.ofFn f) (j / 2) hk (by omega)
      have ea : ∀ x, (⟨b, off, none⟩ : Addr).add x = ⟨b, off + x, none⟩ := fun x => by
        unfold Addr.add
        split
        · rename_i h0
          have : x = 0 := by simpa using h0
          congr 1
          omega
        · rfl
      rw [ea]
      rcases Nat.mod_two_eq_zero_or_one j with h0 | h0
      · have e : j = j / 2 * 2 := by omega
        rw [e] at hj ⊢
        rw [g1] at hj
        rw [← hj]
        exact (hw.cell (p := ⟨b, off + j / 2 * 2, none⟩) hb).trans (hx (j / 2) hk).1
      · have e : j = j / 2 * 2 + 1 := by omega
        rw [e] at hj ⊢
        rw [g2, List.getElem_ofFn] at hj
        rw [← hj]
        exact (hw.cell (p := ⟨b, off + (j / 2 * 2 + 1), none⟩) hb).trans (hf ⟨j / 2, hk⟩).1
theorem RowM.take {w : World} {xs : List Value} {l : List Md} (h : RowM w xs l) (a : Nat) : RowM w (xs.take (a * 2)) (l.take a) ∧ RowM w (xs.drop (a * 2)) (l.drop a) := by
  obtain ⟨vs, h1, h2, h3⟩ := h.ex
  subst h2
  have key : ∀ (l : List Md) (vs : List Value) (a : Nat), l.length = vs.length → (modC l vs).take (a * 2) = modC (l.take a) (vs.take a) ∧ (modC l vs).drop (a * 2) = modC (l.drop a) (vs.drop a) := by
    intro l
    induction l with
    | nil => intro vs a _; cases vs <;> simp [modC]
    | cons m l ih =>
      intro vs a hl
      cases vs with
      | nil => simp at hl
      | cons v vs =>
        cases a with
        | zero => simp [modC]
        | succ a =>
          obtain ⟨e1, e2⟩ := ih vs a (by simpa using hl)
          have e : (a + 1) * 2 = a * 2 + 1 + 1 := by omega
          rw [e]
          simp only [modC, List.take_succ_cons, List.drop_succ_cons, e1, e2, and_self]
  obtain ⟨e1, e2⟩ := key l vs a h1.symm
  refine ⟨⟨vs.take a, by simp [h1], e1, fun j hj hj2 => ?_⟩, ⟨vs.drop a, by simp [h1], e2, fun j hj hj2 => ?_⟩⟩
  · rw [List.getElem_take, List.getElem_take]
    exact h3 j (by simp at hj; omega) _
  · rw [List.getElem_drop, List.getElem_drop]
    exact h3 (a + j) (by simp at hj; omega) _
end Go.Proofs.YtlmofdmbcddddaaGreatDoor
namespace Go.Proofs.YtlmofdmbcddddaaGreatDoor
open Go.RowKit
open WM RM CM
set_option linter.unusedVariables false
set_option linter.unusedSimpArgs false

theorem bef_cases (g : Bs) (u : List Md) (i : Nat) : bef g u i = -1 ∨ ∃ a : Nat, bef g u i = (a : Int) ∧ a < i ∧ (md u a).c ≠ 91 ∧ (md u a).c ≠ 93 ∧ hasB g (md u a).c = false := bf_rng i 0
theorem beh_cases (g : Bs) {u : List Md} {i : Nat} (hi : i < u.length) : beh g u i = -1 ∨ ∃ b : Nat, beh g u i = (b : Int) ∧ i < b ∧ b < u.length ∧ (md u b).c ≠ 91 ∧ (md u b).c ≠ 93 ∧ hasB g (md u b).c = false := by
  rcases bh_rng (g := g) (u := u) (u.length - (i + 1)) (i + 1) 0 (by omega) with h | ⟨a, h1, h2, h3⟩
  · exact .inl h
  · exact .inr ⟨a, h1, by omega, h3⟩
theorem pln_of {u : List Md} (hu : chk u = 0) {i : Nat} (hi : i < u.length) (h1 : (md u i).c ≠ 91) (h2 : (md u i).c ≠ 93) : plnB (md u i).c = true := by
  have hf := List.all_eq_true.1 (chk_zero.1 hu).2.1 _ (List.getElem_mem hi)
  rw [md_get hi] at *
  unfold fineB at hf
  simp only [Bool.and_eq_true] at hf
  unfold plnB braB
  rw [hf.1.1.1, beq_eq_false_iff_ne.2 h1, beq_eq_false_iff_ne.2 h2]; rfl
theorem ask_ok {g : Bs} {u : List Md} (hu : chk u = 0) (hg : ignB g = true) {i : Nat} (hi : i < u.length) (h1 : (md u i).c ≠ 91) (h2 : (md u i).c ≠ 93) : askC g u (i : Int) = 0 ∧ lefV g u (i : Int) = bef g u i ∧ rigV g u (i : Int) = beh g u i := by
  have e : askC g u (i : Int) = 0 := by
    rw [ask_ign hu (by omega) (by omega) (by rw [Int.toNat_natCast]; exact pln_of hu hi h1 h2), if_pos hg]
  exact ⟨e, by unfold lefV; rw [if_pos e, Int.toNat_natCast], by unfold rigV; rw [if_pos e, Int.toNat_natCast]⟩
theorem ne_tst2 {u : List Md} {i : Nat} (hi : i < u.length) {d : UInt8} (h : (md u i).c ≠ d) : ((u[i].c.toNat : Int) == (d.toNat : Int)) = false := by rw [← md_get hi]; exact ne_tst h
end Go.Proofs.YtlmofdmbcddddaaGreatDoor
