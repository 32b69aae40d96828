/-
  Texts of the proof, merged: ZConAlive, ZConLawB, ZConCard.
-/
import Derived.Test.YtcoljbcjnggagaaGreatDoorZContextBackProofM5
import Derived.Test.YtcoljbcjnggagaaGreatDoorZContextBackProofM16
import Derived.Test.YtcoljbcjnggagaaGreatDoorZContextBackProofM7
import Derived.Test.YtcoljbcjnggagaaGreatDoorCards
import Derived.Test.YtcoljbcjnggagaaGreatDoorTie
import Derived.Test.YtcoljbcjnggagaaGreatDoorRows
import Derived.Test.YtcoljbcjnggagaaGreatDoorZContextBackProofM12
import Derived.ProofKit
import Derived.OpenShut
import Derived.ChangeSlices
import Derived.ChangeMaps5
import Derived.Deep.DeepHandedRow
import Derived.Deep.SlicePairs
import Derived.Lib.LaidTab
import Derived.Lib.SmallJoins
import Derived.Stop.LaidErr
import Derived.Stop.Joined
import Derived.JoinedCond
import GoSem.PinnedTables
namespace Go.Proofs.YtcoljbcjnggagaaGreatDoor
open Go.RowKit
open WM RM CM
set_option linter.unusedVariables false
set_option linter.unusedSimpArgs false

/-- The rules of the examples. -/
def cgivR : List Rw := [⟨65, 0, 66, 0, [], 0, [⟨66, []⟩]⟩, ⟨66, 0, 0, 0, [], 0, [⟨65, []⟩]⟩]
def cgivC (o1 o2 : Nat) : Array Value := #[.int .u8 65, .int .i64 0, .int .u8 66, .int .u8 0, .slice none 0 0, .int .i64 0, .slice (some ⟨o1, 0, none⟩) 1 1, .int .u8 66, .int .i64 0, .int .u8 0, .int .u8 0, .slice none 0 0, .int .i64 0, .slice (some ⟨o2, 0, none⟩) 1 1]
/-- Where they lie. -/
structure CGiv (w : World) (lo r o1 o2 : Nat) : Prop where
  R : w.heap[r]? = some (.cells (cgivC o1 o2) 28 (0, 0))
  O1 : w.heap[o1]? = some (.cells #[.int .u8 66, .slice none 0 0] 25 (0, 0))
  O2 : w.heap[o2]? = some (.cells #[.int .u8 65, .slice none 0 0] 25 (0, 0))
  hr : lo ≤ r
  n1 : o1 ≠ r
  n2 : o2 ≠ r
theorem CGiv.later {w w1 : World} {lo r o1 o2 : Nat} (h : CGiv w lo r o1 o2) (hb : Below w.heap.size w w1) : CGiv w1 lo r o1 o2 :=
  ⟨(hb.block _ (lt_of_block h.R)).trans h.R, (hb.block _ (lt_of_block h.O1)).trans h.O1, (hb.block _ (lt_of_block h.O2)).trans h.O2, h.hr, h.n1, h.n2⟩
theorem shs_one {w : World} {o : Nat} {c : UInt8} (h : w.heap[o]? = some (.cells #[.int .u8 c.toNat, .slice none 0 0] 25 (0, 0))) : Shs w (.slice (some ⟨o, 0, none⟩) 1 1) [⟨c, []⟩] := by
  refine .some o 0 1 [⟨c, []⟩] (by simp) (lt_of_block h) fun i hi => ?_
  obtain rfl : i = 0 := by simpa using hi
  exact ⟨by simp [World.cell?, h], .slice none 0 0, by simp [World.cell?, h], .none _ _⟩
theorem CGiv.rws {w : World} {lo r o1 o2 : Nat} (h : CGiv w lo r o1 o2) : Rws w (.slice (some ⟨r, 0, none⟩) 2 2) cgivR := by
  have hR := h.R
  unfold cgivC at hR
  refine .some r 0 2 cgivR (by decide) (lt_of_block hR) fun i hi => ?_
  have : i = 0 ∨ i = 1 := by
    have : i < 2 := hi
    omega
  rcases this with rfl | rfl
  · exact ⟨by simp [World.cell?, hR, cgivR], by simp [World.cell?, hR, cgivR], by simp [World.cell?, hR, cgivR], by simp [World.cell?, hR, cgivR], by simp [World.cell?, hR, cgivR], ⟨.slice none 0 0, by simp [World.cell?, hR], .none _ _⟩, ⟨.slice (some ⟨o1, 0, none⟩) 1 1, by simp [World.cell?, hR], shs_one h.O1⟩⟩
  · exact ⟨by simp [World.cell?, hR, cgivR], by simp [World.cell?, hR, cgivR], by simp [World.cell?, hR, cgivR], by simp [World.cell?, hR, cgivR], by simp [World.cell?, hR, cgivR], ⟨.slice none 0 0, by simp [World.cell?, hR], .none _ _⟩, ⟨.slice (some ⟨o2, 0, none⟩) 1 1, by simp [World.cell?, hR], shs_one h.O2⟩⟩
/-- How given ends. -/
def CgEnd (w : World) (e : Ending) (w' : World) : Prop := ∃ r o1 o2, e = .returned (.slice (some ⟨r, 0, none⟩) 2 2) ∧ Below w.heap.size w w' ∧ CGiv w' w.heap.size r o1 o2
set_option maxRecDepth 100000 in
set_option maxHeartbeats 1600000 in
theorem cgiven_any (w : World) : Calls Tryz.prog 12 #[] w (CgEnd w) := by
  have HE : Hid (CgEnd w (.returned (.slice (some ⟨w.heap.size + 1 + 1, 0, none⟩) 2 2)) (((w.alloc (.cells #[.int .u8 66, .slice none 0 0] 25)).alloc (.cells #[.int .u8 65, .slice none 0 0] 25)).alloc (.cells (cgivC w.heap.size (w.heap.size + 1)) 28))) := Lib.hid (by
    have h1 := heap_alloc_old (heap_alloc_old (heap_alloc_new w (.cells #[.int .u8 66, .slice none 0 0] 25)) (.cells #[.int .u8 65, .slice none 0 0] 25)) (.cells (cgivC w.heap.size (w.heap.size + 1)) 28)
    have h2 := heap_alloc_old (heap_alloc_new (w.alloc (.cells #[.int .u8 66, .slice none 0 0] 25)) (.cells #[.int .u8 65, .slice none 0 0] 25)) (.cells (cgivC w.heap.size (w.heap.size + 1)) 28)
    have h3 := heap_alloc_new ((w.alloc (.cells #[.int .u8 66, .slice none 0 0] 25)).alloc (.cells #[.int .u8 65, .slice none 0 0] 25)) (.cells (cgivC w.heap.size (w.heap.size + 1)) 28)
    rw [World.size_alloc] at h2
    rw [World.size_alloc, World.size_alloc] at h3
    exact ⟨_, w.heap.size, w.heap.size + 1, rfl, (((Below.refl _ _).alloc (Nat.le_refl _) _).alloc (by simp) _).alloc (by simp; omega) _, h3, h1, h2, by omega, by omega, by omega⟩)
  unfold cgivC at HE
  go_enter Tryz.func12, Tryz.ntmps12
  go_wp2_with fail
  go_ret
  exact HE.out
theorem cgiv_sm : ∀ r ∈ cgivR, RwSm r := by
  intro r hr
  have : r = cgivR[0] ∨ r = cgivR[1] := by simpa [cgivR] using hr
  rcases this with rfl | rfl
  · refine ⟨by decide, by decide, ?_, ?_⟩
    · intro f hf; simp [cgivR] at hf
    · intro s hs
      have h1 : ∀ s ∈ cgivR[0].out, s.a.length ≤ 10 := by decide
      have h2 : ∀ s ∈ cgivR[0].out, ∀ f ∈ s.a, f.cs.length ≤ 10 := by decide
      exact ⟨h1 s hs, h2 s hs⟩
  · refine ⟨by decide, by decide, ?_, ?_⟩
    · intro f hf; simp [cgivR] at hf
    · intro s hs
      have h1 : ∀ s ∈ cgivR[1].out, s.a.length ≤ 10 := by decide
      have h2 : ∀ s ∈ cgivR[1].out, ∀ f ∈ s.a, f.cs.length ≤ 10 := by decide
      exact ⟨h1 s hs, h2 s hs⟩
set_option maxRecDepth 100000 in
set_option maxHeartbeats 1600000 in
theorem cbeside_any (s t : ByteArray) (hs : s.size ≤ 1000) (ht : t.size ≤ 1000) (i a b : Int) (u : List Md) (hu : u.length ≤ 1000) (hua : ∀ m ∈ u, m.a.length ≤ 1000) (h1 : pC (lA s) = 0 ∧ pL (lA s) = u) (h2 : askC (lA t) u i = 0 ∧ lefV (lA t) u i = a ∧ rigV (lA t) u i = b) (w : World) (he : Env w) :
    Calls Tryz.prog 8 #[.string s, .int .i64 i, .string t, .int .i64 a, .int .i64 b] w fun e w' => e = .returned (.bool true) ∧ Below w.heap.size w w' := by
  have HE := Lib.hid he
  have KP := Lib.hid (fun w he => pparse_any s (by omega) w he)
  unfold PsEnd at KP
  rw [h1.1, h1.2] at KP
  have KL := Lib.hid (fun wv w hw => pleft_any wv u (by omega) (fun m hm => by have := hua m hm; omega) i t (by omega) w hw)
  have KR := Lib.hid (fun wv w hw => pright_any wv u (by omega) (fun m hm => by have := hua m hm; omega) i t (by omega) w hw)
  rw [h2.1, h2.2.1] at KL
  rw [h2.1, h2.2.2] at KR
  clear he h1 h2
  have t1 : (a == a) = true := beq_self_eq_true _
  have t2 : (b == b) = true := beq_self_eq_true _
  go_enter Tryz.func8, Tryz.ntmps8
  go_wp2_with fail
  refine (KP.out _ HE.out).mono ?_
  rintro e w1 ⟨v1, vs1, rfl, hb, hm⟩
  have B1 := Lib.hid hb
  have M1 := Lib.hid hm.mods
  obtain ⟨p1, c1, rfl⟩ := hm.mods.slice
  clear hb hm
  go_wp2_with fail
  refine (KL.out _ _ M1.out).mono ?_
  rintro e w2 ⟨rfl, hb⟩
  have C2 := Lib.hid hb
  have B2 := Lib.hid (B1.out.trans (hb.mono B1.out.size))
  clear hb
  go_wp2_with fail
  refine (KR.out _ _ (M1.out.later C2.out)).mono ?_
  rintro e w3 ⟨rfl, hb⟩
  have B3 := Lib.hid (B2.out.trans (hb.mono B2.out.size))
  clear hb
  go_wp2_with fail
  go_ret
  exact ⟨rfl, B3.out⟩
def noS : ByteArray := ⟨#[]⟩
set_option maxRecDepth 100000 in
set_option maxHeartbeats 1600000 in
theorem cbecomes_any (s t : ByteArray) (n : Int) (u d : List Md) (hs : s.size ≤ 1000) (hu : u.length ≤ 1000) (hua : ∀ m ∈ u, m.a.length ≤ 1000) (hd : d.length ≤ 1000) (hda : ∀ m ∈ d, m.a.length ≤ 1000) (h1 : pC (lA s) = 0 ∧ pL (lA s) = u) (h2 : cruC [] cgivR u n = 0 ∧ cruL [] cgivR u n = d) (h3 : tC d = 0 ∧ tS d = lA t) (w : World) (he : Env w) :
    Calls Tryz.prog 44 #[.string s, .int .i64 n, .string t] w fun e w' => e = .returned (.bool true) ∧ Below w.heap.size w w' := by
  have HE := Lib.hid he
  have KP := Lib.hid (fun w he => pparse_any s (by omega) w he)
  unfold PsEnd at KP
  rw [h1.1, h1.2] at KP
  have KG := Lib.hid cgiven_any
  have KR : Hid (∀ v wv w, Rws w v cgivR → NilOr v → Mods w wv u → NilOr wv → Calls Tryz.prog 17 #[v, .string ⟨#[]⟩, wv, .int .i64 n] w (CpuEnd [] cgivR u n w)) := Lib.hid (fun v wv w hv hn hw hn2 => cprun_any v cgivR (by decide) cgiv_sm ⟨#[]⟩ (by decide) wv u (by omega) (fun m hm => by have := hua m hm; omega) n w hv hn hw hn2)
  unfold CpuEnd at KR
  rw [h2.1, h2.2] at KR
  have KT := Lib.hid (fun v w hv he => ptext_any v d (by omega) (fun m hm => by have := hda m hm; omega) w hv he)
  rw [h3.1, h3.2, bA_lA] at KT
  clear he h1 h2 h3
  go_enter Tryz.func44, Tryz.ntmps44
  go_wp2_with fail
  refine (KP.out _ HE.out).mono ?_
  rintro e w1 ⟨v1, vs1, rfl, hb, hm⟩
  have B1 := Lib.hid hb
  have M1 := Lib.hid hm
  obtain ⟨p1, c1, rfl⟩ := hm.mods.slice
  clear hb hm
  go_wp2_with fail
  refine (KG.out _).mono ?_
  rintro e w2 ⟨r, o1, o2, rfl, hb, hG⟩
  have C2 := Lib.hid hb
  have B2 := Lib.hid (B1.out.trans (hb.mono B1.out.size))
  have R2 := Lib.hid hG.rws
  clear hb hG
  go_wp2_with fail
  refine (KR.out _ _ _ R2.out (.inr ⟨_, _, _, rfl⟩) (M1.out.later C2.out).mods (M1.out.later C2.out).nilOr).mono ?_
  rintro e w3 ⟨v3, vs3, rfl, hb, hm⟩
  have B3 := Lib.hid (B2.out.trans (hb.mono B2.out.size))
  have M3 := Lib.hid hm
  obtain ⟨p3, c3, rfl⟩ := hm.mods.slice
  clear hb hm
  go_wp2_with fail
  refine (KT.out _ _ M3.out.mods (HE.out.later B3.out)).mono ?_
  rintro e w4 ⟨rfl, hb⟩
  have B4 := Lib.hid (B3.out.trans (hb.mono B3.out.size))
  clear hb
  go_wp2_with fail
  go_ret
  exact ⟨rfl, B4.out⟩
def cx0 : List Md := [⟨65, []⟩, ⟨91, []⟩, ⟨66, []⟩, ⟨93, []⟩, ⟨67, []⟩, ⟨91, []⟩, ⟨68, []⟩, ⟨91, []⟩, ⟨69, []⟩, ⟨93, []⟩, ⟨70, []⟩, ⟨93, []⟩]
def ct0 : Bs := [65, 91, 66, 93, 67, 91, 68, 91, 69, 93, 70, 93]
def cx1 : List Md := [⟨66, []⟩, ⟨65, []⟩, ⟨65, []⟩, ⟨65, []⟩]
def ct1 : Bs := [66, 65, 65, 65]
def cx2 : List Md := [⟨65, []⟩, ⟨66, []⟩, ⟨65, []⟩, ⟨65, []⟩]
def ct2 : Bs := [65, 66, 65, 65]
def cx3 : List Md := [⟨65, []⟩, ⟨65, []⟩, ⟨66, []⟩, ⟨65, []⟩]
def ct3 : Bs := [65, 65, 66, 65]
def cx4 : List Md := [⟨65, []⟩, ⟨65, []⟩, ⟨65, []⟩, ⟨66, []⟩]
def ct4 : Bs := [65, 65, 65, 66]
def cx5 : List Md := [⟨65, []⟩, ⟨43, []⟩, ⟨66, []⟩]
def ct5 : Bs := [65, 43, 66]
theorem cx_prs : prs ct0 = some cx0 ∧ prs ct1 = some cx1 ∧ prs ct2 = some cx2 ∧ prs ct3 = some cx3 ∧ prs ct4 = some cx4 ∧ prs ct5 = some cx5 := by decide +kernel
theorem cx_text {s : Bs} {u : List Md} (h : prs s = some u) (hl : s.length ≤ 1000) : tC u = 0 ∧ tS u = s := by
  obtain ⟨h1, h2⟩ := prs_iff.1 h
  have := tC_yes h1 (by rw [h2]; omega)
  rwa [h2] at this
theorem cx_small : (∀ m ∈ cx0, m.a.length ≤ 1000) ∧ (∀ m ∈ cx1, m.a.length ≤ 1000) ∧ (∀ m ∈ cx2, m.a.length ≤ 1000) ∧ (∀ m ∈ cx3, m.a.length ≤ 1000) ∧ (∀ m ∈ cx4, m.a.length ≤ 1000) ∧ (∀ m ∈ cx5, m.a.length ≤ 1000) := by decide
theorem cx_run : (cruC [] cgivR cx1 1 = 0 ∧ cruL [] cgivR cx1 1 = cx2) ∧ (cruC [] cgivR cx1 2 = 0 ∧ cruL [] cgivR cx1 2 = cx3) ∧ (cruC [] cgivR cx1 3 = 0 ∧ cruL [] cgivR cx1 3 = cx4) := by decide +kernel
theorem cb0 : askC [] cx0 0 = 0 ∧ lefV [] cx0 0 = (-1) ∧ rigV [] cx0 0 = 4 := by decide +kernel
theorem cb1 : askC [] cx0 2 = 0 ∧ lefV [] cx0 2 = 0 ∧ rigV [] cx0 2 = (-1) := by decide +kernel
theorem cb2 : askC [] cx0 4 = 0 ∧ lefV [] cx0 4 = 0 ∧ rigV [] cx0 4 = (-1) := by decide +kernel
theorem cb3 : askC [] cx0 6 = 0 ∧ lefV [] cx0 6 = 4 ∧ rigV [] cx0 6 = 10 := by decide +kernel
theorem cb4 : askC [] cx0 8 = 0 ∧ lefV [] cx0 8 = 6 ∧ rigV [] cx0 8 = (-1) := by decide +kernel
theorem cb5 : askC [] cx0 10 = 0 ∧ lefV [] cx0 10 = 6 ∧ rigV [] cx0 10 = (-1) := by decide +kernel
theorem cb6 : askC [43] cx5 2 = 0 ∧ lefV [43] cx5 2 = 0 ∧ rigV [43] cx5 2 = (-1) := by decide +kernel
theorem cb7 : askC [43] cx5 1 = 0 ∧ lefV [43] cx5 1 = 0 ∧ rigV [43] cx5 1 = 2 := by decide +kernel
set_option maxRecDepth 100000 in
set_option maxHeartbeats 3200000 in
theorem calive_any (w : World) (he : Env w) : Calls Tryz.prog 18 #[] w fun e w' => e = .returned (.bool true) ∧ Below w.heap.size w w' := by
  have HE := Lib.hid he
  obtain ⟨p0, p1, p2, p3, p4, p5⟩ := cx_prs
  obtain ⟨s0, s1, s2, s3, s4, s5⟩ := cx_small
  obtain ⟨r1, r2, r3⟩ := cx_run
  have hp0 : pC (lA ⟨#[65, 91, 66, 93, 67, 91, 68, 91, 69, 93, 70, 93]⟩) = 0 ∧ pL (lA ⟨#[65, 91, 66, 93, 67, 91, 68, 91, 69, 93, 70, 93]⟩) = cx0 := pC_some (s := ct0) (by decide) p0
  have hp1 : pC (lA ⟨#[66, 65, 65, 65]⟩) = 0 ∧ pL (lA ⟨#[66, 65, 65, 65]⟩) = cx1 := pC_some (s := ct1) (by decide) p1
  have hp5 : pC (lA ⟨#[65, 43, 66]⟩) = 0 ∧ pL (lA ⟨#[65, 43, 66]⟩) = cx5 := pC_some (s := ct5) (by decide) p5
  have K0 := Lib.hid (fun w he => cbeside_any ⟨#[65, 91, 66, 93, 67, 91, 68, 91, 69, 93, 70, 93]⟩ ⟨#[]⟩ (by decide) (by decide) 0 (-1) (4) cx0 (by decide) s0 hp0 cb0 w he)
  have K1 := Lib.hid (fun w he => cbeside_any ⟨#[65, 91, 66, 93, 67, 91, 68, 91, 69, 93, 70, 93]⟩ ⟨#[]⟩ (by decide) (by decide) 2 (0) (-1) cx0 (by decide) s0 hp0 cb1 w he)
  have K2 := Lib.hid (fun w he => cbeside_any ⟨#[65, 91, 66, 93, 67, 91, 68, 91, 69, 93, 70, 93]⟩ ⟨#[]⟩ (by decide) (by decide) 4 (0) (-1) cx0 (by decide) s0 hp0 cb2 w he)
  have K3 := Lib.hid (fun w he => cbeside_any ⟨#[65, 91, 66, 93, 67, 91, 68, 91, 69, 93, 70, 93]⟩ ⟨#[]⟩ (by decide) (by decide) 6 (4) (10) cx0 (by decide) s0 hp0 cb3 w he)
  have K4 := Lib.hid (fun w he => cbeside_any ⟨#[65, 91, 66, 93, 67, 91, 68, 91, 69, 93, 70, 93]⟩ ⟨#[]⟩ (by decide) (by decide) 8 (6) (-1) cx0 (by decide) s0 hp0 cb4 w he)
  have K5 := Lib.hid (fun w he => cbeside_any ⟨#[65, 91, 66, 93, 67, 91, 68, 91, 69, 93, 70, 93]⟩ ⟨#[]⟩ (by decide) (by decide) 10 (6) (-1) cx0 (by decide) s0 hp0 cb5 w he)
  have K6 := Lib.hid (fun w he => cbeside_any ⟨#[65, 43, 66]⟩ ⟨#[43]⟩ (by decide) (by decide) 2 (0) (-1) cx5 (by decide) s5 hp5 cb6 w he)
  have K7 := Lib.hid (fun w he => cbeside_any ⟨#[65, 43, 66]⟩ ⟨#[43]⟩ (by decide) (by decide) 1 (0) (2) cx5 (by decide) s5 hp5 cb7 w he)
  have R1 := Lib.hid (fun w he => cbecomes_any ⟨#[66, 65, 65, 65]⟩ ⟨#[65, 66, 65, 65]⟩ 1 cx1 cx2 (by decide) (by decide) s1 (by decide) s2 hp1 r1 (cx_text p2 (by decide)) w he)
  have R2 := Lib.hid (fun w he => cbecomes_any ⟨#[66, 65, 65, 65]⟩ ⟨#[65, 65, 66, 65]⟩ 2 cx1 cx3 (by decide) (by decide) s1 (by decide) s3 hp1 r2 (cx_text p3 (by decide)) w he)
  have R3 := Lib.hid (fun w he => cbecomes_any ⟨#[66, 65, 65, 65]⟩ ⟨#[65, 65, 65, 66]⟩ 3 cx1 cx4 (by decide) (by decide) s1 (by decide) s4 hp1 r3 (cx_text p4 (by decide)) w he)
  clear p0 p1 p2 p3 p4 p5 s0 s1 s2 s3 s4 s5 r1 r2 r3 hp0 hp1 hp5 he
  go_enter Tryz.func18, Tryz.ntmps18
  go_wp2_with fail
  refine (K0.out _ HE.out).mono ?_
  rintro e w1 ⟨rfl, hb⟩
  have B1 := Lib.hid hb
  clear hb
  go_wp2_with fail
  refine (K1.out _ (HE.out.later B1.out)).mono ?_
  rintro e w2 ⟨rfl, hb⟩
  have B2 := Lib.hid (B1.out.trans (hb.mono B1.out.size))
  clear hb
  go_wp2_with fail
  refine (K2.out _ (HE.out.later B2.out)).mono ?_
  rintro e w3 ⟨rfl, hb⟩
  have B3 := Lib.hid (B2.out.trans (hb.mono B2.out.size))
  clear hb
  go_wp2_with fail
  refine (K3.out _ (HE.out.later B3.out)).mono ?_
  rintro e w4 ⟨rfl, hb⟩
  have B4 := Lib.hid (B3.out.trans (hb.mono B3.out.size))
  clear hb
  go_wp2_with fail
  refine (K4.out _ (HE.out.later B4.out)).mono ?_
  rintro e w5 ⟨rfl, hb⟩
  have B5 := Lib.hid (B4.out.trans (hb.mono B4.out.size))
  clear hb
  go_wp2_with fail
  refine (K5.out _ (HE.out.later B5.out)).mono ?_
  rintro e w6 ⟨rfl, hb⟩
  have B6 := Lib.hid (B5.out.trans (hb.mono B5.out.size))
  clear hb
  go_wp2_with fail
  refine (R1.out _ (HE.out.later B6.out)).mono ?_
  rintro e w7 ⟨rfl, hb⟩
  have B7 := Lib.hid (B6.out.trans (hb.mono B6.out.size))
  clear hb
  go_wp2_with fail
  refine (R2.out _ (HE.out.later B7.out)).mono ?_
  rintro e w8 ⟨rfl, hb⟩
  have B8 := Lib.hid (B7.out.trans (hb.mono B7.out.size))
  clear hb
  go_wp2_with fail
  refine (R3.out _ (HE.out.later B8.out)).mono ?_
  rintro e w9 ⟨rfl, hb⟩
  have B9 := Lib.hid (B8.out.trans (hb.mono B8.out.size))
  clear hb
  go_wp2_with fail
  refine (K6.out _ (HE.out.later B9.out)).mono ?_
  rintro e w10 ⟨rfl, hb⟩
  have B10 := Lib.hid (B9.out.trans (hb.mono B9.out.size))
  clear hb
  go_wp2_with fail
  refine (K7.out _ (HE.out.later B10.out)).mono ?_
  rintro e w11 ⟨rfl, hb⟩
  have B11 := Lib.hid (B10.out.trans (hb.mono B10.out.size))
  clear hb
  go_wp2_with fail
  go_ret
  exact ⟨rfl, B11.out⟩
/-! ### valid -/
def clawB (g : Bs) (l : List Rw) (u : List Md) : Bool := !(greatR l) && decide (g.length ≤ 100) && decide (cchk g l = 0) && !(greatB u) && decide (u.length ≤ 300) && decide (chk u = 0)
theorem clawB_iff {g : Bs} {l : List Rw} {u : List Md} : clawB g l u = true ↔ greatR l = false ∧ g.length ≤ 100 ∧ cchk g l = 0 ∧ greatB u = false ∧ u.length ≤ 300 ∧ chk u = 0 := by
  unfold clawB
  simp only [Bool.and_eq_true, Bool.not_eq_true', decide_eq_true_eq]
  constructor
  · rintro ⟨⟨⟨⟨⟨a, b⟩, c⟩, d⟩, e⟩, f⟩; exact ⟨a, b, c, d, e, f⟩
  · rintro ⟨a, b, c, d, e, f⟩; exact ⟨⟨⟨⟨⟨a, b⟩, c⟩, d⟩, e⟩, f⟩
theorem clawB_no {g : Bs} {l : List Rw} {u : List Md} (h : greatR l = true ∨ 100 < g.length ∨ cchk g l ≠ 0 ∨ greatB u = true ∨ 300 < u.length ∨ chk u ≠ 0) : clawB g l u = false := by
  cases hh : clawB g l u
  · rfl
  · obtain ⟨a, b, c, d, e, f⟩ := clawB_iff.1 hh
    rcases h with h | h | h | h | h | h
    · rw [a] at h; simp at h
    · omega
    · exact absurd c h
    · rw [d] at h; simp at h
    · omega
    · exact absurd f h
set_option maxRecDepth 100000 in
set_option maxHeartbeats 3200000 in
theorem cvalid_any (v wv : Value) (l : List Rw) (s : ByteArray) (u : List Md) (hl : l.length ≤ 9223372036854775807) (hss : s.size ≤ 9223372036854775807) (hu : u.length ≤ 9223372036854775807) (hua : ∀ m ∈ u, m.a.length ≤ 9223372036854775807) (w : World) (h1 : Rws w v l) (h2 : Mods w wv u) :
    Calls Tryz.prog 19 #[v, .string s, wv] w fun e w' => e = .returned (.bool (clawB (lA s) l u)) ∧ Below w.heap.size w w' := by
  have KG := Lib.hid (refgreat_any v l hl w h1)
  have KW := Lib.hid (fun w h => great_any wv u hu w h hua)
  have KC0 := Lib.hid (fun g2 w h => refccheck_any v l hl g2 s hss w h)
  have KK0 := Lib.hid (fun a b w h => check_any wv u a b w h)
  have HSz := Lib.hid (lA_len s)
  obtain ⟨p, cap, rfl⟩ := h1.slice
  obtain ⟨p2, cap2, rfl⟩ := h2.slice
  have H1 := Lib.hid h1
  have H2 := Lib.hid h2
  clear h1 h2
  generalize lA s = g at KC0 HSz ⊢
  cases hg : greatR l with
  | true =>
    have HF : Hid (clawB g l u = false) := Lib.hid (clawB_no (.inl hg))
    rw [hg] at KG
    clear hg
    go_enter Tryz.func19, Tryz.ntmps19
    go_wp2_with fail
    refine KG.out.mono ?_
    rintro e wx ⟨rfl, rfl⟩
    go_wp2_with fail
    go_ret
    exact ⟨ret_bool HF.out.symm, Below.refl _ _⟩
  | false =>
    rw [hg] at KG
    obtain ⟨g1, g2⟩ := greatR_sm hg
    have KC := Lib.hid (KC0.out g2)
    by_cases c1 : (s.size : Int) ≤ 100
    · by_cases h0 : cchk g l = 0
      · rw [h0] at KC
        cases hg2 : greatB u with
        | true =>
          have HF : Hid (clawB g l u = false) := Lib.hid (clawB_no (.inr (.inr (.inr (.inl hg2)))))
          rw [hg2] at KW
          clear hg hg2 g1 g2 h0
          go_enter Tryz.func19, Tryz.ntmps19
          go_wp2_with fail
          refine KG.out.mono ?_
          rintro e wx ⟨rfl, rfl⟩
          go_wp2_with fail
          refine (KC.out _ H1.out).mono ?_
          rintro e w1 ⟨rfl, hb⟩
          have B1 := Lib.hid hb
          clear hb
          go_wp2_with fail
          refine (KW.out _ (H2.out.later B1.out)).mono ?_
          rintro e wx ⟨rfl, rfl⟩
          go_wp2_with fail
          go_ret
          exact ⟨ret_bool HF.out.symm, B1.out⟩
        | false =>
          obtain ⟨lb, lbb⟩ := great_no hg2
          have KK := Lib.hid (KK0.out lb lbb)
          rw [hg2] at KW
          by_cases c3 : (u.length : Int) ≤ 300
          · have HF : Hid (clawB g l u = decide (chk u = 0)) := Lib.hid (by
              unfold clawB
              rw [hg, hg2, h0, decide_eq_true (show g.length ≤ 100 by rw [HSz.out]; omega), decide_eq_true (show u.length ≤ 300 by omega)]; simp)
            obtain ⟨c, hc⟩ : ∃ c, chk u = c := ⟨_, rfl⟩
            rw [hc] at KK HF
            clear hg hg2 g1 g2 h0 lb lbb hc
            go_enter Tryz.func19, Tryz.ntmps19
            go_wp2_with fail
            refine KG.out.mono ?_
            rintro e wx ⟨rfl, rfl⟩
            go_wp2_with fail
            refine (KC.out _ H1.out).mono ?_
            rintro e w1 ⟨rfl, hb⟩
            have B1 := Lib.hid hb
            clear hb
            go_wp2_with fail
            refine (KW.out _ (H2.out.later B1.out)).mono ?_
            rintro e wx ⟨rfl, rfl⟩
            go_wp2_with fail
            refine (KK.out _ (H2.out.later B1.out)).mono ?_
            rintro e w2 ⟨rfl, hb⟩
            have B2 := Lib.hid (B1.out.trans (hb.mono B1.out.size))
            clear hb
            go_wp2_with fail
            go_ret
            exact ⟨ret_bool (by rw [HF.out, Bool.eq_iff_iff, beq_iff_eq, decide_eq_true_iff]), B2.out⟩
          · have HF : Hid (clawB g l u = false) := Lib.hid (clawB_no (.inr (.inr (.inr (.inr (.inl (by omega)))))))
            clear hg hg2 g1 g2 h0 lb lbb
            go_enter Tryz.func19, Tryz.ntmps19
            go_wp2_with fail
            refine KG.out.mono ?_
            rintro e wx ⟨rfl, rfl⟩
            go_wp2_with fail
            refine (KC.out _ H1.out).mono ?_
            rintro e w1 ⟨rfl, hb⟩
            have B1 := Lib.hid hb
            clear hb
            go_wp2_with fail
            refine (KW.out _ (H2.out.later B1.out)).mono ?_
            rintro e wx ⟨rfl, rfl⟩
            go_wp2_with fail
            go_ret
            exact ⟨ret_bool HF.out.symm, B1.out⟩
      · have HF : Hid (clawB g l u = false) := Lib.hid (clawB_no (.inr (.inr (.inl h0))))
        obtain ⟨c, hc⟩ : ∃ c, cchk g l = c := ⟨_, rfl⟩
        rw [hc] at KC h0
        have h1 : (c == 0) = false := by simpa using h0
        clear hg g1 g2 h0 hc
        go_enter Tryz.func19, Tryz.ntmps19
        go_wp2_with fail
        refine KG.out.mono ?_
        rintro e wx ⟨rfl, rfl⟩
        go_wp2_with fail
        refine (KC.out _ H1.out).mono ?_
        rintro e w1 ⟨rfl, hb⟩
        have B1 := Lib.hid hb
        clear hb
        go_wp2_with fail
        go_ret
        exact ⟨ret_bool HF.out.symm, B1.out⟩
    · have HF : Hid (clawB g l u = false) := Lib.hid (clawB_no (.inr (.inl (by rw [HSz.out]; omega))))
      clear hg g1 g2
      go_enter Tryz.func19, Tryz.ntmps19
      go_wp2_with fail
      refine KG.out.mono ?_
      rintro e wx ⟨rfl, rfl⟩
      go_wp2_with fail
      go_ret
      exact ⟨ret_bool HF.out.symm, Below.refl _ _⟩
end Go.Proofs.YtcoljbcjnggagaaGreatDoor
namespace Go.Proofs.YtcoljbcjnggagaaGreatDoor
open Go.RowKit
open WM RM CM
set_option linter.unusedVariables false
set_option linter.unusedSimpArgs false

theorem bef_cases (g : Bs) (u : List Md) (i : Nat) : bef g u i = -1 ∨ ∃ a : Nat, bef g u i = (a : Int) ∧ a < i ∧ (md u a).c ≠ 91 ∧ (md u a).c ≠ 93 ∧ hasB g (md u a).c = false := bf_rng i 0
theorem beh_cases (g : Bs) {u : List Md} {i : Nat} (hi : i < u.length) : beh g u i = -1 ∨ ∃ b : Nat, beh g u i = (b : Int) ∧ i < b ∧ b < u.length ∧ (md u b).c ≠ 91 ∧ (md u b).c ≠ 93 ∧ hasB g (md u b).c = false := by
  rcases bh_rng (g := g) (u := u) (u.length - (i + 1)) (i + 1) 0 (by omega) with h | ⟨a, h1, h2, h3⟩
  · exact .inl h
  · exact .inr ⟨a, h1, by omega, h3⟩
theorem pln_of {u : List Md} (hu : chk u = 0) {i : Nat} (hi : i < u.length) (h1 : (md u i).c ≠ 91) (h2 : (md u i).c ≠ 93) : plnB (md u i).c = true := by
  have hf := List.all_eq_true.1 (chk_zero.1 hu).2.1 _ (List.getElem_mem hi)
  rw [md_get hi] at *
  unfold fineB at hf
  simp only [Bool.and_eq_true] at hf
  unfold plnB braB
  rw [hf.1.1.1, beq_eq_false_iff_ne.2 h1, beq_eq_false_iff_ne.2 h2]; rfl
theorem ask_ok {g : Bs} {u : List Md} (hu : chk u = 0) (hg : ignB g = true) {i : Nat} (hi : i < u.length) (h1 : (md u i).c ≠ 91) (h2 : (md u i).c ≠ 93) : askC g u (i : Int) = 0 ∧ lefV g u (i : Int) = bef g u i ∧ rigV g u (i : Int) = beh g u i := by
  have e : askC g u (i : Int) = 0 := by
    rw [ask_ign hu (by omega) (by omega) (by rw [Int.toNat_natCast]; exact pln_of hu hi h1 h2), if_pos hg]
  exact ⟨e, by unfold lefV; rw [if_pos e, Int.toNat_natCast], by unfold rigV; rw [if_pos e, Int.toNat_natCast]⟩
theorem ne_tst2 {u : List Md} {i : Nat} (hi : i < u.length) {d : UInt8} (h : (md u i).c ≠ d) : ((u[i].c.toNat : Int) == (d.toNat : Int)) = false := by rw [← md_get hi]; exact ne_tst h
set_option maxRecDepth 100000 in
set_option maxHeartbeats 6400000 in
theorem cback_walk (wv : Value) (u : List Md) (hu : u.length ≤ 9223372036854775807) (hua : ∀ m ∈ u, m.a.length ≤ 9223372036854775807) (s : ByteArray) (hss : s.size ≤ 9223372036854775807) (w : World) (hw : Mods w wv u) (he : Env w) :
    Calls Tryz.prog 5 #[wv, .string s] w fun e w' => e = .returned (.bool true) ∧ Below w.heap.size w w' := by
  have HE := Lib.hid he
  have KA := Lib.hid calive_any
  have KV := Lib.hid (cvalid_any (.slice none 0 0) wv [] s u (by simp) hss hu hua w (.none _ _) hw)
  have KL0 := Lib.hid (fun (i : Nat) w h => pleft_any wv u hu hua (i : Int) s hss w h)
  have KR0 := Lib.hid (fun (i : Nat) w h => pright_any wv u hu hua (i : Int) s hss w h)
  have KH := Lib.hid (fun c w => (refhas_any s hss c w).mono (fun _ _ h => (show _ ∧ _ from ⟨h.1, h.2.symm⟩)))
  obtain ⟨p, cap, rfl⟩ := hw.slice
  have HW := Lib.hid hw
  clear hw he
  generalize lA s = g at KV KL0 KR0 KH
  cases hv : clawB g [] u with
  | false =>
    rw [hv] at KV
    clear hv
    go_enter Tryz.func5, Tryz.ntmps5
    go_wp2_with fail
    refine KV.out.mono ?_
    rintro e w1 ⟨rfl, hb⟩
    have B1 := Lib.hid hb
    clear hb
    go_wp2_with fail
    refine (KA.out _ (HE.out.later B1.out)).mono ?_
    rintro e w2 ⟨rfl, hb⟩
    have B2 := Lib.hid (B1.out.trans (hb.mono B1.out.size))
    clear hb
    go_wp2_with fail
    go_ret
    exact ⟨rfl, B2.out⟩
  | true =>
    rw [hv] at KV
    obtain ⟨_, _, hc0, _, hu3, h1⟩ := clawB_iff.1 hv
    have hg := (cchk_zero hc0).2.2
    have H1 := Lib.hid h1
    have HG := Lib.hid hg
    clear hv hc0 h1 hg
    go_enter Tryz.func5, Tryz.ntmps5
    go_wp2_with fail
    refine KV.out.mono ?_
    rintro e w1 ⟨rfl, hb⟩
    have B1 := Lib.hid hb
    clear hb
    go_wp2_with fail
    go_loopw [5] (fun i wr => ∃ k : Nat, k ≤ u.length ∧ i = .int .i64 k ∧ Below w.heap.size w wr) (fun i _ => u.length - (intOf i).toNat)
    case atStart => exact ⟨0, Nat.zero_le _, rfl, B1.out⟩
    case round =>
      obtain ⟨k, hk, rfl, hb0⟩ := hrel
      have HB := Lib.hid hb0
      clear hb0
      by_cases hlt : k < u.length
      · have k1 : (k : Int) < (u.length : Int) := by omega
        obtain ⟨b, off, cap', q, c, hp, e0, _, _, lb⟩ := (HW.out.later HB.out).at hlt
        obtain rfl : p = some ⟨b, off, none⟩ := by cases hp; rfl
        clear hp
        by_cases c1 : (md u k).c = 91
        · have t1 : ((u[k].c.toNat : Int) == 91) = true := by rw [← md_get hlt, c1]; rfl
          generalize u[k].c.toNat = cn at e0 t1
          clear c1
          go_wp2_with fail
          go_roundw
          case rel => exact ⟨k + 1, by omega, by go_num, HB.out⟩
          case measure => first | (simp [intOf]; done) | (simp [intOf]; omega)
        · have t1 : ((u[k].c.toNat : Int) == 91) = false := ne_tst2 hlt c1
          by_cases c2 : (md u k).c = 93
          · have t2 : ((u[k].c.toNat : Int) == 93) = true := by rw [← md_get hlt, c2]; rfl
            generalize u[k].c.toNat = cn at e0 t1 t2
            clear c1 c2
            go_wp2_with fail
            go_roundw
            case rel => exact ⟨k + 1, by omega, by go_num, HB.out⟩
            case measure => first | (simp [intOf]; done) | (simp [intOf]; omega)
          · have t2 : ((u[k].c.toNat : Int) == 93) = false := ne_tst2 hlt c2
            obtain ⟨a1, a2, a3⟩ := ask_ok (g := g) H1.out HG.out hlt c1 c2
            have KL := Lib.hid (KL0.out k)
            have KR := Lib.hid (KR0.out k)
            rw [a1, a2] at KL
            rw [a1, a3] at KR
            have HNx : Hid (∀ w', Below w.heap.size w w' → ∃ k' : Nat, k' ≤ u.length ∧ Value.int .i64 ((k : Int) + 1) = .int .i64 k' ∧ Below w.heap.size w w') := Lib.hid (fun w' h => ⟨k + 1, by omega, by go_num, h⟩)
            have KHk := Lib.hid (fun w => KH.out u[k].c w)
            have HBk : Hid (∀ nb : Nat, beh g u k = (nb : Int) → hasB g u[k].c = false → bef g u nb = (k : Int)) := Lib.hid (fun nb hnb hh => beh_bef hlt c2 c1 (by rw [md_get hlt]; exact hh) hnb)
            clear a1 a2 a3
            rcases bef_cases g u k with ea | ⟨na, ea, hka, za, zb, zc⟩
            · have n0 : ¬ (k : Int) ≤ -1 := by omega
              rw [ea] at KL
              rcases beh_cases g hlt with eb | ⟨nb, eb, hkb, hnb, ya, yb, yc⟩
              · have m0 : ¬ (u.length : Int) ≤ -1 := by omega
                rw [eb] at KR
                generalize u[k].c.toNat = cn at e0 t1 t2
                clear c1 c2 KHk HBk
                go_wp2_with fail
                refine (KL.out _ (HW.out.later HB.out)).mono ?_
                rintro e w2 ⟨rfl, hb⟩
                have C2 := Lib.hid hb
                have B2 := Lib.hid (HB.out.trans (hb.mono HB.out.size))
                clear hb
                go_wp2_with fail
                refine (KR.out _ (HW.out.later B2.out)).mono ?_
                rintro e w3 ⟨rfl, hb⟩
                have C3 := Lib.hid (C2.out.trans (hb.mono C2.out.size))
                have B3 := Lib.hid (B2.out.trans (hb.mono B2.out.size))
                clear hb
                have y0 := (C3.out.cell (p := ⟨b, off + k * 2, none⟩) lb).trans e0
                go_wp2_with fail
                go_roundw
                case rel => exact HNx.out _ B3.out
                case measure => first | (simp [intOf]; done) | (simp [intOf]; omega)
              · have m0 : ¬ (nb : Int) ≤ (k : Int) := by omega
                have m1 : ((nb : Int) != -1) = true := by rw [bne_iff_ne]; omega
                have m2 : (0 : Int) ≤ (nb : Int) := by omega
                have m3 : (nb : Int) < (u.length : Int) := by omega
                have m4 : ¬ (u.length : Int) ≤ (nb : Int) := by omega
                obtain ⟨b2, off2, cap2, qb, cb, hpb, eb0, _, _, _⟩ := (HW.out.later HB.out).at hnb
                obtain ⟨rfl, rfl⟩ : b = b2 ∧ off = off2 := by cases hpb; exact ⟨rfl, rfl⟩
                have v1 : ((u[nb].c.toNat : Int) == 91) = false := ne_tst2 hnb ya
                have v2 : ((u[nb].c.toNat : Int) == 93) = false := ne_tst2 hnb yb
                have KHb : Hid (∀ w, Calls Tryz.prog 22 #[.string s, .int .u8 u[nb].c.toNat] w fun e w' => e = .returned (.bool false) ∧ w' = w) := Lib.hid (fun w => by have := KH.out u[nb].c w; rw [← md_get hnb, yc] at this; rw [← md_get hnb]; exact this)
                obtain ⟨f1, f2, f3⟩ := ask_ok (g := g) H1.out HG.out hnb ya yb
                have KLb := Lib.hid (KL0.out nb)
                rw [f1, f2] at KLb
                have HBn := Lib.hid (HBk.out nb eb)
                rw [eb] at KR
                generalize u[nb].c.toNat = xb at eb0 v1 v2 KHb
                clear hpb f1 f2 f3 ya yb yc
                cases hh : hasB g u[k].c with
                | true =>
                  have KHk1 : Hid (∀ w, Calls Tryz.prog 22 #[.string s, .int .u8 u[k].c.toNat] w fun e w' => e = .returned (.bool true) ∧ w' = w) := Lib.hid (fun w => by have := KHk.out w; rwa [hh] at this)
                  generalize u[k].c.toNat = cn at e0 t1 t2 KHk1
                  clear c1 c2 KHk HBk hh HBn
                  go_wp2_with fail
                  refine (KL.out _ (HW.out.later HB.out)).mono ?_
                  rintro e w2 ⟨rfl, hb⟩
                  have C2 := Lib.hid hb
                  have B2 := Lib.hid (HB.out.trans (hb.mono HB.out.size))
                  clear hb
                  go_wp2_with fail
                  refine (KR.out _ (HW.out.later B2.out)).mono ?_
                  rintro e w3 ⟨rfl, hb⟩
                  have C3 := Lib.hid (C2.out.trans (hb.mono C2.out.size))
                  have B3 := Lib.hid (B2.out.trans (hb.mono B2.out.size))
                  clear hb
                  have y0 := (C3.out.cell (p := ⟨b, off + k * 2, none⟩) lb).trans e0
                  have yb0 := (C3.out.cell (p := ⟨b, off + nb * 2, none⟩) lb).trans eb0
                  go_wp2_with fail
                  refine (KHb.out _).mono ?_
                  rintro e wy ⟨rfl, rfl⟩
                  go_wp2_with fail
                  refine (KHk1.out _).mono ?_
                  rintro e wz ⟨rfl, rfl⟩
                  go_wp2_with fail
                  go_roundw
                  case rel => exact HNx.out _ B3.out
                  case measure => first | (simp [intOf]; done) | (simp [intOf]; omega)
                | false =>
                  have KHk1 : Hid (∀ w, Calls Tryz.prog 22 #[.string s, .int .u8 u[k].c.toNat] w fun e w' => e = .returned (.bool false) ∧ w' = w) := Lib.hid (fun w => by have := KHk.out w; rwa [hh] at this)
                  have KLb1 := Lib.hid KLb.out
                  rw [HBn.out hh] at KLb1
                  have kk : ((k : Int) != (k : Int)) = false := by simp
                  generalize u[k].c.toNat = cn at e0 t1 t2 KHk1
                  clear c1 c2 KHk HBk hh HBn
                  go_wp2_with fail
                  refine (KL.out _ (HW.out.later HB.out)).mono ?_
                  rintro e w2 ⟨rfl, hb⟩
                  have C2 := Lib.hid hb
                  have B2 := Lib.hid (HB.out.trans (hb.mono HB.out.size))
                  clear hb
                  go_wp2_with fail
                  refine (KR.out _ (HW.out.later B2.out)).mono ?_
                  rintro e w3 ⟨rfl, hb⟩
                  have C3 := Lib.hid (C2.out.trans (hb.mono C2.out.size))
                  have B3 := Lib.hid (B2.out.trans (hb.mono B2.out.size))
                  clear hb
                  have y0 := (C3.out.cell (p := ⟨b, off + k * 2, none⟩) lb).trans e0
                  have yb0 := (C3.out.cell (p := ⟨b, off + nb * 2, none⟩) lb).trans eb0
                  go_wp2_with fail
                  refine (KHb.out _).mono ?_
                  rintro e wy ⟨rfl, rfl⟩
                  go_wp2_with fail
                  refine (KHk1.out _).mono ?_
                  rintro e wz ⟨rfl, rfl⟩
                  go_wp2_with fail
                  refine (KLb1.out _ (HW.out.later B3.out)).mono ?_
                  rintro e w5 ⟨rfl, hb⟩
                  have B5 := Lib.hid (B3.out.trans (hb.mono B3.out.size))
                  clear hb
                  go_wp2_with fail
                  go_roundw
                  case rel => exact HNx.out _ B5.out
                  case measure => first | (simp [intOf]; done) | (simp [intOf]; omega)
            · have n0 : ¬ (k : Int) ≤ (na : Int) := by omega
              have n1 : ¬ (na : Int) < -1 := by omega
              have n2 : (0 : Int) ≤ (na : Int) := by omega
              have hna : na < u.length := by omega
              have n3 : (na : Int) < (u.length : Int) := by omega
              obtain ⟨b', off', cap'', qa, ca, hpa, ea0, _, _, _⟩ := (HW.out.later HB.out).at hna
              obtain ⟨rfl, rfl⟩ : b = b' ∧ off = off' := by cases hpa; exact ⟨rfl, rfl⟩
              have u1 : ((u[na].c.toNat : Int) == 91) = false := ne_tst2 hna za
              have u2 : ((u[na].c.toNat : Int) == 93) = false := ne_tst2 hna zb
              have KHa : Hid (∀ w, Calls Tryz.prog 22 #[.string s, .int .u8 u[na].c.toNat] w fun e w' => e = .returned (.bool false) ∧ w' = w) := Lib.hid (fun w => by have := KH.out u[na].c w; rw [← md_get hna, zc] at this; rw [← md_get hna]; exact this)
              rw [ea] at KL
              generalize u[na].c.toNat = xa at ea0 u1 u2 KHa
              clear hpa za zb zc
              rcases beh_cases g hlt with eb | ⟨nb, eb, hkb, hnb, ya, yb, yc⟩
              · have m0 : ¬ (u.length : Int) ≤ -1 := by omega
                rw [eb] at KR
                generalize u[k].c.toNat = cn at e0 t1 t2
                clear c1 c2 KHk HBk
                go_wp2_with fail
                refine (KL.out _ (HW.out.later HB.out)).mono ?_
                rintro e w2 ⟨rfl, hb⟩
                have C2 := Lib.hid hb
                have B2 := Lib.hid (HB.out.trans (hb.mono HB.out.size))
                clear hb
                go_wp2_with fail
                refine (KR.out _ (HW.out.later B2.out)).mono ?_
                rintro e w3 ⟨rfl, hb⟩
                have C3 := Lib.hid (C2.out.trans (hb.mono C2.out.size))
                have B3 := Lib.hid (B2.out.trans (hb.mono B2.out.size))
                clear hb
                have y0 := (C3.out.cell (p := ⟨b, off + k * 2, none⟩) lb).trans e0
                have ya0 := (C3.out.cell (p := ⟨b, off + na * 2, none⟩) lb).trans ea0
                go_wp2_with fail
                refine (KHa.out _).mono ?_
                rintro e wy ⟨rfl, rfl⟩
                go_wp2_with fail
                go_roundw
                case rel => exact HNx.out _ B3.out
                case measure => first | (simp [intOf]; done) | (simp [intOf]; omega)
              · have m0 : ¬ (nb : Int) ≤ (k : Int) := by omega
                have m1 : ((nb : Int) != -1) = true := by rw [bne_iff_ne]; omega
                have m2 : (0 : Int) ≤ (nb : Int) := by omega
                have m3 : (nb : Int) < (u.length : Int) := by omega
                have m4 : ¬ (u.length : Int) ≤ (nb : Int) := by omega
                obtain ⟨b2, off2, cap2, qb, cb, hpb, eb0, _, _, _⟩ := (HW.out.later HB.out).at hnb
                obtain ⟨rfl, rfl⟩ : b = b2 ∧ off = off2 := by cases hpb; exact ⟨rfl, rfl⟩
                have v1 : ((u[nb].c.toNat : Int) == 91) = false := ne_tst2 hnb ya
                have v2 : ((u[nb].c.toNat : Int) == 93) = false := ne_tst2 hnb yb
                have KHb : Hid (∀ w, Calls Tryz.prog 22 #[.string s, .int .u8 u[nb].c.toNat] w fun e w' => e = .returned (.bool false) ∧ w' = w) := Lib.hid (fun w => by have := KH.out u[nb].c w; rw [← md_get hnb, yc] at this; rw [← md_get hnb]; exact this)
                obtain ⟨f1, f2, f3⟩ := ask_ok (g := g) H1.out HG.out hnb ya yb
                have KLb := Lib.hid (KL0.out nb)
                rw [f1, f2] at KLb
                have HBn := Lib.hid (HBk.out nb eb)
                rw [eb] at KR
                generalize u[nb].c.toNat = xb at eb0 v1 v2 KHb
                clear hpb f1 f2 f3 ya yb yc
                cases hh : hasB g u[k].c with
                | true =>
                  have KHk1 : Hid (∀ w, Calls Tryz.prog 22 #[.string s, .int .u8 u[k].c.toNat] w fun e w' => e = .returned (.bool true) ∧ w' = w) := Lib.hid (fun w => by have := KHk.out w; rwa [hh] at this)
                  generalize u[k].c.toNat = cn at e0 t1 t2 KHk1
                  clear c1 c2 KHk HBk hh HBn
                  go_wp2_with fail
                  refine (KL.out _ (HW.out.later HB.out)).mono ?_
                  rintro e w2 ⟨rfl, hb⟩
                  have C2 := Lib.hid hb
                  have B2 := Lib.hid (HB.out.trans (hb.mono HB.out.size))
                  clear hb
                  go_wp2_with fail
                  refine (KR.out _ (HW.out.later B2.out)).mono ?_
                  rintro e w3 ⟨rfl, hb⟩
                  have C3 := Lib.hid (C2.out.trans (hb.mono C2.out.size))
                  have B3 := Lib.hid (B2.out.trans (hb.mono B2.out.size))
                  clear hb
                  have y0 := (C3.out.cell (p := ⟨b, off + k * 2, none⟩) lb).trans e0
                  have ya0 := (C3.out.cell (p := ⟨b, off + na * 2, none⟩) lb).trans ea0
                  have yb0 := (C3.out.cell (p := ⟨b, off + nb * 2, none⟩) lb).trans eb0
                  go_wp2_with fail
                  refine (KHa.out _).mono ?_
                  rintro e wy ⟨rfl, rfl⟩
                  go_wp2_with fail
                  refine (KHb.out _).mono ?_
                  rintro e wy ⟨rfl, rfl⟩
                  go_wp2_with fail
                  refine (KHk1.out _).mono ?_
                  rintro e wz ⟨rfl, rfl⟩
                  go_wp2_with fail
                  go_roundw
                  case rel => exact HNx.out _ B3.out
                  case measure => first | (simp [intOf]; done) | (simp [intOf]; omega)
                | false =>
                  have KHk1 : Hid (∀ w, Calls Tryz.prog 22 #[.string s, .int .u8 u[k].c.toNat] w fun e w' => e = .returned (.bool false) ∧ w' = w) := Lib.hid (fun w => by have := KHk.out w; rwa [hh] at this)
                  have KLb1 := Lib.hid KLb.out
                  rw [HBn.out hh] at KLb1
                  have kk : ((k : Int) != (k : Int)) = false := by simp
                  generalize u[k].c.toNat = cn at e0 t1 t2 KHk1
                  clear c1 c2 KHk HBk hh HBn
                  go_wp2_with fail
                  refine (KL.out _ (HW.out.later HB.out)).mono ?_
                  rintro e w2 ⟨rfl, hb⟩
                  have C2 := Lib.hid hb
                  have B2 := Lib.hid (HB.out.trans (hb.mono HB.out.size))
                  clear hb
                  go_wp2_with fail
                  refine (KR.out _ (HW.out.later B2.out)).mono ?_
                  rintro e w3 ⟨rfl, hb⟩
                  have C3 := Lib.hid (C2.out.trans (hb.mono C2.out.size))
                  have B3 := Lib.hid (B2.out.trans (hb.mono B2.out.size))
                  clear hb
                  have y0 := (C3.out.cell (p := ⟨b, off + k * 2, none⟩) lb).trans e0
                  have ya0 := (C3.out.cell (p := ⟨b, off + na * 2, none⟩) lb).trans ea0
                  have yb0 := (C3.out.cell (p := ⟨b, off + nb * 2, none⟩) lb).trans eb0
                  go_wp2_with fail
                  refine (KHa.out _).mono ?_
                  rintro e wy ⟨rfl, rfl⟩
                  go_wp2_with fail
                  refine (KHb.out _).mono ?_
                  rintro e wy ⟨rfl, rfl⟩
                  go_wp2_with fail
                  refine (KHk1.out _).mono ?_
                  rintro e wz ⟨rfl, rfl⟩
                  go_wp2_with fail
                  refine (KLb1.out _ (HW.out.later B3.out)).mono ?_
                  rintro e w5 ⟨rfl, hb⟩
                  have B5 := Lib.hid (B3.out.trans (hb.mono B3.out.size))
                  clear hb
                  go_wp2_with fail
                  go_roundw
                  case rel => exact HNx.out _ B5.out
                  case measure => first | (simp [intOf]; done) | (simp [intOf]; omega)
      · obtain rfl : k = u.length := by omega
        have k1 : ¬ (u.length : Int) < (u.length : Int) := by omega
        go_wp2_with fail
        refine (KA.out _ (HE.out.later HB.out)).mono ?_
        rintro e w2 ⟨rfl, hb⟩
        have B2 := Lib.hid (HB.out.trans (hb.mono HB.out.size))
        clear hb
        go_wp2_with fail
        go_ret
        exact ⟨rfl, B2.out⟩
end Go.Proofs.YtcoljbcjnggagaaGreatDoor
namespace Go.Proofs.YtcoljbcjnggagaaGreatDoor.ConCard
set_option maxRecDepth 100000
set_option linter.unusedVariables false
set_option linter.unusedSimpArgs false
open Go.ChangeShapes Go.WideShapes Go.ChangeAt Go.RowKit Go.Joins Go.Deep

theorem own : ownKnob Tryz.prog.godebug = none := by kernel_rfl
theorem laid : laidOutB Tryz.prog = true := by kernel_rfl
theorem u8_of {k : Int} (h : (Lit.int .u8 k).wf = true) : ∃ c : UInt8, k = c.toNat := by
  have e1 : IntKind.u8.min = 0 := by decide
  have e2 : IntKind.u8.max = 255 := by decide
  simp [Lit.wf, e1, e2] at h
  exact ⟨UInt8.ofNat k.toNat, by rw [UInt8.toNat_ofNat']; omega⟩
theorem gType : (Tryz.prog.globals[3]?).map (·.type) = some 162 := by kernel_rfl
theorem rType : (Tryz.prog.globals[2]?).map (·.type) = some 63 := by kernel_rfl
theorem sType : (Tryz.prog.globals[1]?).map (·.type) = some 63 := by kernel_rfl
theorem cellsTab : Tryz.prog.cellsOf 162 = 20 := by kernel_rfl
theorem cellsU : Tryz.prog.cellsOf 141 = 1 := by kernel_rfl
theorem cellsE : Tryz.prog.cellsOf 169 = 1 := by kernel_rfl
theorem cellsS : Tryz.prog.cellsOf 9 = 1 := by kernel_rfl
theorem star : "*" ++ "errors.errorString" = "*errors.errorString" := by decide
theorem rowE : ∀ u, Tryz.prog.typeName? 3 u = some "*errors.errorString" → u = 167 := fun u h =>
  typeName_ptr_named (P := Tryz.prog) (nm := "errors.errorString") (by rw [star]; kernel_rfl) (by kernel_rfl) (by decide) u (by rw [star]; exact h)
theorem env {W : World} (h : laidMetH Tryz.prog Rows.contextPlainRow.laid W) (hsh : W.ShapedOpen Tryz.prog) : Env W where
  tab := Lib.tabIs_of_head (rest := _) tab_named gType Tryz.underlying162 Tryz.underlying141 cellsU cellsTab (laidMet.tail (laidMet.tail h))
  len := Tryz.laysM145.s1_3 W hsh
  rge := by
    have h4 : laidMet Tryz.prog (("strconv.ErrRange", Rows.laid_strconv_ErrRange) :: [("strconv.ErrSyntax", Rows.laid_strconv_ErrSyntax), ("unicode/utf8.first", Rows.laid_unicode_utf8_first)]) W := laidMet.tail (laidMet.tail (laidMet.tail (laidMet.tail h)))
    obtain ⟨a, s, h1, _⟩ := laid_sentinel h4 rge_named rType Tryz.underlying63 rowE Tryz.underlying167 Tryz.underlying169 rfl rfl Tryz.underlying9 cellsE cellsS
    exact ⟨_, _, h1⟩
  syn := by
    have h4 : laidMet Tryz.prog (("strconv.ErrSyntax", Rows.laid_strconv_ErrSyntax) :: [("unicode/utf8.first", Rows.laid_unicode_utf8_first)]) W := laidMet.tail (laidMet.tail (laidMet.tail (laidMet.tail (laidMet.tail h))))
    obtain ⟨a, s, h1, _⟩ := laid_sentinel h4 syn_named sType Tryz.underlying63 rowE Tryz.underlying167 Tryz.underlying169 rfl rfl Tryz.underlying9 cellsE cellsS
    exact ⟨_, _, h1⟩
noncomputable def low : Nat := (World.holding Tryz.prog default ⟨#[], #[], []⟩).heap.size
/-- A world for the witness: the settled one, the tables and sentinels holding what their initialisers lay. -/
noncomputable def laidWorld (os : Os) : World :=
  let w0 := World.holding Tryz.prog os ⟨#[.cells #[.string ⟨#[118, 97, 108, 117, 101, 32, 111, 117, 116, 32, 111, 102, 32, 114, 97, 110, 103, 101]⟩] 169, .cells #[.string ⟨#[105, 110, 118, 97, 108, 105, 100, 32, 115, 121, 110, 116, 97, 120]⟩] 169], #[], []⟩
  { w0 with heap := (((((((w0.heap.modify 6 (fun o => match o with | .cells _ t frozen => .cells #[.int .u8 0, .int .u8 1, .int .u8 28, .int .u8 2, .int .u8 29, .int .u8 14, .int .u8 24, .int .u8 3, .int .u8 30, .int .u8 22, .int .u8 20, .int .u8 15, .int .u8 25, .int .u8 17, .int .u8 4, .int .u8 8, .int .u8 31, .int .u8 27, .int .u8 13, .int .u8 23, .int .u8 21, .int .u8 19, .int .u8 16, .int .u8 7, .int .u8 26, .int .u8 12, .int .u8 18, .int .u8 6, .int .u8 11, .int .u8 5, .int .u8 10, .int .u8 9] t frozen | o => o)).modify 7 (fun o => match o with | .cells _ t frozen => .cells #[.int .u8 0, .int .u8 1, .int .u8 56, .int .u8 2, .int .u8 57, .int .u8 49, .int .u8 28, .int .u8 3, .int .u8 61, .int .u8 58, .int .u8 42, .int .u8 50, .int .u8 38, .int .u8 29, .int .u8 17, .int .u8 4, .int .u8 62, .int .u8 47, .int .u8 59, .int .u8 36, .int .u8 45, .int .u8 43, .int .u8 51, .int .u8 22, .int .u8 53, .int .u8 39, .int .u8 33, .int .u8 30, .int .u8 24, .int .u8 18, .int .u8 12, .int .u8 5, .int .u8 63, .int .u8 55, .int .u8 48, .int .u8 27, .int .u8 60, .int .u8 41, .int .u8 37, .int .u8 16, .int .u8 46, .int .u8 35, .int .u8 44, .int .u8 21, .int .u8 52, .int .u8 32, .int .u8 23, .int .u8 11, .int .u8 54, .int .u8 26, .int .u8 40, .int .u8 15, .int .u8 34, .int .u8 20, .int .u8 31, .int .u8 10, .int .u8 25, .int .u8 14, .int .u8 19, .int .u8 9, .int .u8 13, .int .u8 8, .int .u8 7, .int .u8 6] t frozen | o => o)).modify 3 (fun o => match o with | .cells _ t frozen => .cells #[.int .u64 1, .int .u64 10, .int .u64 100, .int .u64 1000, .int .u64 10000, .int .u64 100000, .int .u64 1000000, .int .u64 10000000, .int .u64 100000000, .int .u64 1000000000, .int .u64 10000000000, .int .u64 100000000000, .int .u64 1000000000000, .int .u64 10000000000000, .int .u64 100000000000000, .int .u64 1000000000000000, .int .u64 10000000000000000, .int .u64 100000000000000000, .int .u64 1000000000000000000, .int .u64 10000000000000000000] t frozen | o => o)).modify 5 (fun o => match o with | .cells _ t frozen => .cells #[.int .u8 128, .int .u8 191, .int .u8 160, .int .u8 191, .int .u8 128, .int .u8 159, .int .u8 144, .int .u8 191, .int .u8 128, .int .u8 143, .int .u8 0, .int .u8 0, .int .u8 0, .int .u8 0, .int .u8 0, .int .u8 0, .int .u8 0, .int .u8 0, .int .u8 0, .int .u8 0, .int .u8 0, .int .u8 0, .int .u8 0, .int .u8 0, .int .u8 0, .int .u8 0, .int .u8 0, .int .u8 0, .int .u8 0, .int .u8 0, .int .u8 0, .int .u8 0] t frozen | o => o)).modify 4 (fun o => match o with | .cells _ t frozen => .cells (Go.Pinned.utf8FirstZ.map fun (n : Nat) => Value.int .u8 (n : Int)).toArray t frozen | o => o)).modify 2 (fun o => match o with | .cells _ t frozen => .cells #[.iface 167 (.pointer (some ⟨low, 0, none⟩))] t frozen | o => o)).modify 1 (fun o => match o with | .cells _ t frozen => .cells #[.iface 167 (.pointer (some ⟨low + 1, 0, none⟩))] t frozen | o => o)) }
end Go.Proofs.YtcoljbcjnggagaaGreatDoor.ConCard
