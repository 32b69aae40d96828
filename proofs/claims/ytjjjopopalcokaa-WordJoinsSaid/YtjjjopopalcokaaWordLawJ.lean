/-
  The walk of WordJoins.
-/
import Derived.Test.YtjjjopopalcokaaWordUniR
import Derived.Test.YtjjjopopalcokaaWordSpoil
namespace Go.Proofs.Ytjjjopopalcokaa
open Go.RowKit
open WM
set_option linter.unusedVariables false
set_option linter.unusedSimpArgs false

theorem jL_len {a b : List Md} (ha : a.length ≤ 2100) (hb : b.length ≤ 2100) : (jL a b).length ≤ 4200 := by
  unfold jL; split
  · rw [List.length_append]; omega
  · simp
theorem jL_args {a b : List Md} (ha : ∀ m ∈ a, m.a.length ≤ 10) (hb : ∀ m ∈ b, m.a.length ≤ 10) : ∀ m ∈ jL a b, m.a.length ≤ 10 := by
  intro m hm
  unfold jL at hm; split at hm
  · rcases List.mem_append.1 hm with h | h
    · exact ha m h
    · exact hb m h
  · simp at hm
theorem same_yes (v1 v2 : Value) (l : List Md) (h1 : l.length ≤ 9223372036854775807) (g1 : ∀ m ∈ l, m.a.length ≤ 9223372036854775807) (w : World) (i1 : Mods w v1 l) (i2 : Mods w v2 l) :
    Calls Try.prog 16 #[v1, v2] w fun e w' => e = .returned (.bool true) ∧ Below w.heap.size w w' := by
  have := same_any v1 v2 l l h1 h1 g1 g1 w i1 i2
  rwa [decide_eq_true rfl] at this
set_option maxRecDepth 100000 in
set_option maxHeartbeats 3200000 in
theorem joins_walk (v1 v2 : Value) (a b : List Md) (ha : a.length ≤ 9223372036854775807) (hb0 : b.length ≤ 9223372036854775807) (haa : ∀ m ∈ a, m.a.length ≤ 9223372036854775807) (hbb : ∀ m ∈ b, m.a.length ≤ 9223372036854775807) (w : World) (i1 : Mods w v1 a) (i2 : Mods w v2 b) (n1 : NilOr v1) (n2 : NilOr v2) :
    Calls Try.prog 4 #[v1, v2] w fun e w' => e = .returned (.bool true) ∧ Below w.heap.size w w' := by
  by_cases hg : greatB a = true
  · have K := Lib.hid (great_any v1 a ha w i1 haa)
    rw [hg] at K
    clear i1 i2 n1 n2 hg
    go_enter Try.func4, Try.ntmps4
    go_wp2_with fail
    refine K.out.mono ?_
    rintro e wx ⟨rfl, rfl⟩
    go_wp2_with fail
    go_ret
    exact ⟨rfl, Below.refl _ _⟩
  have hg : greatB a = false := by simpa using hg
  by_cases hg2 : greatB b = true
  · have K := Lib.hid (great_any v1 a ha w i1 haa)
    rw [hg] at K
    have K2 := Lib.hid (great_any v2 b hb0 w i2 hbb)
    rw [hg2] at K2
    clear i1 i2 n1 n2 hg hg2
    go_enter Try.func4, Try.ntmps4
    go_wp2_with fail
    refine K.out.mono ?_
    rintro e wx ⟨rfl, rfl⟩
    go_wp2_with fail
    refine K2.out.mono ?_
    rintro e wx ⟨rfl, rfl⟩
    go_wp2_with fail
    go_ret
    exact ⟨rfl, Below.refl _ _⟩
  have hg2 : greatB b = false := by simpa using hg2
  obtain ⟨la, laa⟩ := great_no hg
  obtain ⟨lb, lbb⟩ := great_no hg2
  have G1 := Lib.hid (great_any v1 a ha w i1 haa)
  rw [hg] at G1
  have G2 := Lib.hid (great_any v2 b hb0 w i2 hbb)
  rw [hg2] at G2
  have HV1 := Lib.hid i1
  have HV2 := Lib.hid i2
  have K1 := Lib.hid (fun w h => twin_any v1 a la laa w h)
  have K2 := Lib.hid (fun w h => twin_any v2 b lb lbb w h)
  have K3 := Lib.hid (fun w h h' => ujoin_any v1 v2 a b (by omega) (by omega) (fun m hm => by have := laa m hm; omega) (fun m hm => by have := lbb m hm; omega) n1 n2 w h h')
  have K4 := Lib.hid (fun w h h' => rjoin_any v1 v2 a b la lb laa lbb w h h')
  have K5 := Lib.hid (fun w h => ptwin_any v1 a (by omega) (fun m hm => by have := laa m hm; omega) w h n1)
  have K6 := Lib.hid (fun x y w h h' => same_yes x y (jL a b) (by have := jL_len la lb; omega) (fun m hm => by have := jL_args laa lbb m hm; omega) w h h')
  have K7 := Lib.hid (fun x y w h h' => same_yes x y a (by omega) haa w h h')
  have K8 := Lib.hid (fun x y w h h' => same_yes x y b (by omega) hbb w h h')
  have K9 := Lib.hid (fun base top v vs w h h' => spoil_any base top v (jL a b) vs (by have := jL_len la lb; omega) (fun m hm => by have := jL_args laa lbb m hm; omega) w h h')
  have K10 := Lib.hid (fun base top v vs w h h' => spoil_any base top v a vs (by omega) (fun m hm => by have := laa m hm; omega) w h h')
  obtain ⟨c, hc⟩ : ∃ c, jC a b = c := ⟨_, rfl⟩
  have hcc : (c != c) = false := by simp
  clear i1 i2 n1 n2 hg hg2 haa hbb laa lbb
  go_enter Try.func4, Try.ntmps4
  go_wp2_with fail
  refine (G1.out).mono ?_
  rintro e wx ⟨rfl, rfl⟩
  go_wp2_with fail
  refine (G2.out).mono ?_
  rintro e wx ⟨rfl, rfl⟩
  go_wp2_with fail
  refine (K1.out _ HV1.out).mono ?_
  rintro e w1 ⟨one, vs1, rfl, hb, hm⟩
  have B1 := Lib.hid hb
  have C1 := Lib.hid hb
  have M1 := Lib.hid hm.mods
  clear hm
  clear hb
  go_wp2_with fail
  refine (K2.out _ (HV2.out.later B1.out)).mono ?_
  rintro e w2 ⟨two, vs2, rfl, hb, hm⟩
  have B2 := Lib.hid (B1.out.trans (hb.mono B1.out.size))
  have C2 := Lib.hid hb
  have M2 := Lib.hid hm.mods
  clear hm
  clear hb
  go_wp2_with fail
  refine (K3.out _ (HV1.out.later B2.out) (HV2.out.later B2.out)).mono ?_
  rintro e w3 ⟨x, vs3, rfl, hb, hm⟩
  have B3 := Lib.hid (B2.out.trans (hb.mono B2.out.size))
  have C3 := Lib.hid hb
  have X3 := Lib.hid hm
  clear hm
  rw [hc]
  clear hb
  go_wp2_with fail
  refine (K4.out _ (HV1.out.later B3.out) (HV2.out.later B3.out)).mono ?_
  rintro e w4 ⟨y, rfl, hb, hm⟩
  have B4 := Lib.hid (B3.out.trans (hb.mono B3.out.size))
  have C4 := Lib.hid hb
  have Y4 := Lib.hid hm
  clear hm
  rw [hc]
  clear hb
  go_wp2_with fail
  refine (K5.out _ (HV1.out.later B4.out)).mono ?_
  rintro e w5 ⟨t, vs5, rfl, hb, hm⟩
  have B5 := Lib.hid (B4.out.trans (hb.mono B4.out.size))
  have C5 := Lib.hid hb
  have T5 := Lib.hid hm
  clear hm
  clear hb
  have X5 := Lib.hid ((X3.out.later C4.out).later C5.out)
  have Y5 := Lib.hid (Y4.out.later C5.out)
  go_wp2_with fail
  refine (K6.out _ _ _ X5.out.mods Y5.out).mono ?_
  rintro e w6 ⟨rfl, hb⟩
  have B6 := Lib.hid (B5.out.trans (hb.mono B5.out.size))
  have C6 := Lib.hid hb
  clear hb
  go_wp2_with fail
  refine (K7.out _ _ _ (T5.out.mods.later C6.out) (HV1.out.later B6.out)).mono ?_
  rintro e w7 ⟨rfl, hb⟩
  have B7 := Lib.hid (B6.out.trans (hb.mono B6.out.size))
  have C7 := Lib.hid hb
  clear hb
  have X7 := Lib.hid ((X5.out.later C6.out).later C7.out)
  have T7 := Lib.hid ((T5.out.later C6.out).later C7.out)
  have D7 : Hid (Below w2.heap.size w2 w7) := Lib.hid (C3.out.trans ((C4.out.trans ((C5.out.trans ((C6.out.trans (C7.out.mono C6.out.size)).mono C5.out.size)).mono C4.out.size)).mono C3.out.size))
  have z34 := C4.out.size
  have z23 := C3.out.size
  have z12 := C2.out.size
  go_wp2_with fail
  refine (K9.out w2.heap.size w3.heap.size _ _ _ X7.out X3.out.isIn).mono ?_
  rintro e w8 ⟨rfl, hb, hf⟩
  have D8 := Lib.hid (D7.out.trans hb)
  have T8 := Lib.hid (T7.out.far (fun k hk => hf k (Nat.le_trans z34 hk)))
  clear hb hf
  go_wp2_with fail
  refine (K10.out w4.heap.size w5.heap.size _ _ _ T8.out T5.out.isIn).mono ?_
  rintro e w9 ⟨rfl, hb, hf⟩
  have D9 := Lib.hid (D8.out.trans (hb.mono (Nat.le_trans z23 z34)))
  clear hb hf
  have B9 := Lib.hid (B2.out.trans (D9.out.mono B2.out.size))
  have N1 := Lib.hid ((M1.out.later C2.out).later D9.out)
  have N2 := Lib.hid (M2.out.later D9.out)
  go_wp2_with fail
  refine (K7.out _ _ _ (HV1.out.later B9.out) N1.out).mono ?_
  rintro e w10 ⟨rfl, hb⟩
  have B10 := Lib.hid (B9.out.trans (hb.mono B9.out.size))
  have C10 := Lib.hid hb
  clear hb
  go_wp2_with fail
  refine (K8.out _ _ _ (HV2.out.later B10.out) (N2.out.later C10.out)).mono ?_
  rintro e w11 ⟨rfl, hb⟩
  have B11 := Lib.hid (B10.out.trans (hb.mono B10.out.size))
  have C11 := Lib.hid hb
  clear hb
  go_wp2_with fail
  go_ret
  exact ⟨rfl, B11.out⟩
end Go.Proofs.Ytjjjopopalcokaa
