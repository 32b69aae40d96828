/-
  LabelNames: what the walk owes.
-/
import Derived.Test.YtjladbgidodhbaaLabLawN
namespace Go.Proofs.Ytjladbgidodhbaa
open Go.RowKit Go.Shelf
open LM
set_option linter.unusedVariables false
set_option linter.unusedSimpArgs false
attribute [local go_sem] Oper.semAt_some

theorem repL_replicate : ∀ k, repL [97] k = List.replicate k 97
  | 0 => rfl
  | k + 1 => by rw [repL, repL_replicate k, ← List.replicate_succ']
theorem chk_as (n : Nat) (h1 : 40 < n) (h2 : n ≤ 4000) : chk (List.replicate n 97) = 12 := by
  have hno : ∀ c : UInt8, c ≠ 97 → c ∉ List.replicate n 97 := fun c hc hm => hc (List.eq_of_mem_replicate hm)
  have hne : List.replicate n (97 : UInt8) ≠ [] := fun e => by have := congrArg List.length e; rw [List.length_replicate] at this; simp at this; omega
  have hcut : cutL (List.replicate n 97) = [List.replicate n 97] := by rw [cutL_ne hne, splitA_no _ _ (hno 47 (by decide))]; rfl
  refine chk_bad (x := List.replicate n 97) (by rw [List.length_replicate]; omega) (by rw [hcut]; simp) (by rw [hcut]; simp) ?_
  have hp : preL (List.replicate n 97) = List.replicate n 97 := by rw [preL, cut_none (hno 91 (by decide))]
  have hd : decide ((List.replicate n (97 : UInt8)).length ≤ 40) = false := by rw [decide_eq_false_iff_not, List.length_replicate]; omega
  rw [stepB, nameB, hp, hd]
  simp
theorem app_lit (x y : Bs) : lA (bA x ++ bA y) = x ++ y := by rw [bA_app, lA_bA]
theorem size_app (x y : Bs) : (bA x ++ bA y).size = x.length + y.length := by rw [bA_app, bA_size, List.length_append]
theorem join_lit (p q : Bs) (r : Bs) (c : Int) (hp : p.length ≤ 50000) (hq : q.length ≤ 40000) (h1 : joiE p q = c) (h2 : joiS p q = r) (w : World) (hl : Len w) :
    Calls Try.prog 22 #[.string (bA p), .string (bA q)] w fun e w' => e = .returned (.tuple #[.string (bA r), .int .i64 c]) ∧ Below w.heap.size w w' := by
  have := join_any (bA p) (bA q) (by rw [bA_size]; exact hp) (by rw [bA_size]; exact hq) w hl
  rwa [lA_bA, lA_bA, h1, h2] at this
theorem check_lit (p : Bs) (c : Int) (hp : p.length ≤ 100000) (h1 : chk p = c) (w : World) (hl : Len w) :
    Calls Try.prog 19 #[.string (bA p)] w fun e w' => e = .returned (.int .i64 c) ∧ Below w.heap.size w w' :=
  check_v (bA p) (by rw [bA_size]; exact hp) c (by rw [lA_bA]; exact h1) w hl
theorem name_lit (p : Bs) (c : Bool) (hp : p.length ≤ 200000) (h1 : nameB p = c) (w : World) :
    Calls Try.prog 17 #[.string (bA p)] w fun e w' => e = .returned (.bool c) ∧ Below w.heap.size w w' := by
  have := name_any (bA p) (by rw [bA_size]; exact hp) w
  rwa [lA_bA, h1] at this
theorem app_one (x : Bs) : bA x ++ ⟨#[97]⟩ = bA (x ++ [97]) := bA_app x [97]
theorem app_two (x : Bs) : bA x ++ ⟨#[47, 97]⟩ = bA (x ++ [47, 97]) := bA_app x [47, 97]
theorem app_six (x : Bs) : bA x ++ ⟨#[91, 57, 57, 57, 57, 93]⟩ = bA (x ++ [91, 57, 57, 57, 57, 93]) := bA_app x [91, 57, 57, 57, 57, 93]
theorem forms_bad : ∀ x ∈ ([[47], [97, 47], [47, 97], [97, 47, 47, 98], [97, 91], [97, 91, 93], [97, 91, 48, 49, 93], [97, 91, 49, 48, 48, 48, 48, 93], [97, 91, 49, 93, 98], [97, 91, 45, 49, 93], [91, 49, 93], [97, 32, 98], repL [97] 40 ++ [97]] : List Bs), x.length ≤ 100 ∧ chk x = 12 := by decide +kernel
set_option maxRecDepth 100000 in
theorem names_walk (w : World) (hl : Len w) : Calls Try.prog 5 #[] w fun e w' => e = .returned (.bool true) ∧ Below w.heap.size w w' := by
  have lf : (repL [97, 47] 39).length = 78 := by rw [repL_len]; rfl
  have lw : (repL [97] 40).length = 40 := by rw [repL_len]; rfl
  have ll : (repL [97] 4001).length = 4001 := by rw [repL_len]; rfl
  refine names_main (bA (repL [97, 47] 39)) (bA (repL [97] 40)) (bA (repL [97] 4001)) (repL [97] 40 ++ [97]) (by rw [app_one]) (by rw [bA_size, lf]; omega) (by rw [bA_size, lw]; omega) (by rw [bA_size, ll]; omega) (by rw [bA_size, ll]; omega)
    (fun x hx w hl => check_lit x 12 (by have := (forms_bad x hx).1; omega) (forms_bad x hx).2 w hl)
    (fun w => reflong_any [97, 47] 39 (by omega) (by decide) w) ?_ ?_ ?_ ?_ ?_ (fun w => reflong_any [97] 40 (by omega) (by decide) w) ?_ ?_ (fun w => reflong_any [97] 4001 (by omega) (by decide) w) ?_ ?_ ?_ ?_ ?_ ?_ ?_ ?_ w hl
  · intro w hl
    rw [app_one]
    exact join_lit _ [97] [] 4 (by rw [List.length_append, lf]; decide) (by decide) (by decide +kernel) (by decide +kernel) w hl
  · intro w hl
    have := parent_any ByteArray.empty (by decide) w hl
    rwa [show bA (parS (lA ByteArray.empty)) = ByteArray.empty by decide +kernel, show parE (lA ByteArray.empty) = 6 by decide +kernel] at this
  · intro w hl
    have := last_any ByteArray.empty (by decide) w hl
    rwa [show bA (lasN (lA ByteArray.empty)) = ByteArray.empty by decide +kernel, show lasI (lA ByteArray.empty) = 0 by decide +kernel, show parE (lA ByteArray.empty) = 6 by decide +kernel] at this
  · intro w hl
    exact join_lit [97] [66] [] 12 (by decide) (by decide) (by decide +kernel) (by decide +kernel) w hl
  · intro w hl
    exact join_lit [97] [98, 47, 99] [] 12 (by decide) (by decide) (by decide +kernel) (by decide +kernel) w hl
  · intro w hl
    rw [app_six]
    exact join_lit [] (repL [97] 40 ++ [91, 57, 57, 57, 57, 93]) _ 0 (by decide) (by rw [List.length_append, lw]; decide) (by decide +kernel) (by decide +kernel) w hl
  · intro w hl
    exact steps_api ByteArray.empty (by decide) 0 (by decide +kernel) [] 0 (by decide +kernel) rfl w hl
  · intro w hl
    rw [app_one]
    exact check_lit _ 0 (by rw [List.length_append, lf]; decide) (by decide +kernel) w hl
  · intro w hl
    rw [app_one, app_two]
    exact check_lit _ 4 (by rw [List.length_append, List.length_append, lf]; decide) (by decide +kernel) w hl
  · intro w hl
    exact check_lit _ 4 (by omega) (chk_long (by omega)) w hl
  · intro w hl
    have e : (bA (repL [97] 4001)).extract 0 4000 = bA (List.replicate 4000 97) := lA_inj (by rw [lA_take, lA_bA, lA_bA, repL_replicate, List.take_replicate]; rfl)
    rw [e]
    exact check_lit _ 12 (by rw [List.length_replicate]; omega) (chk_as 4000 (by omega) (by omega)) w hl
  · intro w
    exact name_lit [] false (by decide) (by decide +kernel) w
  · intro w
    exact name_lit [57, 97] false (by decide) (by decide +kernel) w
  · intro w
    exact name_lit _ true (by omega) (by decide +kernel) w
  · intro w
    rw [app_one]
    exact name_lit _ false (by rw [List.length_append, lw]; decide) (by decide +kernel) w
end Go.Proofs.Ytjladbgidodhbaa
