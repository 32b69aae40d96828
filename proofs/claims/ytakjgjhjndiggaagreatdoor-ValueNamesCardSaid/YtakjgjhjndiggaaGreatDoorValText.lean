/-
  The texts of values: plain mathematics.
-/
import Derived.Test.YtakjgjhjndiggaaGreatDoorZRatLooseParse
import Derived.Test.YtakjgjhjndiggaaGreatDoorValMath
import Derived.Lib.Join
namespace Go.Proofs.YtakjgjhjndiggaaGreatDoor
open Go.RowKit
open VM
set_option linter.unusedVariables false
set_option linter.unusedSimpArgs false
abbrev By := List UInt8
def bA (l : By) : ByteArray := ⟨l.toArray⟩
def lA (s : ByteArray) : By := s.data.toList
@[simp] theorem lA_bA (l : By) : lA (bA l) = l := by simp [lA, bA]
@[simp] theorem bA_lA (s : ByteArray) : bA (lA s) = s := by show ByteArray.mk s.data.toList.toArray = s; rw [Array.toArray_toList]
theorem bA_size (l : By) : (bA l).size = l.length := by rw [← ByteArray.size_data]; show l.toArray.size = _; exact List.size_toArray
theorem lA_len (s : ByteArray) : (lA s).length = s.size := by rw [← ByteArray.size_data]; exact Array.length_toList
theorem bA_app (a b : By) : bA a ++ bA b = bA (a ++ b) := by
  apply ByteArray.ext
  rw [ByteArray.data_append]
  show a.toArray ++ b.toArray = (a ++ b).toArray
  rw [List.append_toArray]
theorem bA_inj {a b : By} (h : bA a = bA b) : a = b := by rw [← lA_bA a, h, lA_bA]

def escL : By → By
  | [] => []
  | c :: r => if c = 34 ∨ c = 92 then 92 :: c :: escL r else c :: escL r
def quoL (s : By) : By := 34 :: (escL s ++ [34])
def truL (b : Bool) : By := if b = true then [116, 114, 117, 101] else [102, 97, 108, 115, 101]
mutual
def txt : V → By
  | .mk a l => if a.k = 1 then textL a.n a.d else if a.k = 2 then truL a.t else if a.k = 3 then quoL (lA a.s) else 91 :: bod l
def bod : List V → By
  | [] => [93]
  | x :: l => txt x ++ tlL l
def tlL : List V → By
  | [] => [93]
  | y :: l => 44 :: 32 :: (txt y ++ tlL l)
end
theorem txt_eq (v : V) : txt v = if v.nd.k = 1 then textL v.nd.n v.nd.d else if v.nd.k = 2 then truL v.nd.t else if v.nd.k = 3 then quoL (lA v.nd.s) else 91 :: bod v.list := by
  cases v; rw [txt]; rfl
theorem bod_nil : bod [] = [93] := by simp [bod]
theorem bod_cons (x : V) (l : List V) : bod (x :: l) = txt x ++ tlL l := by simp [bod]
theorem tlL_nil : tlL [] = [93] := by simp [tlL]
theorem tlL_cons (x : V) (l : List V) : tlL (x :: l) = 44 :: 32 :: (txt x ++ tlL l) := by simp [tlL]
/-- Texts with a comma and a space between two. -/
def jnL (l : List V) : By := Lib.join (l.map txt) [44, 32]
theorem jnL_nil : jnL [] = [] := rfl
theorem tlL_join (l : List V) : tlL l = Lib.joinTail [44, 32] (l.map txt) ++ [93] := by
  induction l with
  | nil => simp [tlL_nil, Lib.joinTail]
  | cons x l ih => rw [tlL_cons, ih]; simp [Lib.joinTail]
theorem join_tail (x sep : By) (r : List By) : Lib.join (x :: r) sep = x ++ Lib.joinTail sep r := by
  induction r generalizing x with
  | nil => simp [Lib.join, Lib.joinTail, List.intercalate]
  | cons y r ih =>
    have := ih y
    simp only [Lib.join, List.intercalate, Lib.joinTail, List.map_cons, List.flatten_cons] at this ⊢
    simp [List.intersperse, this]
theorem bod_join (l : List V) : bod l = jnL l ++ [93] := by
  cases l with
  | nil => rw [bod_nil]; rfl
  | cons x l => rw [bod_cons, tlL_join, jnL, List.map_cons, join_tail, List.append_assoc]
theorem joinTail_app (sep : By) (r s : List By) : Lib.joinTail sep (r ++ s) = Lib.joinTail sep r ++ Lib.joinTail sep s := by simp [Lib.joinTail]
theorem jnL_snoc (l : List V) (x : V) : jnL (l ++ [x]) = if l = [] then txt x else jnL l ++ 44 :: 32 :: txt x := by
  cases l with
  | nil => simp [jnL, join_tail, Lib.joinTail]
  | cons y l =>
    rw [if_neg (by simp)]
    simp only [jnL, List.map_append, List.map_cons, List.map_nil, List.cons_append, join_tail, joinTail_app]
    simp [Lib.joinTail]
theorem escL_app (a b : By) : escL (a ++ b) = escL a ++ escL b := by
  induction a with
  | nil => rfl
  | cons c r ih =>
    simp only [List.cons_append, escL]
    split <;> simp [ih]
theorem escL_one (c : UInt8) : escL [c] = if c = 34 ∨ c = 92 then [92, c] else [c] := by simp [escL]
theorem escL_snoc (a : By) (c : UInt8) : escL (a ++ [c]) = escL a ++ if c = 34 ∨ c = 92 then [92, c] else [c] := by rw [escL_app, escL_one]
theorem escL_len (a : By) : (escL a).length ≤ 2 * a.length := by
  induction a with
  | nil => simp [escL]
  | cons c r ih =>
    simp only [escL]
    split <;> simp only [List.length_cons] <;> omega

/-! ### How long a text is -/
theorem quoL_len (s : By) : (quoL s).length ≤ 2 * s.length + 2 := by
  have := escL_len s
  simp only [quoL, List.length_cons, List.length_append, List.length_nil]; omega
theorem truL_len (b : Bool) : (truL b).length ≤ 5 := by cases b <;> simp [truL]
end Go.Proofs.YtakjgjhjndiggaaGreatDoor
