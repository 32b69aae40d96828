/-
  What the package's written and Text hand back.
-/
import Derived.Test.YtjjjopopalcokaaDoorWordEnv
import Derived.Test.YtjjjopopalcokaaDoorWordPrE
import Derived.Lib.FrozenHead2
namespace Go.Proofs.YtjjjopopalcokaaDoor
open Go.RowKit
open WM
set_option linter.unusedVariables false
set_option linter.unusedSimpArgs false

/-- A builder under way. -/
def Bon (b : Nat) (acc : Bs) (w : World) : Prop := Lib.IsBuilderF 59 5 b b (Lib.byteCells acc) w
theorem Bon.of {b : Nat} {acc : Bs} {w : World} (h : Bld b b (Lib.byteCells acc) w) : Bon b acc w := .inr h
theorem Bon.fresh (w : World) : Bon w.heap.size [] (w.alloc (.cells #[.pointer none, .slice none 0 0] 59)) := Lib.IsBuilderF.of (Lib.fresh_isBuilder 59 5 w)
theorem ownsF_later {w w1 : World} {base n size : Nat} {e : TypeId} {v : Value} {xs : List Value} (h : w.ownsRowF base e size v n xs) (hb : Below w.heap.size w w1) : w1.ownsRowF base e size v n xs := by
  refine ⟨h.1, ?_⟩
  rcases h.2 with h1 | ⟨g, cap, cur, fz, h1, h2, h3, h4⟩
  · exact .inl h1
  · exact .inr ⟨g, cap, cur, fz, h1, h2, (hb.block g (lt_of_block h3)).trans h3, h4⟩
theorem Bon.later {b : Nat} {acc : Bs} {w w1 : World} (h : Bon b acc w) (hb : Below w.heap.size w w1) : Bon b acc w1 := by
  rcases h with ⟨h0, v, h1, h2, h3⟩ | ⟨h0, v, h1, h2, h3⟩
  · exact .inl ⟨h0, v, (hb.block b (lt_of_block h1)).trans h1, ownsF_later h2 hb, h3⟩
  · exact .inr ⟨h0, v, (hb.block b (lt_of_block h1)).trans h1, ownsF_later h2 hb, h3⟩
theorem Bon.lt {b : Nat} {acc : Bs} {w : World} (h : Bon b acc w) : b < w.heap.size := by
  rcases h with ⟨h0, v, h1, _⟩ | ⟨h0, v, h1, _⟩ <;> exact lt_of_block h1
theorem wbyte (b : Nat) (acc : Bs) (c : UInt8) (w : World) (h : Bon b acc w) (hl : acc.length ≤ 1000000) :
    Calls Tryd.prog 31 #[.pointer (some ⟨b, 0, none⟩), .int .u8 c.toNat] w fun e w' => e = .returned .nilIface ∧ Bon b (acc ++ [c]) w' ∧ Below b w w' :=
  (byte_any b b (Lib.byteCells acc) c.toNat w h (by rw [Lib.byteCells_length]; exact hl) (Nat.le_of_lt h.lt)).mono fun e w' ⟨he, h1, h2⟩ => ⟨he, Bon.of (by rw [Lib.byteCells_append]; exact h1), h2.1⟩
theorem wstr (b : Nat) (acc s : Bs) (w : World) (h : Bon b acc w) (hl : acc.length + s.length ≤ 1000000) :
    Calls Tryd.prog 32 #[.pointer (some ⟨b, 0, none⟩), .string (bA s)] w fun e w' => (∃ x, e = .returned x) ∧ Bon b (acc ++ s) w' ∧ Below b w w' := by
  have hs : (bA s).size = s.length := by rw [← lA_len, lA_bA]
  refine (wstr_any b b (Lib.byteCells acc) (bA s) w h (by rw [Lib.byteCells_length, hs]; omega) (Nat.le_of_lt h.lt)).mono fun e w' ⟨he, h1, h2⟩ => ⟨⟨_, he⟩, Bon.of ?_, h2⟩
  rw [Lib.byteCells_append]
  exact h1
theorem wlen (b : Nat) (acc : Bs) (w : World) (h : Bon b acc w) :
    Calls Tryd.prog 34 #[.pointer (some ⟨b, 0, none⟩)] w fun e w' => e = .returned (.int .i64 acc.length) ∧ w' = w :=
  (Tryd.Builder_Len_f b b (Lib.byteCells acc) w h).mono fun e w' ⟨he, h1⟩ => ⟨by rw [he, Lib.byteCells_length], h1⟩
theorem wstring (b : Nat) (acc : Bs) (w : World) (h : Bon b acc w) :
    Calls Tryd.prog 35 #[.pointer (some ⟨b, 0, none⟩)] w fun e w' => e = .returned (.string (bA acc)) ∧ Below b w w' :=
  (Tryd.Builder_String_any_f b b acc w h (Nat.le_of_lt h.lt)).mono fun e w' ⟨he, _, h2⟩ => ⟨he, h2⟩
/-- Numerals as the cells of a row of strings. -/
def strC (l : List Int) : List Value := l.map fun x => .string (bA (Lib.itoa x))
theorem strC_snoc {l : List Int} {k : Nat} (h : k < l.length) : strC (l.take (k + 1)) = strC (l.take k) ++ [.string (bA (Lib.itoa l[k]))] := by
  unfold strC; rw [List.take_succ_eq_append_getElem h, List.map_append]; rfl
theorem str_info : (Tryd.prog.info? 9).map (fun i => (i.zero, i.size, i.bytes)) = some (some (.string ⟨#[]⟩), 1, 16) := by kernel_rfl
theorem join_lib {base : Nat} {w : World} {x : Int} {l : List Int} {v : Value} (h : w.ownsRow base 9 1 v (x :: l).length (strC (x :: l))) (hl : l.length ≤ 10) (hr : ∀ y ∈ x :: l, -1000000000 ≤ y ∧ y ≤ 1000000000) :
    Calls Tryd.prog 52 #[v, .string ⟨#[44]⟩] w fun e w' => e = .returned (.string (bA (Lib.itoa x ++ argsT l))) ∧ Below w.heap.size w w' := by
  rcases h.2 with ⟨rfl, h0⟩ | ⟨g, cap, cur, rfl, hb, hg, hn, hm, hs, ht⟩
  · simp at h0
  · have hc : ∀ (j : Nat) (y : ByteArray), ((x :: l).map fun x => bA (Lib.itoa x))[j]? = some y → w.cell? ⟨g, 0 + j, none⟩ = some (.string y) := by
      intro j y hy
      have e : (strC (x :: l))[j]? = some (.string y) := by
        unfold strC
        rw [List.getElem?_map] at hy ⊢
        cases hl : (x :: l)[j]? with
        | none => rw [hl] at hy; simp at hy
        | some z => rw [hl] at hy; simp only [Option.map_some, Option.some.injEq] at hy ⊢; rw [hy]
      rw [← ht, List.getElem?_take] at e
      split at e
      · simpa [World.cell?, hg] using e
      · simp at e
    have e1 : ((x :: l).map fun x => bA (Lib.itoa x)).map (·.data.toList) = (x :: l).map Lib.itoa := by
      rw [List.map_map]; rfl
    have e2 : Lib.join (((x :: l).map fun x => bA (Lib.itoa x)).map (·.data.toList)) (ByteArray.mk #[44]).data.toList = Lib.itoa x ++ argsT l := by
      rw [e1]; exact join_args x l
    have hlen : (Lib.itoa x ++ argsT l).length ≤ 1000 := by
      have := itoa_len x (hr x (by simp))
      have := argsT_len l fun y hy => hr y (by simp [hy])
      rw [List.length_append]; omega
    have K := Tryd.strings_Join g 0 cap ((x :: l).map fun x => bA (Lib.itoa x)) ⟨#[44]⟩ w hc (lt_of_block hg) (by rw [List.length_map, List.length_cons]; omega) (by rw [List.length_map]; exact hn) (by rw [e2]; omega)
    rw [e2, List.length_map] at K
    exact K.mono fun e w' h => ⟨h.1, h.2⟩
/-- Where written stands. -/
structure WrAt (w : World) (a : List Int) (k : Nat) (v : Value) (wr : World) : Prop where
  hi : k ≤ a.length
  below : Below w.heap.size w wr
  own : wr.ownsRow w.heap.size 9 1 v k (strC (a.take k))
theorem own_later {w w1 : World} {base n size : Nat} {e : TypeId} {v : Value} {xs : List Value} (h : w.ownsRow base e size v n xs) (hb : Below w.heap.size w w1) : w1.ownsRow base e size v n xs := by
  refine ⟨h.1, ?_⟩
  rcases h.2 with h1 | ⟨g, cap, cur, h1, h2, h3, h4⟩
  · exact .inl h1
  · exact .inr ⟨g, cap, cur, h1, h2, (hb.block g (lt_of_block h3)).trans h3, h4⟩
set_option maxRecDepth 100000 in
set_option maxHeartbeats 1600000 in
theorem written_any (x : Int) (l : List Int) (v : Value) (hl : l.length ≤ 10) (hr : ∀ y ∈ x :: l, -1000000000 ≤ y ∧ y ≤ 1000000000) (w : World) (hv : Ints w v (x :: l)) (he : Env w) :
    Calls Tryd.prog 33 #[v] w fun e w' => e = .returned (.string (bA (Lib.itoa x ++ argsT l))) ∧ Below w.heap.size w w' := by
  obtain ⟨p, cap, rfl⟩ := hv.slice
  have KJ := Lib.hid (fun base w v h => join_lib (base := base) (w := w) (v := v) h hl hr)
  have HV := Lib.hid hv
  have HE := Lib.hid he
  have HR := Lib.hid hr
  obtain ⟨i0, hi, hz0, hz1, hz2⟩ := info_parts str_info
  have HM : Hid (maxLen = 9223372036854775807) := Lib.hid rfl
  obtain ⟨a, ha⟩ : ∃ a, x :: l = a := ⟨_, rfl⟩
  have hal : a.length ≤ 11 := by rw [← ha]; simp; omega
  rw [ha] at KJ HV HR ⊢
  clear hv he hr ha
  go_enter Tryd.func33, Tryd.ntmps33
  go_wp2_with fail
  go_loopw [3, 8] (fun v i wr => ∃ k : Nat, i = .int .i64 k ∧ WrAt w a k v wr) (fun _ i _ => a.length - (intOf i).toNat)
  case atStart => exact ⟨0, rfl, Nat.zero_le _, Below.refl _ _, World.ownsRow_nil _ _ _ _⟩
  case round =>
    obtain ⟨k, rfl, hS⟩ := hrel
    have HS := Lib.hid hS
    have n1 := hS.hi
    have hsz := hS.below.size
    clear hS
    by_cases hlt : k < a.length
    · obtain ⟨b, off, cap', hp, e1, lb⟩ := (HV.out.later HS.out.below).at hlt
      obtain rfl : p = some ⟨b, off, none⟩ := by cases hp; rfl
      have k1 : (k : Int) < (a.length : Int) := by omega
      have hrk := HR.out a[k] (List.getElem_mem hlt)
      have KI := Lib.hid (itoa_lib a[k] (by omega) (by omega) wr (HE.out.later HS.out.below))
      have HX := Lib.hid (strC_snoc hlt)
      generalize a[k] = y at e1 KI HX hrk
      clear hp
      go_wp2_with fail
      refine KI.out.mono ?_
      rintro e w1 ⟨rfl, hb⟩
      have P5 := Lib.hid ((own_later HS.out.own hb).alloc (.cells #[.string (bA (Lib.itoa y))] 9))
      have B1 := Lib.hid (HS.out.below.trans (hb.mono hsz))
      have z1 := B1.out.size
      clear hb
      generalize bA (Lib.itoa y) = ys at P5 HX
      go_wp2_with (at_builtin; refine wpList_append_own _ rfl _ _ 83 rfl w.heap.size 9 i0 (.string ⟨#[]⟩) 1 16 Tryd.underlying83 hi hz0 hz1 hz2 rfl (by decide) u3 k (strC (a.take k)) rfl P5.out ⟨w1.heap.size, 0, none⟩ 1 1 [.string ys] rfl rfl (cell_one_new _ _ _) (by simp [Value.oneCell']) (by rw [HM.out]; omega) (by omega) (by simp; omega) ?_; intro v2 w3 ho2 hg2 hn2)
      have T1 : Hid (WrAt w a (k + 1) v2 w3) := Lib.hid ⟨hlt, (B1.out.alloc z1 _).grown hg2 (by simp; omega) (fun j e => (owns_lt P5.out j e).1), by rw [HX.out]; exact ho2⟩
      clear ho2 hg2 hn2
      go_wp2_with fail
      go_roundw
      case rel => exact ⟨k + 1, by go_num, T1.out⟩
      case measure => simp [intOf]; omega
    · have hk : k = a.length := by omega
      have KJ2 := Lib.hid (KJ.out w.heap.size wr u3 (by have := HS.out.own; rw [hk, List.take_length] at this; exact this))
      have k1 : ¬ (k : Int) < (a.length : Int) := by omega
      clear hk
      go_wp2_with fail
      refine KJ2.out.mono ?_
      rintro e w2 ⟨rfl, hb⟩
      have B2 := Lib.hid (HS.out.below.trans (hb.mono hsz))
      clear hb
      go_wp2_with fail
      go_ret
      exact ⟨rfl, B2.out⟩
end Go.Proofs.YtjjjopopalcokaaDoor
