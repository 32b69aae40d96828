/-
  strings.IndexAny of any text and the two signs.
-/
import Derived.Test.YtakjgjhjndiggaaGreatDoorValRdOneVal
import Derived.Deep.QuietTactic
import Derived.BigQuiet
import Derived.Laws.Runes
import Derived.WalkMore
namespace Go.Proofs.YtakjgjhjndiggaaGreatDoor
open Go.RowKit Go.Shelf
open VM
set_option linter.unusedVariables false
set_option linter.unusedSimpArgs false

theorem validrune_any (r : Int) (w : World) : Calls Tryz.prog 122 #[.int .i32 r] w fun e w' => e = .returned (.bool (Utf8.valid r)) ∧ w' = w := by
  rw [validRune_eq]
  have hc : (0 ≤ r ∧ r < 55296) ∨ (¬ (0 ≤ r ∧ r < 55296) ∧ (57343 < r ∧ r ≤ 1114111)) ∨ (¬ (0 ≤ r ∧ r < 55296) ∧ ¬ (57343 < r ∧ r ≤ 1114111)) := by
    by_cases h1 : (0 ≤ r ∧ r < 55296)
    · exact .inl h1
    · by_cases h2 : (57343 < r ∧ r ≤ 1114111)
      · exact .inr (.inl ⟨h1, h2⟩)
      · exact .inr (.inr ⟨h1, h2⟩)
  have HV : Hid (validRune r = if (0 ≤ r ∧ r < 55296) ∨ (57343 < r ∧ r ≤ 1114111) then true else false) := Lib.hid (by unfold validRune; by_cases h : (0 ≤ r ∧ r < 55296) ∨ (57343 < r ∧ r ≤ 1114111) <;> simp [h])
  rcases hc with ⟨h1, h2⟩ | ⟨h, h3, h4⟩ | ⟨h, h'⟩
  · have e : Hid (validRune r = true) := Lib.hid (by rw [HV.out, if_pos (.inl ⟨h1, h2⟩)])
    clear HV
    go_enter Tryz.func122, Tryz.ntmps122
    go_wp2_with fail
    go_ret
    exact ⟨ret_bool e.out.symm, rfl⟩
  · have e : Hid (validRune r = true) := Lib.hid (by rw [HV.out, if_pos (.inr ⟨h3, h4⟩)])
    have h5 : (0 ≤ r ∧ ¬ r < 55296) := ⟨by omega, by omega⟩
    obtain ⟨h5, h6⟩ := h5
    clear HV h
    go_enter Tryz.func122, Tryz.ntmps122
    go_wp2_with fail
    go_ret
    exact ⟨ret_bool e.out.symm, rfl⟩
  · have e : Hid (validRune r = false) := Lib.hid (by rw [HV.out, if_neg (by rintro (x | x); exact h x; exact h' x)])
    have hx : (¬ 0 ≤ r ∧ ¬ 57343 < r) ∨ (0 ≤ r ∧ ¬ r < 55296 ∧ ((¬ 57343 < r) ∨ (57343 < r ∧ ¬ r ≤ 1114111))) := by omega
    clear HV h h'
    rcases hx with ⟨h1, h2⟩ | ⟨h1, h2, h3 | ⟨h3, h4⟩⟩
    all_goals
      go_enter Tryz.func122, Tryz.ntmps122
      go_wp2_with fail
      go_ret
      exact ⟨ret_bool e.out.symm, rfl⟩

theorem quiet_add_same {P : Program} {f : FuncId} {args : Array Value} {w : World} {a n : Nat} {v : Value}
    (h : Calls P f args (w.drewN (a + n)) fun e w' => e = .returned v ∧ w' = w.drewN (a + n)) :
    Calls P f args (w.drewN (a + n)) fun e w'' => e = .returned v ∧ ∃ m, w'' = w.drewN (a + m) :=
  h.mono fun _ _ ⟨he, hm⟩ => ⟨he, n, hm⟩
theorem below_drewN {B : Nat} {w w1 : World} (h : Below B w w1) (n : Nat) : Below B w (w1.drewN n) := h.trans ⟨rfl, rfl, rfl, Nat.le_refl _, fun _ _ => rfl⟩
theorem dec_pos (s : ByteArray) (i : Nat) : 1 ≤ (Utf8.decode s i).2 := by
  simp only [Utf8.decode]
  repeat' split
  all_goals simp
theorem indexAny_bnd (c : By) : ∀ l : By, -1 ≤ Lib.indexAny l c ∧ Lib.indexAny l c ≤ l.length
  | [] => by simp [Lib.indexAny]
  | b :: l => by
    have := indexAny_bnd c l
    simp only [Lib.indexAny, List.length_cons]
    repeat' split
    all_goals omega
def two : ByteArray := ⟨#[44, 93]⟩
/-- What a rune's place among the two signs may be. -/
def IrEnd (w : World) (e : Ending) (w' : World) : Prop := (∃ i : Int, e = .returned (.int .i64 i) ∧ -1 ≤ i ∧ i ≤ 2) ∧ Below w.heap.size w w'
set_option maxHeartbeats 2000000 in
set_option maxRecDepth 1000000 in
theorem idxrune_err (w : World) : Calls Tryz.prog 103 #[.string ⟨#[44, 93]⟩, .int .i32 65533] w (IrEnd w) := by
  go_enter Tryz.func103, Tryz.ntmps103
  go_wp2_with fail
  go_loopg [5, 6] 2 (fun g _ _ wx => ∃ i : Nat, i + g = 2 ∧ wx = w.iter ⟨#[44, 93]⟩ i)
  case atStart => exact ⟨0, by omega, rfl⟩
  case round =>
    obtain ⟨i, hig, rfl⟩ := hrel
    cases gk with
    | zero =>
      obtain rfl : i = 2 := by omega
      have hnx := run_next_end (P := Tryz.prog) w ⟨#[44, 93]⟩ 2
      go_wp2_with fail
      go_ret
      exact ⟨⟨-1, rfl, by omega, by omega⟩, (Below.refl _ _).alloc (Nat.le_refl _) _⟩
    | succ g =>
      have hi : i = 0 ∨ i = 1 := by omega
      rcases hi with rfl | rfl
      · have hnx := fun ty => run_next_ascii (P := Tryz.prog) w ⟨#[44, 93]⟩ 0 ty (by decide) (by decide)
        go_wp2_with fail
        go_roundg g
        case measure => omega
        case rel => exact ⟨1, by omega, rfl⟩
      · have hnx := fun ty => run_next_ascii (P := Tryz.prog) w ⟨#[44, 93]⟩ 1 ty (by decide) (by decide)
        go_wp2_with fail
        go_roundg g
        case measure => omega
        case rel => exact ⟨2, by omega, rfl⟩
set_option maxHeartbeats 2000000 in
set_option maxRecDepth 1000000 in
theorem idxrune_bad (r : Int) (h0 : 128 ≤ r) (he : r ≠ 65533) (hv : Utf8.valid r = false) (w : World) : Calls Tryz.prog 103 #[.string ⟨#[44, 93]⟩, .int .i32 r] w (IrEnd w) := by
  have h1 : ¬ r < 128 := by omega
  have h2 : (r == 65533) = false := beq_eq_false_iff_ne.2 he
  have h3 : (0 : Int) ≤ r := by omega
  have HV := Lib.hid (fun w => validrune_any r w)
  rw [hv] at HV
  clear hv he h0
  go_enter Tryz.func103, Tryz.ntmps103
  go_wp2_with fail
  refine (HV.out _).mono ?_
  rintro e w1 ⟨rfl, rfl⟩
  go_wp2_with fail
  go_ret
  exact ⟨⟨-1, rfl, by omega, by omega⟩, Below.refl _ _⟩
set_option maxHeartbeats 2000000 in
set_option maxRecDepth 1000000 in
theorem idxrune_good (r : Int) (h0 : 128 ≤ r) (he : r ≠ 65533) (hv : Utf8.valid r = true) (w : World) : Calls Tryz.prog 103 #[.string ⟨#[44, 93]⟩, .int .i32 r] w (IrEnd w) := by
  have h1 : ¬ r < 128 := by omega
  have h2 : (r == 65533) = false := beq_eq_false_iff_ne.2 he
  have h3 : (0 : Int) ≤ r := by omega
  have HV := Lib.hid (fun w => validrune_any r w)
  rw [hv] at HV
  obtain ⟨t1, t2, t3⟩ := encode_facts r hv h0
  have t4 : (Utf8.encode r).size - 1 < (Utf8.encode r).size := by omega
  have T3 := t3 t4
  have KI : Hid (∀ (c : Int) (w : World), Calls Tryz.prog 121 #[.string ByteArray.empty, .int .u8 c] w fun e w' => e = .returned (.int .i64 (-1)) ∧ w' = w) := Lib.hid fun c w => Any.strings_IndexByte { Tryz.lays153 with } ByteArray.empty c w
  have hc : (Utf8.encode r).size = 2 ∨ ((wrap64 (((Utf8.encode r).size : Int) - 1) = ((Utf8.encode r).size : Int) - 1) ∧ ¬ ((Utf8.encode r).size : Int) - 1 < 2) := by
    have : wrap64 (((Utf8.encode r).size : Int) - 1) = ((Utf8.encode r).size : Int) - 1 := by unfold wrap64; omega
    omega
  clear hv he h0 t3
  rcases hc with hc | ⟨hc, hlt⟩
  · have H3 : Hid (∃ c : UInt8, 128 ≤ c.toNat ∧ ∀ h : 1 < (Utf8.encode r).size, (Utf8.encode r)[1] = c) := Lib.hid ⟨(Utf8.encode r)[1], by have : (Utf8.encode r)[(Utf8.encode r).size - 1]'t4 = (Utf8.encode r)[1] := getElem_congr_idx (by omega); rw [← this]; exact T3, fun _ => rfl⟩
    clear T3 t1 t2 t4
    go_enter Tryz.func103, Tryz.ntmps103
    go_wp2_with fail
    refine (HV.out _).mono ?_
    rintro e w1 ⟨rfl, rfl⟩
    go_wp2_with fail
    go_step3
    go_wp2_with fail
    generalize Utf8.encode r = T at *
    obtain ⟨c, hc1, hc2⟩ := H3.out
    have hx : 1 < T.size := by omega
    have hc3 := hc2 hx
    have hw2 : IntKind.i64.wrap 2 = 2 := by rw [IntKind.wrap_i64]; decide
    have hne : (((((⟨#[44, 93]⟩ : ByteArray)[1]'(by decide)).toNat : Nat) : Int) != ((c.toNat : Nat) : Int)) = true := by
      have : ((⟨#[44, 93]⟩ : ByteArray)[1]'(by decide)).toNat = 93 := rfl
      rw [this]; simp [bne]; omega
    go_loopw [9, 10] (fun iv fv wr => iv = .int .i64 1 ∧ fv = .int .i64 0 ∧ wr = w1) (fun _ _ _ => 0)
    case atStart => exact ⟨rfl, rfl, rfl⟩
    case round =>
      obtain ⟨rfl, rfl, rfl⟩ := hrel
      go_wp2_with fail
      go_step3
      go_wp2_with fail
      go_quiet (fail)
      go_wp2_with fail
      go_quiet ((go_at_call 121; exact quiet_add_same (KI.out _ _)))
      go_wp2_with fail
      rw [Exit.noGoto_ret]
      go_wp2_with fail
      rw [Exit.noGoto_ret]
      go_ret
      exact ⟨⟨-1, rfl, by omega, by omega⟩, below_drewN (Below.refl _ _) _⟩
  · clear T3 t1 t2 t4
    go_enter Tryz.func103, Tryz.ntmps103
    go_wp2_with fail
    refine (HV.out _).mono ?_
    rintro e w1 ⟨rfl, rfl⟩
    go_wp2_with fail
    go_step3
    go_wp2_with fail
    go_loopw [9, 10] (fun iv fv wr => iv = .int .i64 (((Utf8.encode r).size : Int) - 1) ∧ fv = .int .i64 0 ∧ wr = w1) (fun _ _ _ => 0)
    case atStart => exact ⟨by simp only [hc], rfl, rfl⟩
    case round =>
      obtain ⟨rfl, rfl, rfl⟩ := hrel
      go_wp2_with fail
      rw [Exit.noGoto_ret]
      go_ret
      exact ⟨⟨-1, rfl, by omega, by omega⟩, Below.refl _ _⟩
theorem idxrune_any (r : Int) (h0 : 0 ≤ r) (w : World) : Calls Tryz.prog 103 #[.string ⟨#[44, 93]⟩, .int .i32 r] w (IrEnd w) := by
  by_cases h1 : r < 128
  · refine (Any.strings_IndexRune_ascii { Tryz.lays153 with } ⟨#[44, 93]⟩ r w h0 h1).mono ?_
    rintro e w1 ⟨rfl, rfl⟩
    refine ⟨⟨_, rfl, ?_, ?_⟩, Below.refl _ _⟩
    · simp only [Lib.indexByte]; repeat' split
      all_goals omega
    · simp only [Lib.indexByte]; repeat' split
      all_goals omega
  · by_cases h2 : r = 65533
    · subst h2; exact idxrune_err w
    · cases hv : Utf8.valid r
      · exact idxrune_bad r (by omega) h2 hv w
      · exact idxrune_good r (by omega) h2 hv w
set_option maxHeartbeats 2000000 in
set_option maxRecDepth 1000000 in
theorem idx_short (s : ByteArray) (hs : s.size ≤ 8) (w : World) : Calls Tryz.prog 76 #[.string s, .string ⟨#[44, 93]⟩] w fun e w' => (∃ i : Int, e = .returned (.int .i64 i) ∧ -1 ≤ i ∧ i ≤ s.size) ∧ Below w.heap.size w w' := by
  have KS := Lib.hid (fun w => Any.strings_shouldUseASCIISet { Tryz.lays153 with } (s.size : Int) w)
  rw [show decide ((8 : Int) < (s.size : Int)) = false from decide_eq_false (by omega)] at KS
  have KI := Lib.hid idxrune_any
  go_enter Tryz.func76, Tryz.ntmps76
  go_wp2_with fail
  refine (KS.out _).mono ?_
  rintro e w1 ⟨rfl, rfl⟩
  go_wp2_with fail
  go_loopw [9, 10] (fun _ _ wr => ∃ pos : Nat, wr.heap[w1.heap.size]? = some (.stringIter s pos) ∧ Below w1.heap.size w1 wr) (fun _ _ wr => s.size + 10 - wr.iterPos w1.heap.size)
  case atStart => exact ⟨0, iter_new w1 s, (Below.refl _ _).alloc (Nat.le_refl _) _⟩
  case round =>
    obtain ⟨pos, hit, hb⟩ := hrel
    have HI := Lib.hid hit
    have HB := Lib.hid hb
    clear hb
    by_cases hp : pos < s.size
    · have hnx : ∀ ty, (Instr.next (.pointer (some ⟨w1.heap.size, 0, none⟩)) true ty).run Tryz.prog wr = _ := fun ty => Lib.run_next_any_at wr w1.heap.size s pos ty hit hp
      obtain ⟨W2, hW2⟩ : ∃ W2, W2 = wr.iterAt w1.heap.size s (pos + (Utf8.decode s pos).2) := ⟨_, rfl⟩
      have hit2 : W2.heap[w1.heap.size]? = some (.stringIter s (pos + (Utf8.decode s pos).2)) := by rw [hW2]; exact Lib.iterAt_heap wr w1.heap.size s pos _ hit
      have hbw2 : Below w1.heap.size wr W2 := by rw [hW2]; exact Lib.below_iterAt (Below.refl _ _) (Nat.le_refl _) s _
      have HI2 := Lib.hid hit2
      have HB2 := Lib.hid (HB.out.trans hbw2)
      have HP : Hid (1 ≤ (Utf8.decode s pos).2) := Lib.hid (dec_pos s pos)
      rw [← hW2] at hnx
      have KIa := Lib.hid (KI.out ((Utf8.decode s pos).1 : Int) (by omega) W2)
      clear hit hit2 hbw2 hW2
      go_wp2_with fail
      refine KIa.out.mono ?_
      rintro e w3 ⟨⟨i, rfl, h1, h2⟩, hb3⟩
      have HB3 := Lib.hid (HB2.out.trans (hb3.mono HB2.out.size))
      have HI3 := Lib.hid ((hb3.block _ (lt_of_block HI2.out)).trans HI2.out)
      clear hb3
      by_cases hi : 0 ≤ i
      · go_wp2_with fail
        go_ret
        exact ⟨⟨(pos : Int), rfl, by omega, by omega⟩, HB3.out⟩
      · go_wp2_with fail
        go_roundw
        case rel => exact ⟨_, HI3.out, HB3.out⟩
        case measure => simp only [World.iterPos, HI3.out, HI.out]; have := HP.out; omega
    · have hnx : ∀ ty, (Instr.next (.pointer (some ⟨w1.heap.size, 0, none⟩)) true ty).run Tryz.prog wr = _ := fun ty => Lib.run_next_end_at wr w1.heap.size s pos ty hit hp
      clear hit
      go_wp2_with fail
      go_ret
      exact ⟨⟨-1, rfl, by omega, by omega⟩, HB.out⟩
theorem idx_ok : IdxOk := by
  intro s w hs
  have hz : (Tryz.prog.info? 138).map (fun i => (i.zero, i.size)) = some (some (.agg (Array.replicate 256 (.bool false))), 256) := by kernel_rfl
  have hac : ∀ (j : Nat) b, (⟨#[44, 93]⟩ : ByteArray).data.toList[j]? = some b → b.toNat < 128 := by
    intro j b hj
    have : b ∈ ([44, 93] : By) := List.mem_of_getElem? hj
    simp at this
    rcases this with rfl | rfl <;> decide
  have hb := indexAny_bnd [44, 93] (lA s)
  rw [lA_len] at hb
  by_cases h : 8 < s.size
  · refine (Any.strings_IndexAny_long Tryz.lays153 (zero_of_info hz).1 (zero_of_info hz).2 s ⟨#[44, 93]⟩ w (by decide) h (by omega) (by decide) hac).mono ?_
    rintro e w1 ⟨rfl, rfl⟩
    exact ⟨⟨_, rfl, hb.1, hb.2, fun _ => rfl⟩, ((Below.refl _ _).alloc (Nat.le_refl _) _).alloc (by simp) _⟩
  · by_cases ha : asc (lA s)
    · refine (Any.strings_IndexAny_short Tryz.lays153 s ⟨#[44, 93]⟩ w (by decide) (by omega) (fun j b hj => ha b (List.mem_of_getElem? hj))).mono ?_
      rintro e w1 ⟨rfl, pos, rfl⟩
      exact ⟨⟨_, rfl, hb.1, hb.2, fun _ => rfl⟩, (Below.refl _ _).alloc (Nat.le_refl _) _⟩
    · refine (idx_short s (by omega) w).mono ?_
      rintro e w1 ⟨⟨i, rfl, h1, h2⟩, hb⟩
      exact ⟨⟨i, rfl, h1, h2, fun x => absurd x ha⟩, hb⟩
end Go.Proofs.YtakjgjhjndiggaaGreatDoor
