/-
  What the package's Join hands back.
-/
import Derived.Test.YtjjjopopalcokaaDoorWordPrI
namespace Go.Proofs.YtjjjopopalcokaaDoor
open Go.RowKit
open WM
set_option linter.unusedVariables false
set_option linter.unusedSimpArgs false

theorem j_app : ∀ (a b : List Md) (vs us : List Value), a.length = vs.length → modC (a ++ b) (vs ++ us) = modC a vs ++ modC b us
  | [], b, [], us, _ => rfl
  | m :: a, b, v :: vs, us, h => by
    have := j_app a b vs us (by simpa using h)
    simp [modC, this]
  | [], _, _ :: _, _, h => by simp at h
  | _ :: _, _, [], _, h => by simp at h
theorem j_mem : ∀ (l : List Md) (vs : List Value), ∀ u ∈ modC l vs, (∃ x, u = .int .u8 x) ∨ u ∈ vs
  | [], _, u, h => by simp [modC] at h
  | _ :: _, [], u, h => by simp [modC] at h
  | m :: l, v :: vs, u, h => by
    simp only [modC, List.mem_cons] at h
    rcases h with h | h | h
    · exact .inl ⟨_, h⟩
    · exact .inr (by rw [h]; simp)
    · rcases j_mem l vs u h with h | h
      · exact .inl h
      · exact .inr (List.mem_cons_of_mem _ h)
theorem j_one {w : World} {base : Nat} {v : Value} {l : List Md} {vs : List Value} (h : ModFr w base v l vs) : ∀ u ∈ modC l vs, u.oneCell' = true := by
  intro u hu
  rcases j_mem l vs u hu with ⟨x, rfl⟩ | hm
  · rfl
  · obtain ⟨k, hk, rfl⟩ := List.mem_iff_getElem.1 hm
    rcases nilOr_of_owned (h.args k (by rw [← h.len]; exact hk) hk).own with e | ⟨ad, n, c, e⟩
    · rw [e]; rfl
    · rw [e]; rfl
theorem none_or (v : Value) : v.ownBlock = none ∨ v.ownBlock ≠ none := by
  cases hv : v.ownBlock with
  | none => exact .inl rfl
  | some g => exact .inr (by simp)
theorem apart_or {v : Value} {rb : Option Nat} (h : v = .slice none 0 0 ∨ v.ownBlock ≠ rb) : v.ownBlock = none ∨ v.ownBlock ≠ rb := by
  rcases h with e | e
  · left; rw [e]; rfl
  · exact .inr e
theorem argFr_block {w : World} {base : Nat} {rb : Option Nat} {v : Value} {a : List Int} (h : ArgFr w base rb v a) : v = .slice none 0 0 ∨ ∃ q, v.ownBlock = some q ∧ base ≤ q ∧ q < w.heap.size := by
  rcases nilOr_of_owned h.own with e | ⟨ad, n, c, e⟩
  · exact .inl e
  · have := owns_lt h.own ad.block (by rw [e]; rfl)
    exact .inr ⟨ad.block, by rw [e]; rfl, this⟩
theorem modFr_join {X1 X2 X3 : World} {base : Nat} {v1 v2 v3 : Value} {a b : List Md} {vs1 vs2 : List Value}
    (h1 : ModFr X1 base v1 a vs1) (hb : Below X1.heap.size X1 X2) (h2 : ModFr X2 X1.heap.size v2 b vs2) (hbase : base ≤ X1.heap.size)
    (o : X3.ownsRow base 27 2 v3 (a.length + b.length) (modC a vs1 ++ modC b vs2)) (g : X2.grownBy X3 v1.ownBlock) (hv : v3.ownBlock = v1.ownBlock ∨ v3.ownBlock = some X2.heap.size) :
    ModFr X3 base v3 (a ++ b) (vs1 ++ vs2) := by
  have hvl := owns_lt h1.row
  have z := hb.size
  refine ⟨by rw [List.length_append, List.length_append, h1.len, h2.len], by rw [List.length_append, j_app _ _ _ _ h1.len.symm]; exact o, ?_⟩
  intro k hk hk2
  rcases Nat.lt_or_ge k a.length with hl | hl
  · have hl2 : k < vs1.length := by rw [h1.len]; exact hl
    rw [List.getElem_append_left hl, List.getElem_append_left hl2]
    have A := h1.args k hl hl2
    have A2 := A.kept (rb' := v1.ownBlock) (grown_of_below hb none) (none_or _) A.apart
    refine A2.kept g (apart_or A.apart) ?_
    rcases argFr_block A with e | ⟨q, ob, q1, q2⟩
    · exact .inl e
    · right; intro e2
      rcases hv with h | h
      · rcases A.apart with e | e
        · rw [e] at ob; simp [Value.ownBlock] at ob
        · exact e (e2.trans h)
      · rw [ob, h] at e2
        have := Option.some.inj e2; omega
  · have hl2 : vs1.length ≤ k := by rw [h1.len]; exact hl
    have hk3 : k - a.length < b.length := by rw [List.length_append] at hk; omega
    have hk4 : k - vs1.length < vs2.length := by rw [List.length_append] at hk2; omega
    have e1 : (vs1 ++ vs2)[k] = vs2[k - vs1.length] := List.getElem_append_right hl2
    have e2 : (a ++ b)[k] = b[k - a.length] := List.getElem_append_right hl
    have e3 : vs2[k - vs1.length] = vs2[k - a.length]'(by rw [h2.len]; exact hk3) := by congr 1; rw [h1.len]
    rw [e1, e2, e3]
    have A := h2.args (k - a.length) hk3 (by rw [h2.len]; exact hk3)
    have n1 : (vs2[k - a.length]'(by rw [h2.len]; exact hk3)) = .slice none 0 0 ∨ (vs2[k - a.length]'(by rw [h2.len]; exact hk3)).ownBlock ≠ v1.ownBlock := by
      rcases argFr_block A with e | ⟨q, ob, q1, q2⟩
      · exact .inl e
      · right; intro e4
        have := (hvl q (by rw [← e4, ob])).2; omega
    have n3 : (vs2[k - a.length]'(by rw [h2.len]; exact hk3)) = .slice none 0 0 ∨ (vs2[k - a.length]'(by rw [h2.len]; exact hk3)).ownBlock ≠ v3.ownBlock := by
      rcases argFr_block A with e | ⟨q, ob, q1, q2⟩
      · exact .inl e
      · right; intro e4
        rcases hv with h | h
        · have := (hvl q (by rw [← h, ← e4, ob])).2; omega
        · rw [ob, h] at e4
          have := Option.some.inj e4; omega
    have A2 := A.kept (rb' := v3.ownBlock) g (apart_or n1) n3
    exact ⟨owns_mono A2.own hbase, A2.apart⟩
theorem j_cells {w : World} {base : Nat} {ad : Addr} {n c : Nat} {l : List Md} {vs : List Value} (h : ModFr w base (.slice (some ad) n c) l vs) : n = l.length ∧ ∀ j u, (modC l vs)[j]? = some u → w.cell? (ad.add j) = some u := by
  rcases h.row.2 with ⟨hv, _⟩ | ⟨g, cap, cur, hv, hb, hg, hc1, hc2, hsz, htake⟩
  · simp at hv
  · cases hv
    refine ⟨rfl, fun j u hu => ?_⟩
    have hlen := modC_length l vs h.len.symm
    have hj : j < l.length * 2 := by
      have := (List.getElem?_eq_some_iff.1 hu).1; omega
    rw [← htake, List.getElem?_take_of_lt hj, Array.getElem?_toList] at hu
    have e : (⟨g, 0, none⟩ : Addr).add j = ⟨g, j, none⟩ := by
      unfold Addr.add
      rw [Nat.zero_add]
      split
      · rename_i h; rw [h]
      · rfl
    rw [e]
    simp only [World.cell?, hg]
    exact hu
theorem j_append_nil {P : Program} {w : World} {ops : Array Oper} {rest : List Oper} {o : Oper} {a : Act} {Q : Exit → Act → World → Prop} (hg : o.guard = none) (s x : Operand) (t : TypeId) (hop : o.op = Op.call { callee := Callee.builtin Builtin.append, args := #[s, x], argTypes := #[t, t] })
    (base : Nat) (e : TypeId) (i : TypeInfo) (size : Nat) (h1 : P.underlying t = some (.slice e)) (h2 : P.info? e = some i)
    (v : Value) (k : Nat) (xs : List Value) (hs : a.eval s = v) (hown : w.ownsRow base e size v k xs) (hx : a.eval x = .slice none 0 0)
    (hK : wpList P ops Q rest (a.put o.dst v) w) : wpList P ops Q (o :: rest) a w := by
  refine wpList_plain hg fun K hKK => ?_
  have hrun := run_append_owned_none (P := P) (w := w) base t o.type e i size h1 h2 v k xs hown
  unfold Oper.wp
  simp [execOp, hop, resolve, invoke, builtin, hs, hx, hrun, Result.andThen]
  exact hKK _ _ hK
theorem j_slice {w : World} {base : Nat} {v : Value} {l : List Md} {vs : List Value} (h : ModFr w base v l vs) : (v = .slice none 0 0 ∧ l = []) ∨ ∃ ad c, v = .slice (some ad) l.length c := by
  rcases h.row.2 with ⟨hv, h0⟩ | ⟨g, cap, cur, hv, _⟩
  · exact .inl ⟨hv, List.length_eq_zero_iff.1 h0⟩
  · exact .inr ⟨_, _, hv⟩
/-- How Join ends. -/
def PJnEnd (a b : List Md) (w : World) (e : Ending) (w' : World) : Prop :=
  Below w.heap.size w w' ∧ ((chk a ≠ 0 ∧ e = .returned (.tuple #[.slice none 0 0, .int .i64 (chk a)])) ∨ (chk a = 0 ∧ chk b ≠ 0 ∧ e = .returned (.tuple #[.slice none 0 0, .int .i64 (chk b)])) ∨
    (chk a = 0 ∧ chk b = 0 ∧ 2000 < a.length + b.length ∧ e = .returned (.tuple #[.slice none 0 0, .int .i64 4])) ∨ (chk a = 0 ∧ chk b = 0 ∧ ¬ 2000 < a.length + b.length ∧ ∃ v vs, e = .returned (.tuple #[v, .int .i64 0]) ∧ ModFr w' w.heap.size v (a ++ b) vs))
set_option maxRecDepth 100000 in
set_option maxHeartbeats 1600000 in
theorem pjoin_1 (x y : Value) (a b : List Md) (ha : a.length ≤ 1000000) (hb : b.length ≤ 1000000) (haa : ∀ m ∈ a, m.a.length ≤ 1000000) (hba : ∀ m ∈ b, m.a.length ≤ 1000000) (h0 : chk a ≠ 0) (w : World) (hx : Mods w x a) (hy : Mods w y b) :
    Calls Tryd.prog 12 #[x, y] w (PJnEnd a b w) := by
  obtain ⟨p, cap, rfl⟩ := hx.slice
  obtain ⟨p', cap', rfl⟩ := hy.slice
  have HX := Lib.hid hx
  have HY := Lib.hid hy
  have HC := Lib.hid (fun w hv => pcheck_any (.slice p a.length cap) a (by omega) (fun m hm => by have := haa m hm; omega) w hv)
  have HD := Lib.hid (fun w hv => pcheck_any (.slice p' b.length cap') b (by omega) (fun m hm => by have := hba m hm; omega) w hv)
  have i0 : ∀ wx, (Instr.index 53 (.agg #[.slice p a.length cap, .slice p' b.length cap']) (.int .i64 0)).run Tryd.prog wx = .ok (.slice p a.length cap) wx := fun _ => by kernel_rfl
  have i1 : ∀ wx, (Instr.index 53 (.agg #[.slice p a.length cap, .slice p' b.length cap']) (.int .i64 1)).run Tryd.prog wx = .ok (.slice p' b.length cap') wx := fun _ => by kernel_rfl
  have HE : Hid (∀ w', Below w.heap.size w w' → PJnEnd a b w (.returned (.tuple #[.slice none 0 0, .int .i64 (chk a)])) w') := Lib.hid (fun w' hb => ⟨hb, .inl ⟨h0, rfl⟩⟩)
  obtain ⟨c, hc⟩ : ∃ c, chk a = c := ⟨_, rfl⟩
  rw [hc] at HC HE h0
  have h1 : (c != 0) = true := bne_iff_ne.2 h0
  clear hx hy haa hba hc h0
  go_enter Tryd.func12, Tryd.ntmps12
  go_wp2_with fail
  go_loopw [12] (fun i wr => i = .int .i64 0 ∧ wr = w) (fun _ _ => 0)
  case atStart => exact ⟨rfl, rfl⟩
  case round =>
    obtain ⟨rfl, rfl⟩ := hrel
    go_wp2_with fail
    refine (HC.out _ HX.out).mono ?_
    rintro e w1 ⟨rfl, hb⟩
    have B1 := Lib.hid hb
    clear hb
    go_wp2_with fail
    go_ret2
    exact HE.out _ B1.out
set_option maxRecDepth 100000 in
set_option maxHeartbeats 1600000 in
theorem pjoin_2 (x y : Value) (a b : List Md) (ha : a.length ≤ 1000000) (hb : b.length ≤ 1000000) (haa : ∀ m ∈ a, m.a.length ≤ 1000000) (hba : ∀ m ∈ b, m.a.length ≤ 1000000) (h1 : chk a = 0) (h0 : chk b ≠ 0) (w : World) (hx : Mods w x a) (hy : Mods w y b) :
    Calls Tryd.prog 12 #[x, y] w (PJnEnd a b w) := by
  obtain ⟨p, cap, rfl⟩ := hx.slice
  obtain ⟨p', cap', rfl⟩ := hy.slice
  have HX := Lib.hid hx
  have HY := Lib.hid hy
  have HC := Lib.hid (fun w hv => pcheck_any (.slice p a.length cap) a (by omega) (fun m hm => by have := haa m hm; omega) w hv)
  have HD := Lib.hid (fun w hv => pcheck_any (.slice p' b.length cap') b (by omega) (fun m hm => by have := hba m hm; omega) w hv)
  have i0 : ∀ wx, (Instr.index 53 (.agg #[.slice p a.length cap, .slice p' b.length cap']) (.int .i64 0)).run Tryd.prog wx = .ok (.slice p a.length cap) wx := fun _ => by kernel_rfl
  have i1 : ∀ wx, (Instr.index 53 (.agg #[.slice p a.length cap, .slice p' b.length cap']) (.int .i64 1)).run Tryd.prog wx = .ok (.slice p' b.length cap') wx := fun _ => by kernel_rfl
  have HE : Hid (∀ w', Below w.heap.size w w' → PJnEnd a b w (.returned (.tuple #[.slice none 0 0, .int .i64 (chk b)])) w') := Lib.hid (fun w' hb => ⟨hb, .inr (.inl ⟨h1, h0, rfl⟩)⟩)
  obtain ⟨c, hc⟩ : ∃ c, chk b = c := ⟨_, rfl⟩
  rw [h1] at HC
  rw [hc] at HD HE h0
  have h2 : (c != 0) = true := bne_iff_ne.2 h0
  clear hx hy haa hba hc h0 h1
  go_enter Tryd.func12, Tryd.ntmps12
  go_wp2_with fail
  go_loopw [12] (fun i wr => (i = .int .i64 0 ∨ i = .int .i64 1) ∧ Below w.heap.size w wr) (fun i _ => 2 - (intOf i).toNat)
  case atStart => exact ⟨.inl rfl, Below.refl _ _⟩
  case round =>
    obtain ⟨hi, hB⟩ := hrel
    have HB := Lib.hid hB
    clear hB
    rcases hi with rfl | rfl
    · go_wp2_with fail
      refine (HC.out _ (HX.out.later HB.out)).mono ?_
      rintro e w1 ⟨rfl, hb⟩
      have HB1 := Lib.hid (HB.out.trans (hb.mono HB.out.size))
      clear hb
      go_wp2_with fail
      go_roundw
      case rel => exact ⟨.inr rfl, HB1.out⟩
      case measure => simp [intOf]
    · go_wp2_with fail
      refine (HD.out _ (HY.out.later HB.out)).mono ?_
      rintro e w1 ⟨rfl, hb⟩
      have HB1 := Lib.hid (HB.out.trans (hb.mono HB.out.size))
      clear hb
      go_wp2_with fail
      go_ret2
      exact HE.out _ HB1.out
set_option maxRecDepth 100000 in
set_option maxHeartbeats 1600000 in
theorem pjoin_3 (x y : Value) (a b : List Md) (ha : a.length ≤ 1000000) (hb : b.length ≤ 1000000) (haa : ∀ m ∈ a, m.a.length ≤ 1000000) (hba : ∀ m ∈ b, m.a.length ≤ 1000000) (h1 : chk a = 0) (h2 : chk b = 0) (h3 : 2000 < a.length + b.length) (w : World) (hx : Mods w x a) (hy : Mods w y b) :
    Calls Tryd.prog 12 #[x, y] w (PJnEnd a b w) := by
  obtain ⟨p, cap, rfl⟩ := hx.slice
  obtain ⟨p', cap', rfl⟩ := hy.slice
  have HX := Lib.hid hx
  have HY := Lib.hid hy
  have HC := Lib.hid (fun w hv => pcheck_any (.slice p a.length cap) a (by omega) (fun m hm => by have := haa m hm; omega) w hv)
  have HD := Lib.hid (fun w hv => pcheck_any (.slice p' b.length cap') b (by omega) (fun m hm => by have := hba m hm; omega) w hv)
  have i0 : ∀ wx, (Instr.index 53 (.agg #[.slice p a.length cap, .slice p' b.length cap']) (.int .i64 0)).run Tryd.prog wx = .ok (.slice p a.length cap) wx := fun _ => by kernel_rfl
  have i1 : ∀ wx, (Instr.index 53 (.agg #[.slice p a.length cap, .slice p' b.length cap']) (.int .i64 1)).run Tryd.prog wx = .ok (.slice p' b.length cap') wx := fun _ => by kernel_rfl
  have HE : Hid (∀ w', Below w.heap.size w w' → PJnEnd a b w (.returned (.tuple #[.slice none 0 0, .int .i64 4])) w') := Lib.hid (fun w' hb => ⟨hb, .inr (.inr (.inl ⟨h1, h2, h3, rfl⟩))⟩)
  have c1 : (2000 : Int) < (a.length : Int) + (b.length : Int) := by omega
  rw [h1] at HC
  rw [h2] at HD
  clear h1 h2 h3
  clear hx hy haa hba
  go_enter Tryd.func12, Tryd.ntmps12
  go_wp2_with fail
  go_loopw [12] (fun i wr => (i = .int .i64 0 ∨ i = .int .i64 1 ∨ i = .int .i64 2) ∧ Below w.heap.size w wr) (fun i _ => 2 - (intOf i).toNat)
  case atStart => exact ⟨.inl rfl, Below.refl _ _⟩
  case round =>
    obtain ⟨hi, hB⟩ := hrel
    have HB := Lib.hid hB
    clear hB
    rcases hi with rfl | rfl | rfl
    · go_wp2_with fail
      refine (HC.out _ (HX.out.later HB.out)).mono ?_
      rintro e w1 ⟨rfl, hb⟩
      have HB1 := Lib.hid (HB.out.trans (hb.mono HB.out.size))
      clear hb
      go_wp2_with fail
      go_roundw
      case rel => exact ⟨.inr (.inl rfl), HB1.out⟩
      case measure => simp [intOf]
    · go_wp2_with fail
      refine (HD.out _ (HY.out.later HB.out)).mono ?_
      rintro e w1 ⟨rfl, hb⟩
      have HB1 := Lib.hid (HB.out.trans (hb.mono HB.out.size))
      clear hb
      go_wp2_with fail
      go_roundw
      case rel => exact ⟨.inr (.inr rfl), HB1.out⟩
      case measure => simp [intOf]
    · go_wp2_with fail
      go_ret2
      exact HE.out _ HB.out
set_option maxRecDepth 100000 in
set_option maxHeartbeats 1600000 in
theorem pjoin_4 (x y : Value) (a b : List Md) (ha : a.length ≤ 1000000) (hb : b.length ≤ 1000000) (haa : ∀ m ∈ a, m.a.length ≤ 1000000) (hba : ∀ m ∈ b, m.a.length ≤ 1000000) (h1 : chk a = 0) (h2 : chk b = 0) (h3 : ¬ 2000 < a.length + b.length) (w : World) (hx : Mods w x a) (hy : Mods w y b) (nx : NilOr x) (ny : NilOr y) :
    Calls Tryd.prog 12 #[x, y] w (PJnEnd a b w) := by
  obtain ⟨p, cap, rfl⟩ := hx.slice
  obtain ⟨p', cap', rfl⟩ := hy.slice
  have HX := Lib.hid hx
  have HY := Lib.hid hy
  have HC := Lib.hid (fun w hv => pcheck_any (.slice p a.length cap) a (by omega) (fun m hm => by have := haa m hm; omega) w hv)
  have HD := Lib.hid (fun w hv => pcheck_any (.slice p' b.length cap') b (by omega) (fun m hm => by have := hba m hm; omega) w hv)
  have i0 : ∀ wx, (Instr.index 53 (.agg #[.slice p a.length cap, .slice p' b.length cap']) (.int .i64 0)).run Tryd.prog wx = .ok (.slice p a.length cap) wx := fun _ => by kernel_rfl
  have i1 : ∀ wx, (Instr.index 53 (.agg #[.slice p a.length cap, .slice p' b.length cap']) (.int .i64 1)).run Tryd.prog wx = .ok (.slice p' b.length cap') wx := fun _ => by kernel_rfl
  have HT := Lib.hid (fun w hv => ptwin_any (.slice p a.length cap) a (by omega) haa w hv nx)
  have HU := Lib.hid (fun w hv => ptwin_any (.slice p' b.length cap') b (by omega) hba w hv ny)
  have HE : Hid (∀ w' v vs, Below w.heap.size w w' → ModFr w' w.heap.size v (a ++ b) vs → PJnEnd a b w (.returned (.tuple #[v, .int .i64 0])) w') := Lib.hid (fun w' v vs hb hm => ⟨hb, .inr (.inr (.inr ⟨h1, h2, h3, v, vs, rfl, hm⟩))⟩)
  have c1 : ¬ (2000 : Int) < (a.length : Int) + (b.length : Int) := by omega
  have c2 : a.length + b.length ≤ 2000 := by omega
  obtain ⟨j0, hj, hy0, hy1, hy2⟩ := info_parts info_mod
  have HM : Hid (maxLen = 9223372036854775807) := Lib.hid rfl
  rw [h1] at HC
  rw [h2] at HD
  clear h1 h2 h3 nx ny
  clear hx hy haa hba
  go_enter Tryd.func12, Tryd.ntmps12
  go_wp2_with fail
  go_loopw [12] (fun i wr => (i = .int .i64 0 ∨ i = .int .i64 1 ∨ i = .int .i64 2) ∧ Below w.heap.size w wr) (fun i _ => 2 - (intOf i).toNat)
  case atStart => exact ⟨.inl rfl, Below.refl _ _⟩
  case round =>
    obtain ⟨hi, hB⟩ := hrel
    have HB := Lib.hid hB
    clear hB
    rcases hi with rfl | rfl | rfl
    · go_wp2_with fail
      refine (HC.out _ (HX.out.later HB.out)).mono ?_
      rintro e w1 ⟨rfl, hb⟩
      have HB1 := Lib.hid (HB.out.trans (hb.mono HB.out.size))
      clear hb
      go_wp2_with fail
      go_roundw
      case rel => exact ⟨.inr (.inl rfl), HB1.out⟩
      case measure => simp [intOf]
    · go_wp2_with fail
      refine (HD.out _ (HY.out.later HB.out)).mono ?_
      rintro e w1 ⟨rfl, hb⟩
      have HB1 := Lib.hid (HB.out.trans (hb.mono HB.out.size))
      clear hb
      go_wp2_with fail
      go_roundw
      case rel => exact ⟨.inr (.inr rfl), HB1.out⟩
      case measure => simp [intOf]
    · go_wp2_with fail
      refine (HT.out _ (HX.out.later HB.out)).mono ?_
      rintro e w3 ⟨v1, vs1, rfl, hb, hm1⟩
      have B3 := Lib.hid (HB.out.trans (hb.mono HB.out.size))
      have z3 := hb.size
      have z2 := HB.out.size
      have M1 := Lib.hid hm1
      clear hb hm1
      go_wp2_with fail
      refine (HU.out _ (HY.out.later B3.out)).mono ?_
      rintro e w4 ⟨v2, vs2, rfl, hb, hm2⟩
      have z4 := hb.size
      have B4 := Lib.hid hb
      have B5 := Lib.hid (B3.out.trans (hb.mono B3.out.size))
      have M2 := Lib.hid hm2
      clear hb hm2
      have H1 := Lib.hid ((M1.out.later B4.out).row)
      rcases j_slice M2.out with ⟨rfl, hb0⟩ | ⟨ad, c, rfl⟩
      · have M3 := Lib.hid ((M1.out.later B4.out).mono z2)
        have HB0 := Lib.hid hb0
        clear hb0
        go_wp2_with (at_builtin; refine j_append_nil rfl _ _ 30 rfl wr.heap.size 27 j0 2 Tryd.underlying30 hj v1 a.length (modC a vs1) rfl H1.out rfl ?_)
        go_wp2_with fail
        go_ret2
        exact HE.out _ _ vs1 B5.out (by rw [HB0.out, List.append_nil]; exact M3.out)
      · have H3 := Lib.hid (j_cells M2.out).2
        have H4 := Lib.hid (j_one M2.out)
        go_wp2_with (at_builtin; refine wpList_append_own_at _ rfl _ _ 30 rfl wr.heap.size 27 j0 (.agg #[.int .u8 0, .slice none 0 0]) 2 32 Tryd.underlying30 hj hy0 hy1 hy2 rfl (by decide) v1 a.length (modC a vs1) rfl H1.out ad b.length c (modC b vs2) rfl (modC_length _ _ M2.out.len.symm) H3.out H4.out (by rw [HM.out]; omega) (by omega) (by omega) ?_; intro v' w5 ho2 hg2 hn2 hb2)
        have M3 := Lib.hid ((modFr_join M1.out B4.out M2.out z3 ho2 hg2 hb2).mono z2)
        have hvl := owns_lt M1.out.row
        have B6 := Lib.hid (B5.out.grown hg2 B5.out.size (fun j e => Nat.le_trans z2 (hvl j e).1))
        clear ho2 hg2 hn2 hb2 hvl
        go_wp2_with fail
        go_ret2
        exact HE.out _ _ _ B6.out M3.out
/-- Join, for any words. -/
theorem pjoin_any (x y : Value) (a b : List Md) (ha : a.length ≤ 1000000) (hb : b.length ≤ 1000000) (haa : ∀ m ∈ a, m.a.length ≤ 1000000) (hba : ∀ m ∈ b, m.a.length ≤ 1000000)(w : World) (hx : Mods w x a) (hy : Mods w y b) (nx : NilOr x) (ny : NilOr y) :
    Calls Tryd.prog 12 #[x, y] w (PJnEnd a b w) := by
  by_cases h1 : chk a = 0
  · by_cases h2 : chk b = 0
    · by_cases h3 : 2000 < a.length + b.length
      · exact pjoin_3 x y a b ha hb haa hba h1 h2 h3 w hx hy
      · exact pjoin_4 x y a b ha hb haa hba h1 h2 h3 w hx hy nx ny
    · exact pjoin_2 x y a b ha hb haa hba h1 h2 w hx hy
  · exact pjoin_1 x y a b ha hb haa hba h1 w hx hy
end Go.Proofs.YtjjjopopalcokaaDoor
