/-
  What the reference's Join hands back.
-/
import Derived.Test.YtjjjopopalcokaaWordStrip
namespace Go.Proofs.Ytjjjopopalcokaa
open Go.RowKit
open WM
set_option linter.unusedVariables false
set_option linter.unusedSimpArgs false

theorem modC_app : ∀ (a b : List Md) (vs us : List Value), a.length = vs.length → modC (a ++ b) (vs ++ us) = modC a vs ++ modC b us
  | [], b, [], us, _ => rfl
  | m :: a, b, v :: vs, us, h => by
    have := modC_app a b vs us (by simpa using h)
    simp [modC, this]
  | [], _, _ :: _, _, h => by simp at h
  | _ :: _, _, [], _, h => by simp at h
theorem row_still {w w' : World} {base n size : Nat} {e : TypeId} {v : Value} {xs : List Value} (h : w.ownsRow base e size v n xs) (hb : Below w.heap.size w w') : w'.ownsRow base e size v n xs := by
  refine h.kept (grown_of_below hb none) ?_
  cases v.ownBlock with
  | none => exact .inl rfl
  | some g => exact .inr (by simp)
theorem argOwn_still {w w' : World} {base : Nat} {rb : Option Nat} {v : Value} {a : List Int} (h : ArgOwn w base rb v a) (hb : Below w.heap.size w w') : ArgOwn w' base rb v a :=
  h.kept (grown_of_below hb none) (by obtain ⟨b, c, e, _⟩ := h.some; rw [e]; simp [Value.ownBlock]) h.apart
theorem modOwn_still {w w' : World} {base : Nat} {v : Value} {l : List Md} {vs : List Value} (h : ModOwn w base v l vs) (hb : Below w.heap.size w w') : ModOwn w' base v l vs :=
  ⟨h.len, row_still h.row hb, fun k hk hk2 => argOwn_still (h.args k hk hk2) hb⟩
theorem modOwn_join {X1 X2 X3 : World} {base : Nat} {v1 v2 v3 : Value} {a b : List Md} {vs1 vs2 : List Value}
    (h1 : ModOwn X1 base v1 a vs1) (hb : Below X1.heap.size X1 X2) (h2 : ModOwn X2 X1.heap.size v2 b vs2) (hbase : base ≤ X1.heap.size)
    (o : X3.ownsRow base 46 2 v3 (a.length + b.length) (modC a vs1 ++ modC b vs2)) (g : X2.grownBy X3 v1.ownBlock) (hv : v3.ownBlock = v1.ownBlock ∨ v3.ownBlock = some X2.heap.size) :
    ModOwn X3 base v3 (a ++ b) (vs1 ++ vs2) := by
  have hvl := owns_lt h1.row
  have z := hb.size
  refine ⟨by rw [List.length_append, List.length_append, h1.len, h2.len], by rw [List.length_append, modC_app _ _ _ _ h1.len.symm]; exact o, ?_⟩
  intro k hk hk2
  rcases Nat.lt_or_ge k a.length with hl | hl
  · have hl2 : k < vs1.length := by rw [h1.len]; exact hl
    rw [List.getElem_append_left hl, List.getElem_append_left hl2]
    have A := h1.args k hl hl2
    obtain ⟨q, c, e, q1, q2⟩ := A.some
    have ob : vs1[k].ownBlock = some q := by rw [e]; rfl
    refine (argOwn_still A hb).kept g A.apart fun e2 => ?_
    rcases hv with h | h
    · exact A.apart (e2.trans h)
    · rw [ob, h] at e2
      have := Option.some.inj e2; omega
  · have hl2 : vs1.length ≤ k := by rw [h1.len]; exact hl
    have hk3 : k - a.length < b.length := by rw [List.length_append] at hk; omega
    have hk4 : k - vs1.length < vs2.length := by rw [List.length_append] at hk2; omega
    have e1 : (vs1 ++ vs2)[k] = vs2[k - vs1.length] := List.getElem_append_right hl2
    have e2 : (a ++ b)[k] = b[k - a.length] := List.getElem_append_right hl
    have e3 : vs2[k - vs1.length] = vs2[k - a.length]'(by rw [h2.len]; exact hk3) := by congr 1; rw [h1.len]
    rw [e1, e2, e3]
    have A := h2.args (k - a.length) hk3 (by rw [h2.len]; exact hk3)
    obtain ⟨q, c, e, q1, q2⟩ := A.some
    have ob : (vs2[k - a.length]'(by rw [h2.len]; exact hk3)).ownBlock = some q := by rw [e]; rfl
    have n1 : (vs2[k - a.length]'(by rw [h2.len]; exact hk3)).ownBlock ≠ v1.ownBlock := by
      intro e4
      have := (hvl q (by rw [← e4, ob])).2; omega
    have n3 : (vs2[k - a.length]'(by rw [h2.len]; exact hk3)).ownBlock ≠ v3.ownBlock := by
      intro e4
      rcases hv with h | h
      · exact n1 (e4.trans h)
      · rw [ob, h] at e4
        have := Option.some.inj e4; omega
    have A2 := A.kept (rb' := v3.ownBlock) g n1 n3
    obtain ⟨q', c', e', q1', q2'⟩ := A2.some
    exact ⟨owns_mono A2.own hbase, ⟨q', c', e', by omega, q2'⟩, A2.apart⟩
theorem modC_mem : ∀ (l : List Md) (vs : List Value), ∀ u ∈ modC l vs, (∃ x, u = .int .u8 x) ∨ u ∈ vs
  | [], _, u, h => by simp [modC] at h
  | _ :: _, [], u, h => by simp [modC] at h
  | m :: l, v :: vs, u, h => by
    simp only [modC, List.mem_cons] at h
    rcases h with h | h | h
    · exact .inl ⟨_, h⟩
    · exact .inr (by rw [h]; simp)
    · rcases modC_mem l vs u h with h | h
      · exact .inl h
      · exact .inr (List.mem_cons_of_mem _ h)
theorem modC_one {w : World} {base : Nat} {v : Value} {l : List Md} {vs : List Value} (h : ModOwn w base v l vs) : ∀ u ∈ modC l vs, u.oneCell' = true := by
  intro u hu
  rcases modC_mem l vs u hu with ⟨x, rfl⟩ | hm
  · rfl
  · obtain ⟨k, hk, rfl⟩ := List.mem_iff_getElem.1 hm
    obtain ⟨q, c, e, _⟩ := (h.args k (by rw [← h.len]; exact hk) hk).some
    rw [e]; rfl
theorem modC_cells {w : World} {base : Nat} {ad : Addr} {n c : Nat} {l : List Md} {vs : List Value} (h : ModOwn w base (.slice (some ad) n c) l vs) : n = l.length ∧ ∀ j u, (modC l vs)[j]? = some u → w.cell? (ad.add j) = some u := by
  rcases h.row.2 with ⟨hv, _⟩ | ⟨g, cap, cur, hv, hb, hg, hc1, hc2, hsz, htake⟩
  · simp at hv
  · cases hv
    refine ⟨rfl, fun j u hu => ?_⟩
    have hlen := modC_length l vs h.len.symm
    have hj : j < l.length * 2 := by
      have := (List.getElem?_eq_some_iff.1 hu).1; omega
    rw [← htake, List.getElem?_take_of_lt hj, Array.getElem?_toList] at hu
    have e : (⟨g, 0, none⟩ : Addr).add j = ⟨g, j, none⟩ := by
      unfold Addr.add
      rw [Nat.zero_add]
      split
      · rename_i h; rw [h]
      · rfl
    rw [e]
    simp only [World.cell?, hg]
    exact hu
theorem wpl_append_nil {P : Program} {w : World} {ops : Array Oper} {rest : List Oper} {o : Oper} {a : Act} {Q : Exit → Act → World → Prop} (hg : o.guard = none) (s x : Operand) (t : TypeId) (hop : o.op = Op.call { callee := Callee.builtin Builtin.append, args := #[s, x], argTypes := #[t, t] })
    (base : Nat) (e : TypeId) (i : TypeInfo) (size : Nat) (h1 : P.underlying t = some (.slice e)) (h2 : P.info? e = some i)
    (v : Value) (k : Nat) (xs : List Value) (hs : a.eval s = v) (hown : w.ownsRow base e size v k xs) (hx : a.eval x = .slice none 0 0)
    (hK : wpList P ops Q rest (a.put o.dst v) w) : wpList P ops Q (o :: rest) a w := by
  refine wpList_plain hg fun K hKK => ?_
  have hrun := run_append_owned_none (P := P) (w := w) base t o.type e i size h1 h2 v k xs hown
  unfold Oper.wp
  simp [execOp, hop, resolve, invoke, builtin, hs, hx, hrun, Result.andThen]
  exact hKK _ _ hK
theorem modOwn_none {w : World} {base : Nat} {n c : Nat} {l : List Md} {vs : List Value} (h : ModOwn w base (.slice none n c) l vs) : n = 0 ∧ c = 0 ∧ l = [] := by
  rcases h.row.2 with ⟨hv, h0⟩ | ⟨g, cap, cur, hv, _⟩
  · cases hv; exact ⟨rfl, rfl, List.length_eq_zero_iff.1 h0⟩
  · cases hv
theorem modOwn_slice {w : World} {base : Nat} {v : Value} {l : List Md} {vs : List Value} (h : ModOwn w base v l vs) : ∃ q n c, v = .slice q n c := by
  rcases h.row.2 with ⟨hv, _⟩ | ⟨g, cap, cur, hv, _⟩
  · exact ⟨_, _, _, hv⟩
  · exact ⟨_, _, _, hv⟩
/-- How Join ends. -/
def JnEnd (a b : List Md) (w : World) (e : Ending) (w' : World) : Prop :=
  Below w.heap.size w w' ∧ ((chk a ≠ 0 ∧ e = .returned (.tuple #[.slice none 0 0, .int .i64 (chk a)])) ∨ (chk a = 0 ∧ chk b ≠ 0 ∧ e = .returned (.tuple #[.slice none 0 0, .int .i64 (chk b)])) ∨
    (chk a = 0 ∧ chk b = 0 ∧ 2000 < a.length + b.length ∧ e = .returned (.tuple #[.slice none 0 0, .int .i64 4])) ∨ (chk a = 0 ∧ chk b = 0 ∧ ¬ 2000 < a.length + b.length ∧ ∃ v vs, e = .returned (.tuple #[v, .int .i64 0]) ∧ ModOwn w' w.heap.size v (a ++ b) vs))
theorem join_no (x y : Value) (a b : List Md) (ha : a.length ≤ 2100) (hb : b.length ≤ 2100) (haa : ∀ m ∈ a, m.a.length ≤ 10) (hba : ∀ m ∈ b, m.a.length ≤ 10) (h0 : chk a ≠ 0 ∨ chk b ≠ 0 ∨ 2000 < a.length + b.length) (w : World) (hx : Mods w x a) (hy : Mods w y b) :
    Calls Try.prog 21 #[x, y] w (JnEnd a b w) := by
  obtain ⟨p, cap, rfl⟩ := hx.slice
  obtain ⟨p', cap', rfl⟩ := hy.slice
  have HX := Lib.hid hx
  have HY := Lib.hid hy
  have HC := Lib.hid (fun w hv => check_any (.slice p a.length cap) a ha haa w hv)
  have HD := Lib.hid (fun w hv => check_any (.slice p' b.length cap') b hb hba w hv)
  by_cases h1 : chk a = 0
  · by_cases h2 : chk b = 0
    · have h3 : 2000 < a.length + b.length := by
        rcases h0 with h | h | h
        · exact absurd h1 h
        · exact absurd h2 h
        · exact h
      have HE : Hid (∀ w', Below w.heap.size w w' → JnEnd a b w (.returned (.tuple #[.slice none 0 0, .int .i64 4])) w') := Lib.hid (fun w' hb => ⟨hb, .inr (.inr (.inl ⟨h1, h2, h3, rfl⟩))⟩)
      have i1 : (2000 : Int) < (a.length : Int) + (b.length : Int) := by omega
      rw [h1] at HC
      rw [h2] at HD
      clear h0 h1 h2 hx hy haa hba
      go_enter Try.func21, Try.ntmps21
      go_wp2_with fail
      refine (HC.out _ HX.out).mono ?_
      rintro e w1 ⟨rfl, hb⟩
      have B1 := Lib.hid hb
      clear hb
      go_wp2_with fail
      refine (HD.out _ (HY.out.later B1.out)).mono ?_
      rintro e w2 ⟨rfl, hb⟩
      have B2 := Lib.hid (B1.out.trans (hb.mono B1.out.size))
      clear hb
      go_wp2_with fail
      go_ret2
      exact HE.out _ B2.out
    · have HE : Hid (∀ w', Below w.heap.size w w' → JnEnd a b w (.returned (.tuple #[.slice none 0 0, .int .i64 (chk b)])) w') := Lib.hid (fun w' hb => ⟨hb, .inr (.inl ⟨h1, h2, rfl⟩)⟩)
      obtain ⟨c, hc⟩ : ∃ c, chk b = c := ⟨_, rfl⟩
      rw [h1] at HC
      rw [hc] at HD HE h2
      have i1 : (c != 0) = true := by rw [bne_iff_ne]; exact h2
      clear h0 h1 h2 hx hy haa hba hc
      go_enter Try.func21, Try.ntmps21
      go_wp2_with fail
      refine (HC.out _ HX.out).mono ?_
      rintro e w1 ⟨rfl, hb⟩
      have B1 := Lib.hid hb
      clear hb
      go_wp2_with fail
      refine (HD.out _ (HY.out.later B1.out)).mono ?_
      rintro e w2 ⟨rfl, hb⟩
      have B2 := Lib.hid (B1.out.trans (hb.mono B1.out.size))
      clear hb B1
      go_wp2_with fail
      refine (HD.out _ (HY.out.later B2.out)).mono ?_
      rintro e w3 ⟨rfl, hb⟩
      have B3 := Lib.hid (B2.out.trans (hb.mono B2.out.size))
      clear hb
      go_wp2_with fail
      go_ret2
      exact HE.out _ B3.out
  · have HE : Hid (∀ w', Below w.heap.size w w' → JnEnd a b w (.returned (.tuple #[.slice none 0 0, .int .i64 (chk a)])) w') := Lib.hid (fun w' hb => ⟨hb, .inl ⟨h1, rfl⟩⟩)
    obtain ⟨c, hc⟩ : ∃ c, chk a = c := ⟨_, rfl⟩
    rw [hc] at HC HE h1
    have i1 : (c != 0) = true := by rw [bne_iff_ne]; exact h1
    clear h0 h1 hx hy haa hba hc
    go_enter Try.func21, Try.ntmps21
    go_wp2_with fail
    refine (HC.out _ HX.out).mono ?_
    rintro e w1 ⟨rfl, hb⟩
    have B1 := Lib.hid hb
    clear hb
    go_wp2_with fail
    refine (HC.out _ (HX.out.later B1.out)).mono ?_
    rintro e w2 ⟨rfl, hb⟩
    have B2 := Lib.hid (B1.out.trans (hb.mono B1.out.size))
    clear hb B1
    go_wp2_with fail
    go_ret2
    exact HE.out _ B2.out
set_option maxHeartbeats 1600000 in
theorem join_yes (x y : Value) (a b : List Md) (haa : ∀ m ∈ a, m.a.length ≤ 10) (hba : ∀ m ∈ b, m.a.length ≤ 10) (h1 : chk a = 0) (h2 : chk b = 0) (h3 : ¬ 2000 < a.length + b.length) (w : World) (hx : Mods w x a) (hy : Mods w y b) :
    Calls Try.prog 21 #[x, y] w (JnEnd a b w) := by
  obtain ⟨p, cap, rfl⟩ := hx.slice
  obtain ⟨p', cap', rfl⟩ := hy.slice
  have HX := Lib.hid hx
  have HY := Lib.hid hy
  have HC := Lib.hid (fun w hv => check_any (.slice p a.length cap) a (by omega) haa w hv)
  have HD := Lib.hid (fun w hv => check_any (.slice p' b.length cap') b (by omega) hba w hv)
  have HT := Lib.hid (fun w hv => twin_any (.slice p a.length cap) a (by omega) haa w hv)
  have HU := Lib.hid (fun w hv => twin_any (.slice p' b.length cap') b (by omega) hba w hv)
  have HE : Hid (∀ w' v vs, Below w.heap.size w w' → ModOwn w' w.heap.size v (a ++ b) vs → JnEnd a b w (.returned (.tuple #[v, .int .i64 0])) w') := Lib.hid (fun w' v vs hb hm => ⟨hb, .inr (.inr (.inr ⟨h1, h2, h3, v, vs, rfl, hm⟩))⟩)
  have i1 : ¬ (2000 : Int) < (a.length : Int) + (b.length : Int) := by omega
  have i2 : a.length + b.length ≤ 2000 := by omega
  obtain ⟨j0, hj, hy0, hy1, hy2⟩ := info_parts info_mod
  have HM : Hid (maxLen = 9223372036854775807) := Lib.hid rfl
  rw [h1] at HC
  rw [h2] at HD
  clear h1 h2 h3 hx hy haa hba
  go_enter Try.func21, Try.ntmps21
  go_wp2_with fail
  refine (HC.out _ HX.out).mono ?_
  rintro e w1 ⟨rfl, hb⟩
  have B1 := Lib.hid hb
  clear hb
  go_wp2_with fail
  refine (HD.out _ (HY.out.later B1.out)).mono ?_
  rintro e w2 ⟨rfl, hb⟩
  have B2 := Lib.hid (B1.out.trans (hb.mono B1.out.size))
  clear hb
  go_wp2_with fail
  refine (HT.out _ (HX.out.later B2.out)).mono ?_
  rintro e w3 ⟨v1, vs1, rfl, hb, hm1⟩
  have B3 := Lib.hid (B2.out.trans (hb.mono B2.out.size))
  have z3 := hb.size
  have M1 := Lib.hid hm1
  clear hb hm1
  go_wp2_with fail
  refine (HU.out _ (HY.out.later B3.out)).mono ?_
  rintro e w4 ⟨v2, vs2, rfl, hb, hm2⟩
  have z4 := hb.size
  have B4 := Lib.hid hb
  have B5 := Lib.hid (B3.out.trans (hb.mono B3.out.size))
  have M2 := Lib.hid hm2
  obtain ⟨q, n, c, rfl⟩ := modOwn_slice hm2
  clear hb hm2
  have H1 := Lib.hid (row_still M1.out.row B4.out)
  have z2 := B2.out.size
  cases q with
  | some ad =>
    obtain ⟨hn, hcells⟩ := modC_cells M2.out
    subst hn
    have H3 := Lib.hid hcells
    have H4 := Lib.hid (modC_one M2.out)
    clear hcells
    go_wp2_with (at_builtin; refine wpList_append_own_at _ rfl _ _ 22 rfl w2.heap.size 46 j0 (.agg #[.int .u8 0, .slice none 0 0]) 2 32 Try.underlying22 hj hy0 hy1 hy2 rfl (by decide) v1 a.length (modC a vs1) rfl H1.out ad b.length c (modC b vs2) rfl (modC_length _ _ M2.out.len.symm) H3.out H4.out (by rw [HM.out]; omega) (by omega) (by omega) ?_; intro v' w5 ho2 hg2 hn2 hb2)
    have M3 := Lib.hid (modOwn_mono (modOwn_join M1.out B4.out M2.out z3 ho2 hg2 hb2) z2)
    have hvl := owns_lt M1.out.row
    have B6 := Lib.hid (B5.out.grown hg2 B5.out.size (fun j e => Nat.le_trans z2 (hvl j e).1))
    clear ho2 hg2 hn2 hb2 hvl
    go_wp2_with fail
    go_ret2
    exact HE.out _ _ _ B6.out M3.out
  | none =>
    obtain ⟨rfl, rfl, hb0⟩ := modOwn_none M2.out
    have M3 := Lib.hid (modOwn_mono (modOwn_still M1.out B4.out) z2)
    have HB0 := Lib.hid hb0
    clear hb0
    go_wp2_with (at_builtin; refine wpl_append_nil rfl _ _ 22 rfl w2.heap.size 46 j0 2 Try.underlying22 hj v1 a.length (modC a vs1) rfl H1.out rfl ?_)
    go_wp2_with fail
    go_ret2
    exact HE.out _ _ _ B5.out (by rw [HB0.out, List.append_nil]; exact M3.out)
end Go.Proofs.Ytjjjopopalcokaa
