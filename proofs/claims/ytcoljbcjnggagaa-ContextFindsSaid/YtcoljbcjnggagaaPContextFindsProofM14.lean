/-
  Texts of the proof, merged: PRewPrJ, PRewPrK, PConPrG.
-/
import Derived.Test.YtcoljbcjnggagaaPContextFindsProofM13
import Derived.Maps.OwnIn
import Derived.Test.YtcoljbcjnggagaaPContextFindsProofM5
import Derived.Test.YtcoljbcjnggagaaPContextFindsProofM8
import Derived.Test.YtcoljbcjnggagaaPContextFindsProofM12
namespace Go.Proofs.Ytcoljbcjnggagaa
open Go.RowKit Go.Shelf
open WM RM
set_option linter.unusedVariables false
set_option linter.unusedSimpArgs false
attribute [local go_sem] Oper.semAt_some

theorem successors_any (v1 v2 : Value) (w : World) (p1 : Option Addr) (n1 c1 : Nat) (p2 : Option Addr) (n2 c2 : Nat) (h1 : v1 = .slice p1 n1 c1) (h2 : v2 = .slice p2 n2 c2) :
    Calls Try.prog 83 #[v1, v2] w fun e w' => e = .returned (.func (.func 84) #[] #[.pointer (some ⟨w.heap.size + 1, 0, none⟩), .pointer (some ⟨w.heap.size, 0, none⟩)]) ∧ w' = (w.alloc (.cells #[v1] 22)).alloc (.cells #[v2] 23) := by
  subst h1 h2
  go_enter Try.func83, Try.ntmps83
  go_wp2_with fail
  go_ret
  exact ⟨by simp, rfl⟩
/-! ### What a word in memory keeps -/
theorem own_turn {W W' : World} {row : Option Nat} {base n size : Nat} {e : TypeId} {v : Value} {xs : List Value} (h : W.ownsRow base e size v n xs) (hg : W.grownBy W' row) (hr : ∀ j, row = some j → ∃ o : Obj, W.heap[j]? = some o ∧ o.isCells = false) : W'.ownsRow base e size v n xs := by
  refine h.kept hg ?_
  rcases h.2 with ⟨rfl, _⟩ | ⟨g, cap, cur, rfl, _, hgb, _⟩
  · exact .inl rfl
  · refine .inr fun e' => ?_
    obtain ⟨o, ho, hc⟩ := hr g (by simpa [Value.ownBlock] using e'.symm)
    rw [hgb] at ho; cases ho; cases hc
theorem mod_turn {W W' : World} {row : Option Nat} {base : Nat} {v : Value} {l : List Md} {vs : List Value} (h : ModFr W base v l vs) (hg : W.grownBy W' row) (hr : ∀ j, row = some j → ∃ o : Obj, W.heap[j]? = some o ∧ o.isCells = false) : ModFr W' base v l vs :=
  ⟨h.len, own_turn h.row hg hr, fun k hk hk2 => ⟨own_turn (h.args k hk hk2).own hg hr, (h.args k hk hk2).apart⟩⟩
theorem typ_apart {w : World} {b1 b2 n1 n2 s1 s2 : Nat} {e1 e2 : TypeId} {v1 v2 : Value} {x1 x2 : List Value} (h1 : w.ownsRow b1 e1 s1 v1 n1 x1) (h2 : w.ownsRow b2 e2 s2 v2 n2 x2) (ne : e1 ≠ e2) : v1 = .slice none 0 0 ∨ v1.ownBlock ≠ v2.ownBlock := by
  rcases h1.2 with ⟨rfl, _⟩ | ⟨g, cap, cur, rfl, _, hg, _⟩
  · exact .inl rfl
  · right
    rcases h2.2 with ⟨rfl, _⟩ | ⟨g2, cap2, cur2, rfl, _, hg2, _⟩
    · simp [Value.ownBlock]
    · intro e
      obtain rfl : g = g2 := by simpa [Value.ownBlock] using e
      rw [hg] at hg2
      cases hg2; exact ne rfl
theorem int_ne_mod : 3 ≠ 55 := by decide
theorem mods_ne_mod : 23 ≠ 55 := by decide
theorem mods_ne_int : 23 ≠ 3 := by decide
theorem err_ne_int : 26 ≠ 3 := by decide
theorem err_ne_mod : 26 ≠ 55 := by decide
/-- A word made longer by one module, whose args lie anywhere. -/
theorem mod_push {base : Nat} {X1 X4 : World} {l : List Md} {m : Md} {v v' v2 : Value} {vs : List Value} (h : ModFr X1 base v l vs) (ha : X1.ownsRow base 3 1 v' m.a.length (valsL m.a))
    (o4 : X4.ownsRow base 55 2 v2 (l.length + 1) (modC l vs ++ [.int .u8 m.c.toNat, v'])) (g4 : X1.grownBy X4 v.ownBlock) : ModFr X4 base v2 (l ++ [m]) (vs ++ [v']) := by
  have keep : ∀ {u : Value} {a : List Int}, X1.ownsRow base 3 1 u a.length (valsL a) → ArgFr X4 base v2.ownBlock u a := fun {u a} hu => by
    have hk := hu.kept g4 (by rcases typ_apart hu h.row int_ne_mod with e | e; · left; rw [e]; rfl
                              · exact .inr e)
    exact ⟨hk, typ_apart hk o4 int_ne_mod⟩
  refine ⟨by rw [List.length_append, List.length_append, h.len]; rfl, by rw [List.length_append, modC_snoc _ _ _ _ h.len.symm]; exact o4, ?_⟩
  intro k hk hk2
  rw [List.length_append, List.length_singleton] at hk
  rcases Nat.lt_or_eq_of_le (Nat.le_of_lt_succ hk) with hlt | heq
  · have hk3 : k < vs.length := by rw [h.len]; exact hlt
    rw [List.getElem_append_left hlt, List.getElem_append_left hk3]
    exact keep (h.args k hlt hk3).own
  · subst heq
    have a1 : (vs ++ [v'])[l.length]'hk2 = v' := by rw [List.getElem_append_right (by rw [h.len]; exact Nat.le_refl _)]; simp
    have a2 : (l ++ [m])[l.length]'(by simp) = m := by simp
    rw [a1, a2]
    exact keep ha
theorem own_box {w : World} {B base n size : Nat} {t e : TypeId} {u v : Value} {xs : List Value} (h : w.ownsRow base e size v n xs) (hb : Boxed w B t u) (hte : t ≠ e) (u' : Value) : (w.setCell ⟨B, 0, none⟩ u').ownsRow base e size v n xs :=
  h.kept (grownBy_setCell' w B u') (.inr (hb.not_row hte h).symm)
theorem mod_box {w : World} {B base : Nat} {u v : Value} {l : List Md} {vs : List Value} (h : ModFr w base v l vs) (hb : Boxed w B 23 u) (u' : Value) : ModFr (w.setCell ⟨B, 0, none⟩ u') base v l vs :=
  ⟨h.len, own_box h.row hb mods_ne_mod u', fun k hk hk2 => ⟨own_box (h.args k hk hk2).own hb mods_ne_int u', (h.args k hk hk2).apart⟩⟩
theorem own_raise {w : World} {b N n size : Nat} {e : TypeId} {v : Value} {xs : List Value} (h : w.ownsRow b e size v n xs) (hg : ∀ g, v.ownBlock = some g → N ≤ g) : w.ownsRow N e size v n xs := by
  refine ⟨h.1, ?_⟩
  rcases h.2 with h | ⟨g, cap, cur, rfl, _, r⟩
  · exact .inl h
  · exact .inr ⟨g, cap, cur, rfl, hg g rfl, r⟩
/-- What step holds between two rounds. -/
structure StI (w : World) (b0 : Nat) (r : Option Nat) (pre : List Yx) (W : World) : Prop where
  own : ∃ v d vs, Boxed W (w.heap.size + 1 + 1) 23 v ∧ v.ownBlock = r ∧ pre.map Yx.o = d.map some ∧ ModFr W b0 v d vs ∧ (∀ g, r = some g → w.heap.size ≤ g)
  r1 : Boxed W w.heap.size 23 (.slice none 0 0)
  r2 : Boxed W (w.heap.size + 1) 26 (.int .i64 0)
  below : Below w.heap.size w W
structure StX (w : World) (pre : List Yx) (W : World) : Prop where
  bad : none ∈ pre.map Yx.o
  r1 : Boxed W w.heap.size 23 (.slice none 0 0)
  r2 : Boxed W (w.heap.size + 1) 26 (.int .i64 16)
  below : Below w.heap.size w W
theorem box_turn {W W' : World} {row : Option Nat} {B : Nat} {t : TypeId} {v : Value} (h : Boxed W B t v) (hg : W.grownBy W' row) (hr : ∀ j, row = some j → ∃ o : Obj, W.heap[j]? = some o ∧ o.isCells = false) : Boxed W' B t v :=
  h.kept hg fun e => by
    obtain ⟨o, ho, hc⟩ := hr B e.symm
    rw [show W.heap[B]? = _ from h] at ho; cases ho; cases hc
theorem stI_own (w : World) (b0 N : Nat) (hN : w.heap.size ≤ N) : OwnFrom N (fun (s : Option Nat × List Yx) => StI w b0 s.1 s.2) := by
  rintro ⟨r, pre⟩ W W' row ⟨⟨v, d, vs, h1, h2, h3, h4, h5⟩, h6, h7, h8⟩ hg hr
  have hr2 : ∀ j, row = some j → ∃ o : Obj, W.heap[j]? = some o ∧ o.isCells = false := fun j e => (hr j e).2
  exact ⟨⟨v, d, vs, box_turn h1 hg hr2, h2, h3, mod_turn h4 hg hr2, h5⟩, box_turn h6 hg hr2, box_turn h7 hg hr2, h8.grown hg h8.size (fun j e => Nat.le_trans hN (hr j e).1)⟩
theorem stX_own (w : World) (N : Nat) (hN : w.heap.size ≤ N) : OwnFrom N (StX w) := by
  rintro pre W W' row ⟨h1, h6, h7, h8⟩ hg hr
  have hr2 : ∀ j, row = some j → ∃ o : Obj, W.heap[j]? = some o ∧ o.isCells = false := fun j e => (hr j e).2
  exact ⟨h1, box_turn h6 hg hr2, box_turn h7 hg hr2, h8.grown hg h8.size (fun j e => Nat.le_trans hN (hr j e).1)⟩
theorem at_own (b0 N : Nat) : OwnFrom N (fun (x : Yx) W => x.at b0 W) := by
  rintro x W W' row h hg hr
  have hr2 : ∀ j, row = some j → ∃ o : Obj, W.heap[j]? = some o ∧ o.isCells = false := fun j e => (hr j e).2
  unfold Yx.at at h ⊢
  split
  · rename_i m hm
    rw [hm] at h
    exact own_turn h hg hr2
  · rename_i hm
    rw [hm] at h
    exact h
theorem stI_row {w : World} {b0 : Nat} {r : Option Nat} {pre : List Yx} {W : World} (h : StI w b0 r pre W) : ∀ g, r = some g → g < W.heap.size := by
  obtain ⟨v, d, vs, _, h2, _, h4, _⟩ := h.own
  intro g e
  exact (owns_lt h4.row g (h2.trans e)).2
/-- step's error and word. -/
def spC (l : List Rw) (u : List Md) : Int := match stepL l u with | none => 16 | some d => if 2000 < d.length then 4 else 0
def spL (l : List Rw) (u : List Md) : List Md := match stepL l u with | none => [] | some d => if 2000 < d.length then [] else d
def SpEnd (l : List Rw) (u : List Md) (b0 : Nat) (w : World) (e : Ending) (w' : World) : Prop := ∃ v vs, e = .returned (.tuple #[v, .int .i64 (spC l u)]) ∧ Below w.heap.size w w' ∧ ModFr w' b0 v (spL l u) vs
set_option maxRecDepth 100000 in
set_option maxHeartbeats 6400000 in
theorem pstep_any (p : Option Addr) (cap : Nat) (l : List Rw) (hl : l.length ≤ 9223372036854775807) (hs : ∀ r ∈ l, RwSm r) (hru : ∀ r ∈ l, ruleB r = true) (hro : ∀ r ∈ l, r.out.length ≤ 20)
    (wv : Value) (u : List Md) (us : List Value) (hu : u.length ≤ 2000) (huf : ∀ m ∈ u, fineB m = true) (b0 : Nat) (w : World) (hb0 : b0 ≤ w.heap.size) (h1 : Rws w (.slice p l.length cap) l) (h2 : ModFr w b0 wv u us) :
    Calls Try.prog 82 #[.slice p l.length cap, wv] w (SpEnd l u b0 w) := by
  have HN := Lib.hid (seqO_len hro u)
  have HSeq := Lib.hid (allO_seq l u)
  obtain ⟨pw, cw, rfl⟩ := fr_slice h2.row
  have HIt := Lib.hid (fun (n lp BR BW B : Nat) J Jx BB hJ hJr hY W hW hbr hbw hBR hBl h0 => succ1_in n lp BR BW B b0 w p cap l hl hs hru (.slice pw u.length cw) u us (by omega) huf hb0 h1 h2 J Jx BB hJ hJr hY W hW hbr hbw hBR hBl h0)
  have KS := Lib.hid (fun w => successors_any (.slice p l.length cap) (.slice pw u.length cw) w _ _ _ _ _ _ rfl rfl)
  clear hs hru huf h1 h2 hro
  refine (callsIn_wide (n := 8)).1 ?_
  refine callsIn_of_wp_marks Try.func82 rfl trivial ?_ rfl
  simp only [Try.ntmps82, List.size_toArray, List.length_cons, List.length_nil, Nat.reduceAdd, Nat.reduceSub, Array.replicate_succ, Array.replicate_zero, List.push_toArray, List.append_toArray, List.nil_append, List.cons_append]
  gi_wp2_with fail
  refine ⟨trivial, ?_⟩
  refine (callsIn_wide.2 (KS.out _)).mono ?_
  rintro e ws ⟨rfl, rfl⟩
  gi_wp2_with fail
  obtain ⟨W0, hW0⟩ : ∃ W, W = (((((w.alloc (.cells #[.slice none 0 0] 23)).alloc (.cells #[.int .i64 0] 26)).alloc (.cells #[.slice none 0 0] 23)).alloc (.cells #[.slice p l.length cap] 22)).alloc (.cells #[.slice pw u.length cw] 23)) := ⟨_, rfl⟩
  have hsz : W0.heap.size = w.heap.size + 1 + 1 + 1 + 1 + 1 := by rw [hW0]; simp
  have HB0 : Hid (Below w.heap.size w W0) := Lib.hid (by rw [hW0]; exact (((((Below.refl _ _).alloc (Nat.le_refl _) _).alloc (by simp) _).alloc (by simp; omega) _).alloc (by simp; omega) _).alloc (by simp; omega) _)
  have HR1 : Hid (Boxed W0 w.heap.size 23 (.slice none 0 0)) := Lib.hid (by rw [hW0]; exact ((((Boxed.new w 23 (.slice none 0 0)).alloc _).alloc _).alloc _).alloc _)
  have HR2 : Hid (Boxed W0 (w.heap.size + 1) 26 (.int .i64 0)) := Lib.hid (by
    rw [hW0]
    have := Boxed.new (w.alloc (.cells #[.slice none 0 0] 23)) 26 (.int .i64 0)
    rw [World.size_alloc] at this
    exact ((this.alloc _).alloc _).alloc _)
  have HNx : Hid (Boxed W0 (w.heap.size + 1 + 1) 23 (.slice none 0 0)) := Lib.hid (by
    rw [hW0]
    have := Boxed.new ((w.alloc (.cells #[.slice none 0 0] 23)).alloc (.cells #[.int .i64 0] 26)) 23 (.slice none 0 0)
    rw [World.size_alloc, World.size_alloc] at this
    exact (this.alloc _).alloc _)
  have HBR : Hid (Boxed W0 (w.heap.size + 1 + 1 + 1) 22 (.slice p l.length cap)) := Lib.hid (by
    rw [hW0]
    have := Boxed.new (((w.alloc (.cells #[.slice none 0 0] 23)).alloc (.cells #[.int .i64 0] 26)).alloc (.cells #[.slice none 0 0] 23)) 22 (.slice p l.length cap)
    rw [World.size_alloc, World.size_alloc, World.size_alloc] at this
    exact this.alloc _)
  have HBW : Hid (Boxed W0 (w.heap.size + 1 + 1 + 1 + 1) 23 (.slice pw u.length cw)) := Lib.hid (by
    rw [hW0]
    have := Boxed.new ((((w.alloc (.cells #[.slice none 0 0] 23)).alloc (.cells #[.int .i64 0] 26)).alloc (.cells #[.slice none 0 0] 23)).alloc (.cells #[.slice p l.length cap] 22)) 23 (.slice pw u.length cw)
    rw [World.size_alloc, World.size_alloc, World.size_alloc, World.size_alloc] at this
    exact this)
  have HT : Hid (Tells Fence.wide (8 - 1) Try.prog 84 #[.pointer (some ⟨w.heap.size + 1 + 1 + 1 + 1, 0, none⟩), .pointer (some ⟨w.heap.size + 1 + 1 + 1, 0, none⟩)] yV w.heap.size (w.heap.size + 1 + 1) (fun x W => x.at b0 W) (fun xs => xs.map Yx.o = seqO l u) (fun pre => pre.map Yx.o <+: seqO l u) (seqO l u).length W0) :=
    Lib.hid (fun lp J Jx W hW hJ hJx hJr hY h0 => HIt.out 7 lp (w.heap.size + 1 + 1 + 1) (w.heap.size + 1 + 1 + 1 + 1) (w.heap.size + 1 + 1) J Jx _ hJ hJr hY W (HB0.out.trans (hW.mono HB0.out.size)) ((hW.block _ HBR.out.lt).trans HBR.out) ((hW.cell (p := ⟨w.heap.size + 1 + 1 + 1 + 1, 0, none⟩) HBW.out.lt).trans HBW.out.cell) (by omega) (Nat.lt_of_lt_of_le HNx.out.lt hW.size) h0)
  rw [← hW0]
  clear hW0
  obtain ⟨j0, hj, hy0, hy1, hy2⟩ := info_parts info_mod
  have HM : Hid (maxLen = 9223372036854775807) := Lib.hid rfl
  have HJ := Lib.hid hj
  have HY0 := Lib.hid hy0
  have HY1 := Lib.hid hy1
  have HY2 := Lib.hid hy2
  clear hj hy0 hy1 hy2
  have hwz := HB0.out.size
  refine range_tells rfl (by omega) (gf := 84) (lb := #[.pointer (some ⟨w.heap.size + 1 + 1 + 1 + 1, 0, none⟩), .pointer (some ⟨w.heap.size + 1 + 1 + 1, 0, none⟩)]) rfl trivial (enters_of Try.func84 (by kernel_rfl) rfl) HT.out hwz (Below.refl _ _) (fun _ => rfl)
    (StI w b0) (StX w) (fun r pre W1 h => stI_row h) (stI_own w b0 _ hwz) (stX_own w _ hwz) (at_own b0 _)
    ⟨⟨.slice none 0 0, [], [], HNx.out, rfl, rfl, modFr_nil _ _, fun g e => by cases e⟩, HR1.out, HR2.out, HB0.out⟩
    (fun x => .cells #[.int .u8 x.cn, x.v] 55 (0, 0))
    (fun x mb => { tmps := #[.slice p l.length cap, .slice pw u.length cw, undef, undef, .pointer (some ⟨w.heap.size, 0, none⟩), .pointer (some ⟨w.heap.size + 1, 0, none⟩), .pointer (some ⟨w.heap.size + 1 + 1, 0, none⟩), .pointer (some ⟨mb, 0, none⟩), .int .i64 x.er, .slice p l.length cap, .slice pw u.length cw,
      .func (.func 84) #[] #[.pointer (some ⟨w.heap.size + 1 + 1 + 1 + 1, 0, none⟩), .pointer (some ⟨w.heap.size + 1 + 1 + 1, 0, none⟩)], .agg #[.int .u8 x.cn, x.v], .int .i64 x.er, undef, undef, undef, undef, undef, undef, undef, undef, undef, undef, undef], defers := [] }) ?assign ?body ?done ?stop
  case assign =>
    rintro lp ⟨o, px, nx, cx⟩ W K hK
    dsimp only [yV]
    gi_wp2
    exact hK
  case body =>
    rintro lp r pre ⟨o, px, nx, cx⟩ mb W hI hQ hm hmr hml hlen
    have HI := Lib.hid hI
    have HQ := Lib.hid hQ
    have HMb := Lib.hid hm
    have hge := hI.below.size
    cases o with
    | none =>
      have c1 := hI.r1.cell
      have f1 := hI.r1.frozen
      have l1 := hI.r1.lt
      have c2 := hI.r2.cell
      have f2 := hI.r2.frozen
      have l2 := hI.r2.lt
      clear hI hQ hm
      dsimp only [Yx.er, Yx.cn]
      gi_wp2_with fail
      have h := HI.out
      refine ⟨((KeepsOthers.setCell _ _ _).trans (KeepsOthers.setCell _ _ _)).from _, ⟨by simp, ?_, ?_, ?_⟩⟩
      · exact (h.r1.set _).kept (grownBy_setCell' _ _ _) (by simp <;> omega)
      · exact (h.r2.kept (grownBy_setCell' _ _ _) (by simp)).set _
      · exact (h.below.setCell (p := ⟨w.heap.size, 0, none⟩) (Nat.le_refl _) _).setCell (p := ⟨w.heap.size + 1, 0, none⟩) (Nat.le_succ _) _
    | some m =>
      obtain ⟨vv, d, vs, hbx, hvr, hpre, hmf, hrg⟩ := hI.own
      have hqo : W.ownsRow b0 3 1 (.slice px nx cx) m.a.length (valsL m.a) := hQ
      have HQo := Lib.hid hqo
      have HMF := Lib.hid hmf
      have HBx := Lib.hid hbx
      have HVr := Lib.hid hvr
      have HPre := Lib.hid hpre
      have hrow : W.ownsRow w.heap.size 55 2 vv d.length (modC d vs) := own_raise hmf.row (by rw [hvr]; exact hrg)
      have HRow := Lib.hid hrow
      have hdl : d.length < 40000 := by
        have h1 := congrArg List.length hpre
        rw [List.length_map, List.length_map] at h1
        have := HN.out
        omega
      have hc := hbx.cell
      have hf := hbx.frozen
      have hlx := hbx.lt
      have m0 : W.cell? ⟨mb, 0, none⟩ = some (.int .u8 m.c.toNat) := cell_two0 hm
      have m1 : W.cell? ⟨mb, 1, none⟩ = some (.slice px nx cx) := cell_two1 hm
      have lm := lt_of_block hm
      obtain ⟨pvv, cvv, hvv⟩ := fr_slice hmf.row
      subst hvv
      clear hI hQ hm hqo hmf hbx hvr hpre hrg hrow
      dsimp only [Yx.er, Yx.cn]
      gi_wp2_with (gi_at_builtin; go_loud (refine wpListIn_append_own_at _ rfl _ _ 23 rfl w.heap.size 55 j0 (.agg #[.int .u8 0, .slice none 0 0]) 2 32 Try.underlying23 HJ.out HY0.out HY1.out HY2.out rfl (by decide) (.slice pvv d.length cvv) d.length (modC d vs) rfl (HRow.out.alloc _) ⟨W.heap.size, 0, none⟩ 1 1 [.int .u8 m.c.toNat, .slice px nx cx] rfl rfl (two_new _ _ _ _) (by simp [Value.oneCell']) (by rw [HM.out]; omega) (by omega) (by simp; omega) ?_; intro v' w1 hown' hgrow hnil hat; obtain ⟨g', cap', rfl⟩ := ownsRow_succ hown'; obtain ⟨hv1, hv2, hr2, hk2, hb2⟩ := HBx.out.appended mods_ne_mod HRow.out hge (by omega) hown' hgrow; have hc2 := hv1.cell; have hf2 := hv1.frozen; have hl2 := hv1.lt; have HV1 := Lib.hid hv1; have HV2 := Lib.hid hv2; have HO2 := Lib.hid hown'; have HG2 := Lib.hid hgrow; have HK2 := Lib.hid hk2; have HB2 := Lib.hid hb2; have HAt := Lib.hid hat; clear hv1 hv2 hr2 hk2 hb2 hown' hgrow hnil hat))
      have h := HI.out
      have hg' := owns_lt HO2.out g' rfl
      refine ⟨HK2.out.from _, some g', ⟨HB2.out, ?_, ?_⟩, ⟨⟨_, d ++ [m], vs ++ [.slice px nx cx], HV2.out, rfl, ?_, ?_, ?_⟩, ?_, ?_, h.below.trans HB2.out⟩⟩
      · intro k o hk ho hkb hkr
        exact (Below.heap_setCell _ _ _ k hkb).trans ((HG2.out.block k (by have := lt_of_block hk; simp; omega) (by rw [HVr.out]; exact hkr)).trans (heap_alloc_old hk _))
      · rcases HAt.out with e | e
        · left; rw [← HVr.out]; exact e
        · right; intro g eg
          have e2 : some g' = some (W.heap.size + 1) := by simpa [Value.ownBlock] using e
          have := Option.some.inj (eg.symm.trans e2)
          omega
      · rw [List.map_append, List.map_append, HPre.out]; rfl
      · exact mod_box (mod_push (mod_turn HMF.out (World.grownBy_alloc W _ none) (fun j e => by cases e)) (HQo.out.alloc _) (owns_mono HO2.out hb0) HG2.out) HV1.out _
      · intro g eg
        cases eg; exact hg'.1
      · exact ((h.r1.alloc (.cells #[.int .u8 m.c.toNat, .slice px nx cx] 55)).kept HG2.out ((h.r1.alloc (.cells #[.int .u8 m.c.toNat, .slice px nx cx] 55)).not_row mods_ne_mod (HRow.out.alloc (.cells #[.int .u8 m.c.toNat, .slice px nx cx] 55)))).kept (grownBy_setCell' _ _ _) (by simp; omega)
      · exact ((h.r2.alloc (.cells #[.int .u8 m.c.toNat, .slice px nx cx] 55)).kept HG2.out ((h.r2.alloc (.cells #[.int .u8 m.c.toNat, .slice px nx cx] 55)).not_row err_ne_mod (HRow.out.alloc (.cells #[.int .u8 m.c.toNat, .slice px nx cx] 55)))).kept (grownBy_setCell' _ _ _) (by simp)
  case done =>
    rintro D r xs W hD hS hI hK
    obtain ⟨vv, d, vs, hbx, hvr, hpre, hmf, hrg⟩ := hI.own
    have hst : stepL l u = some d := by rw [← HSeq.out, ← hS, hpre, allO_some]
    obtain ⟨pvv, cvv, hvv⟩ := fr_slice hmf.row
    subst hvv
    have HI := Lib.hid hI
    have HMF := Lib.hid hmf
    have HK := Lib.hid hK
    have hD2 : w.heap.size ≤ D := Nat.le_trans hwz hD
    have hc := hbx.cell
    have c1 := hI.r1.cell
    have f1 := hI.r1.frozen
    have l1 := hI.r1.lt
    have c2 := hI.r2.cell
    have f2 := hI.r2.frozen
    have l2 := hI.r2.lt
    have HFin : Hid (∀ (x1 x2 : Value) (e : Ending), (∀ w', Below w.heap.size w w' → ModFr w' b0 (.slice pvv d.length cvv) d vs → SpEnd l u b0 w e w') → SpEnd l u b0 w e (((W.setCell ⟨w.heap.size, 0, none⟩ x1).setCell ⟨w.heap.size + 1, 0, none⟩ x2).putObj D (.deferred none))) := Lib.hid (fun x1 x2 e h => by
      have hb : Below w.heap.size w ((W.setCell ⟨w.heap.size, 0, none⟩ x1).setCell ⟨w.heap.size + 1, 0, none⟩ x2) := (hI.below.setCell (p := ⟨w.heap.size, 0, none⟩) (Nat.le_refl _) _).setCell (p := ⟨w.heap.size + 1, 0, none⟩) (Nat.le_succ _) _
      have hK' := ((KeepsOthers.setCell W ⟨w.heap.size, 0, none⟩ x1).trans (KeepsOthers.setCell _ ⟨w.heap.size + 1, 0, none⟩ x2)).same D _ hK rfl
      have hm1 := mod_box hmf hI.r1 x1
      have hr2 : Boxed (W.setCell ⟨w.heap.size, 0, none⟩ x1) (w.heap.size + 1) 26 (.int .i64 0) := hI.r2.kept (grownBy_setCell' _ _ _) (by simp)
      have hm2 : ModFr ((W.setCell ⟨w.heap.size, 0, none⟩ x1).setCell ⟨w.heap.size + 1, 0, none⟩ x2) b0 (.slice pvv d.length cvv) d vs :=
        ⟨hm1.len, own_box hm1.row hr2 err_ne_mod x2, fun k hk hk2 => ⟨own_box (hm1.args k hk hk2).own hr2 err_ne_int x2, (hm1.args k hk hk2).apart⟩⟩
      refine h _ (hb.trans (belowK_b (w := w) (Nat.le_refl _) _ D _ _ hD2 hK' rfl rfl)) (mod_turn hm2 (grownBy_putObj' _ D _) (fun j e => by cases e; exact ⟨_, hK', rfl⟩)))
    have HC1 : Hid (∀ x1 x2 : Value, (((W.setCell ⟨w.heap.size, 0, none⟩ x1).setCell ⟨w.heap.size + 1, 0, none⟩ x2).putObj D (.deferred none)).cell? ⟨w.heap.size, 0, none⟩ = some x1 ∧ (((W.setCell ⟨w.heap.size, 0, none⟩ x1).setCell ⟨w.heap.size + 1, 0, none⟩ x2).putObj D (.deferred none)).cell? ⟨w.heap.size + 1, 0, none⟩ = some x2 ∧ ((W.setCell ⟨w.heap.size, 0, none⟩ x1).setCell ⟨w.heap.size + 1, 0, none⟩ x2).heap[D]? = some (.deferred (some []))) := Lib.hid (fun x1 x2 => by
      have hK' := ((KeepsOthers.setCell W ⟨w.heap.size, 0, none⟩ x1).trans (KeepsOthers.setCell _ ⟨w.heap.size + 1, 0, none⟩ x2)).same D _ hK rfl
      have b1 : Boxed ((W.setCell ⟨w.heap.size, 0, none⟩ x1).setCell ⟨w.heap.size + 1, 0, none⟩ x2) w.heap.size 23 x1 := (hI.r1.set x1).kept (grownBy_setCell' _ _ _) (by simp)
      have b2 : Boxed ((W.setCell ⟨w.heap.size, 0, none⟩ x1).setCell ⟨w.heap.size + 1, 0, none⟩ x2) (w.heap.size + 1) 26 x2 := (hI.r2.kept (grownBy_setCell' _ _ _) (by simp)).set x2
      exact ⟨cell_kept b1.cell (grownBy_putObj' _ D (.deferred none)) (fun r e => by cases e; exact ⟨_, hK', rfl⟩), cell_kept b2.cell (grownBy_putObj' _ D (.deferred none)) (fun r e => by cases e; exact ⟨_, hK', rfl⟩), hK'⟩)
    have HD := Lib.hid hD
    clear hI hmf hbx hvr hpre hrg hS hD hK
    by_cases h2k : 2000 < d.length
    · have t1 : (2000 : Int) < (d.length : Int) := by omega
      have HE : Hid (spC l u = 4 ∧ spL l u = []) := Lib.hid (by unfold spC spL; rw [hst]; simp [h2k])
      clear hst
      gi_wp2_with fail
      obtain ⟨e1, e2, e3⟩ := HC1.out (.slice none 0 0) (.int .i64 4)
      refine ⟨by simp, .inl ⟨_, _, rfl, run_takeDeferred e3, ?_⟩⟩
      refine ⟨.tuple #[.slice none 0 0, .int .i64 4], by simp [results, Try.f82, go_sem, e1, e2], HFin.out _ _ _ (fun w' hb hm => ⟨_, [], by rw [HE.out.1], hb, by rw [HE.out.2]; exact modFr_nil _ _⟩)⟩
    · have t1 : ¬ (2000 : Int) < (d.length : Int) := by omega
      have HE : Hid (spC l u = 0 ∧ spL l u = d) := Lib.hid (by unfold spC spL; rw [hst]; simp; omega)
      clear hst
      gi_wp2_with fail
      obtain ⟨e1, e2, e3⟩ := HC1.out (.slice pvv d.length cvv) (.int .i64 0)
      refine ⟨by simp, .inl ⟨_, _, rfl, run_takeDeferred e3, ?_⟩⟩
      refine ⟨.tuple #[.slice pvv d.length cvv, .int .i64 0], by simp [results, Try.f82, go_sem, e1, e2], HFin.out _ _ _ (fun w' hb hm => ⟨_, vs, by rw [HE.out.1], hb, by rw [HE.out.2]; exact hm⟩)⟩
  case stop =>
    rintro D pre W hD hSp hI hK
    have hst : stepL l u = none := by rw [← HSeq.out]; exact allO_none (hSp.subset hI.bad)
    have HE : Hid (spC l u = 16 ∧ spL l u = []) := Lib.hid (by unfold spC spL; rw [hst]; simp)
    have HI := Lib.hid hI
    have HK := Lib.hid hK
    have hD2 : w.heap.size ≤ D := Nat.le_trans hwz hD
    have HD2 := Lib.hid hD2
    clear hI hK hSp hst hD hD2
    gi_wp2_with fail
    refine ⟨by simp, .inl ⟨_, _, rfl, run_takeDeferred HK.out, ?_⟩⟩
    have e1 := cell_kept HI.out.r1.cell (grownBy_putObj' _ D (.deferred none)) (fun r e => by cases e; exact ⟨_, HK.out, rfl⟩)
    have e2 := cell_kept HI.out.r2.cell (grownBy_putObj' _ D (.deferred none)) (fun r e => by cases e; exact ⟨_, HK.out, rfl⟩)
    exact ⟨.tuple #[.slice none 0 0, .int .i64 16], by simp [results, Try.f82, go_sem, e1, e2], _, [], by rw [HE.out.1], HI.out.below.trans (belowK_b (w := w) (Nat.le_refl _) _ D _ _ HD2.out HK.out rfl rfl), by rw [HE.out.2]; exact modFr_nil _ _⟩
end Go.Proofs.Ytcoljbcjnggagaa
namespace Go.Proofs.Ytcoljbcjnggagaa
open Go.RowKit
open WM RM
set_option linter.unusedVariables false
set_option linter.unusedSimpArgs false

theorem sp_st {l : List Rw} (hl : rchk l = 0) {u : List Md} (hu : chk u = 0) : spC l u = stC l u ∧ spL l u = stL l u := by
  obtain ⟨h1, h2⟩ := st_valid hl hu
  exact ⟨by rw [h1]; rfl, by rw [h2]; rfl⟩
theorem chk_args {u : List Md} (h : chk u = 0) : ∀ m ∈ u, m.a.length ≤ 10 := fun m hm => by
  have := (fine_args4 (List.all_eq_true.1 (chk_zero.1 h).2.1 m hm)).1
  omega
/-- How Run ends. -/
def PuEnd (l : List Rw) (wd : List Md) (n : Int) (w : World) (e : Ending) (w' : World) : Prop := ∃ v vs, e = .returned (.tuple #[v, .int .i64 (ruC l wd n)]) ∧ Below w.heap.size w w' ∧ ModFr w' w.heap.size v (ruL l wd n) vs
/-- Where the loop stands. -/
structure PnAt (w : World) (l : List Rw) (wd : List Md) (n i : Nat) (u : List Md) (v : Value) (wr : World) : Prop where
  hi : i ≤ n
  below : Below w.heap.size w wr
  own : ∃ vs, ModFr wr w.heap.size v u vs
  ok : chk u = 0
  eq : runF l n wd = runF l (n - i) u
set_option maxRecDepth 100000 in
set_option maxHeartbeats 6400000 in
theorem prun_any (v : Value) (l : List Rw) (hmax : l.length ≤ 9223372036854775807) (hs : ∀ r ∈ l, RwSm r) (wv : Value) (wd : List Md) (hwl : wd.length ≤ 9223372036854775807) (hwa : ∀ m ∈ wd, m.a.length ≤ 9223372036854775807) (n : Int) (w : World) (hv : Rws w v l) (hw : Mods w wv wd) (hnil : NilOr wv) :
    Calls Try.prog 79 #[v, wv, .int .i64 n] w (PuEnd l wd n w) := by
  obtain ⟨p, cap, rfl⟩ := hv.slice
  obtain ⟨p2, cap2, rfl⟩ := hw.slice
  have HV := Lib.hid hv
  have HW := Lib.hid hw
  have KC := Lib.hid (fun w h => prcheck_any (.slice p l.length cap) l hmax hs w h)
  have KW := Lib.hid (fun w h => pcheck_any (.slice p2 wd.length cap2) wd hwl hwa w h)
  clear hv hw hwa
  by_cases h0 : rchk l = 0
  · by_cases h1 : chk wd = 0
    · have H0 := Lib.hid h0
      have H1 := Lib.hid h1
      have hr0 := rchk_zero h0
      have hwd := chk_zero.1 h1
      have KT := Lib.hid (fun (w : World) (h : Mods w (.slice p2 wd.length cap2) wd) => ptwin_any (.slice p2 wd.length cap2) wd (by omega) (fun m hm => by have := chk_args h1 m hm; omega) w h hnil)
      have KS := Lib.hid (fun (wv : Value) (u : List Md) (us : List Value) (hu : chk u = 0) (b0 : Nat) (w : World) hb h1 h2 => pstep_any p cap l hmax hs (fun r hr => (hr0.2 r hr).1) (fun r hr => ((many_no hr0.1).2 r hr).2) wv u us (chk_zero.1 hu).1 (fun m hm => List.all_eq_true.1 (chk_zero.1 hu).2.1 m hm) b0 w hb h1 h2)
      rw [h0] at KC
      rw [h1] at KW
      clear h0 h1 hr0 hwd hs hnil
      by_cases h2 : n < 0
      · have HE : Hid (∀ w', Below w.heap.size w w' → PuEnd l wd n w (.returned (.tuple #[.slice none 0 0, .int .i64 2])) w') := Lib.hid (fun w' hb => by
          have h5 := ru_arg (n := n) H0.out H1.out (.inl h2)
          exact ⟨_, [], by rw [h5.1], hb, by rw [h5.2]; exact modFr_nil _ _⟩)
        go_enter Try.func79, Try.ntmps79
        go_wp2_with fail
        refine (KC.out _ HV.out).mono ?_
        rintro e w1 ⟨rfl, hb⟩
        have B1 := Lib.hid hb
        clear hb
        go_wp2_with fail
        refine (KW.out _ (HW.out.later B1.out)).mono ?_
        rintro e w2 ⟨rfl, hb⟩
        have B2 := Lib.hid (B1.out.trans (hb.mono B1.out.size))
        clear hb
        go_wp2_with fail
        go_ret2
        exact HE.out _ B2.out
      · by_cases h3 : 30 < n
        · have HE : Hid (∀ w', Below w.heap.size w w' → PuEnd l wd n w (.returned (.tuple #[.slice none 0 0, .int .i64 2])) w') := Lib.hid (fun w' hb => by
            have h5 := ru_arg (n := n) H0.out H1.out (.inr h3)
            exact ⟨_, [], by rw [h5.1], hb, by rw [h5.2]; exact modFr_nil _ _⟩)
          go_enter Try.func79, Try.ntmps79
          go_wp2_with fail
          refine (KC.out _ HV.out).mono ?_
          rintro e w1 ⟨rfl, hb⟩
          have B1 := Lib.hid hb
          clear hb
          go_wp2_with fail
          refine (KW.out _ (HW.out.later B1.out)).mono ?_
          rintro e w2 ⟨rfl, hb⟩
          have B2 := Lib.hid (B1.out.trans (hb.mono B1.out.size))
          clear hb
          go_wp2_with fail
          go_ret2
          exact HE.out _ B2.out
        · obtain ⟨N, hN⟩ : ∃ N : Nat, n = (N : Int) := ⟨n.toNat, by omega⟩
          subst hN
          have HR : Hid (∀ c u, runF l N wd = (c, u) → ruC l wd (N : Int) = c ∧ ruL l wd (N : Int) = if c = 0 then u else []) := Lib.hid (fun c u h => ru_run H0.out H1.out (by omega) h)
          go_enter Try.func79, Try.ntmps79
          go_wp2_with fail
          refine (KC.out _ HV.out).mono ?_
          rintro e w1 ⟨rfl, hb⟩
          have B1 := Lib.hid hb
          clear hb
          go_wp2_with fail
          refine (KW.out _ (HW.out.later B1.out)).mono ?_
          rintro e w2 ⟨rfl, hb⟩
          have B2 := Lib.hid (B1.out.trans (hb.mono B1.out.size))
          clear hb
          go_wp2_with fail
          refine (KT.out _ (HW.out.later B2.out)).mono ?_
          rintro e w3 ⟨v3, vs3, rfl, hb, hmo⟩
          have S3 : Hid (PnAt w l wd N 0 wd v3 w3) := Lib.hid ⟨Nat.zero_le _, B2.out.trans (hb.mono B2.out.size), ⟨vs3, hmo.mono B2.out.size⟩, H1.out, rfl⟩
          clear hb hmo
          go_wp2_with fail
          go_loopw [10, 32] (fun v i wr => ∃ (i' : Nat) (u : List Md), i = .int .i64 (i' : Nat) ∧ PnAt w l wd N i' u v wr) (fun _ i _ => N - (intOf i).toNat)
          case atStart => exact ⟨0, wd, rfl, S3.out⟩
          case round =>
            rename World => wo
            obtain ⟨i, u, rfl, hS⟩ := hrel
            have HSt := Lib.hid hS
            have hi := hS.hi
            have hsz := hS.below.size
            obtain ⟨vs, hm⟩ := hS.own
            obtain ⟨q, c, hq⟩ := fr_slice hm.row
            subst hq
            have HMF := Lib.hid hm
            have HOk := Lib.hid hS.ok
            clear hS hm
            by_cases hlt : i < N
            · have k1 : (i : Int) < (N : Int) := by omega
              have HEq : Hid (runF l N wd = runF l (N - (i + 1) + 1) u) := Lib.hid (by rw [HSt.out.eq]; congr 1; omega)
              have KS1 := Lib.hid (KS.out (.slice q u.length c) u vs HOk.out w.heap.size wo hsz (HV.out.later HSt.out.below) HMF.out)
              unfold SpEnd at KS1
              obtain ⟨hsp1, hsp2⟩ := sp_st H0.out HOk.out
              rw [hsp1, hsp2] at KS1
              clear hsp1 hsp2
              by_cases h5 : stC l u = 0
              · have HN : Hid (∀ w' v' vs', Below wo.heap.size wo w' → ModFr w' w.heap.size v' (stL l u) vs' → PnAt w l wd N (i + 1) (stL l u) v' w') := Lib.hid (fun w' v' vs' hb hm =>
                  ⟨hlt, HSt.out.below.trans (hb.mono hsz), ⟨vs', hm⟩, stL_chk H0.out HOk.out, by rw [HEq.out, run_ok h5]⟩)
                rw [h5] at KS1
                clear h5
                go_wp2_with fail
                refine KS1.out.mono ?_
                rintro e w4 ⟨v4, vs4, rfl, hb, hm⟩
                have HT := Lib.hid (HN.out _ _ _ hb hm)
                clear hb hm
                go_wp2_with fail
                go_roundw
                case rel => exact ⟨i + 1, _, by go_num, HT.out⟩
                case measure => simp [intOf]; omega
              · have HE : Hid (∀ w', Below wo.heap.size wo w' → PuEnd l wd (N : Int) w (.returned (.tuple #[.slice none 0 0, .int .i64 (stC l u)])) w') := Lib.hid (fun w' hb => by
                  have h6 := HR.out _ _ (HEq.out.trans (run_no h5))
                  rw [if_neg h5] at h6
                  exact ⟨_, [], by rw [h6.1], HSt.out.below.trans (hb.mono hsz), by rw [h6.2]; exact modFr_nil _ _⟩)
                obtain ⟨z, hz⟩ : ∃ z, stC l u = z := ⟨_, rfl⟩
                rw [hz] at KS1 HE h5
                have h6 : (z != 0) = true := by rw [bne_iff_ne]; exact h5
                clear h5 hz
                go_wp2_with fail
                refine KS1.out.mono ?_
                rintro e w4 ⟨v4, vs4, rfl, hb, hm⟩
                have B4 := Lib.hid hb
                clear hb hm
                go_wp2_with fail
                go_ret2
                exact HE.out _ B4.out
            · obtain rfl : i = N := by omega
              have k1 : ¬ (i : Int) < (i : Int) := by omega
              have HE : Hid (PuEnd l wd (i : Int) w (.returned (.tuple #[.slice q u.length c, .int .i64 0])) wo) := Lib.hid (by
                have h6 := HR.out 0 u (by rw [HSt.out.eq, Nat.sub_self]; rfl)
                rw [if_pos rfl] at h6
                exact ⟨_, vs, by rw [h6.1], HSt.out.below, by rw [h6.2]; exact HMF.out⟩)
              go_wp2_with fail
              go_ret2
              exact HE.out
    · have HE : Hid (∀ w', Below w.heap.size w w' → PuEnd l wd n w (.returned (.tuple #[.slice none 0 0, .int .i64 (chk wd)])) w') := Lib.hid (fun w' hb => ⟨_, [], by rw [(ru_word h0 h1).1], hb, by rw [(ru_word h0 h1).2]; exact modFr_nil _ _⟩)
      rw [h0] at KC
      obtain ⟨c, hc⟩ : ∃ c, chk wd = c := ⟨_, rfl⟩
      rw [hc] at KW HE h1
      have h2 : (c != 0) = true := by rw [bne_iff_ne]; exact h1
      clear h0 h1 hc
      go_enter Try.func79, Try.ntmps79
      go_wp2_with fail
      refine (KC.out _ HV.out).mono ?_
      rintro e w1 ⟨rfl, hb⟩
      have B1 := Lib.hid hb
      clear hb
      go_wp2_with fail
      refine (KW.out _ (HW.out.later B1.out)).mono ?_
      rintro e w2 ⟨rfl, hb⟩
      have B2 := Lib.hid (B1.out.trans (hb.mono B1.out.size))
      clear hb
      go_wp2_with fail
      go_ret2
      exact HE.out _ B2.out
  · have HE : Hid (∀ w', Below w.heap.size w w' → PuEnd l wd n w (.returned (.tuple #[.slice none 0 0, .int .i64 (rchk l)])) w') := Lib.hid (fun w' hb => ⟨_, [], by rw [(ru_rules h0).1], hb, by rw [(ru_rules h0).2]; exact modFr_nil _ _⟩)
    obtain ⟨c, hc⟩ : ∃ c, rchk l = c := ⟨_, rfl⟩
    rw [hc] at KC HE h0
    have h2 : (c != 0) = true := by rw [bne_iff_ne]; exact h0
    clear h0 hc
    go_enter Try.func79, Try.ntmps79
    go_wp2_with fail
    refine (KC.out _ HV.out).mono ?_
    rintro e w1 ⟨rfl, hb⟩
    have B1 := Lib.hid hb
    clear hb
    go_wp2_with fail
    go_ret2
    exact HE.out _ B1.out
theorem ru_one (l : List Rw) (wd : List Md) : ruC l wd 1 = stC l wd ∧ ruL l wd 1 = stL l wd := by
  have hr : runF l 1 wd = if stC l wd ≠ 0 then (stC l wd, []) else (0, stL l wd) := by
    rw [runF]
    split
    · rfl
    · rw [runF]
  have e : ruC l wd 1 = stC l wd := by
    unfold ruC
    by_cases h0 : rchk l = 0
    · by_cases h1 : chk wd = 0
      · rw [if_neg (by simp [h0]), if_neg (by simp [h1]), if_neg (by omega)]
        show (runF l 1 wd).1 = _
        rw [hr]
        split
        · rfl
        · rename_i h; simp at h; exact h.symm
      · rw [if_neg (by simp [h0]), if_pos h1, (st_word h0 h1).1]
    · rw [if_pos h0, (st_rules h0).1]
  refine ⟨e, ?_⟩
  unfold ruL
  rw [e]
  by_cases h : stC l wd = 0
  · rw [if_pos h]
    show (runF l 1 wd).2 = _
    rw [hr, if_neg (by simp [h])]
  · rw [if_neg h]
    unfold stL; rw [if_neg h]
/-- How Step ends. -/
def PtEnd (l : List Rw) (wd : List Md) (w : World) (e : Ending) (w' : World) : Prop := ∃ v vs, e = .returned (.tuple #[v, .int .i64 (stC l wd)]) ∧ Below w.heap.size w w' ∧ ModFr w' w.heap.size v (stL l wd) vs
set_option maxRecDepth 100000 in
set_option maxHeartbeats 1600000 in
theorem pstep1_any (v : Value) (l : List Rw) (hmax : l.length ≤ 9223372036854775807) (hs : ∀ r ∈ l, RwSm r) (wv : Value) (wd : List Md) (hwl : wd.length ≤ 9223372036854775807) (hwa : ∀ m ∈ wd, m.a.length ≤ 9223372036854775807) (w : World) (hv : Rws w v l) (hw : Mods w wv wd) (hnil : NilOr wv) :
    Calls Try.prog 73 #[v, wv] w (PtEnd l wd w) := by
  have K := Lib.hid (prun_any v l hmax hs wv wd hwl hwa 1 w hv hw hnil)
  obtain ⟨p, cap, rfl⟩ := hv.slice
  obtain ⟨p2, cap2, rfl⟩ := hw.slice
  unfold PuEnd at K
  rw [(ru_one l wd).1, (ru_one l wd).2] at K
  clear hv hw hs hwa hnil
  obtain ⟨c, hc⟩ : ∃ c, stC l wd = c := ⟨_, rfl⟩
  have HC := Lib.hid hc
  rw [hc] at K
  clear hc
  go_enter Try.func73, Try.ntmps73
  go_wp2_with fail
  refine K.out.mono ?_
  rintro e w1 ⟨v1, vs, rfl, hb, hm⟩
  have HE : Hid (PtEnd l wd w (.returned (.tuple #[v1, .int .i64 c])) w1) := Lib.hid ⟨_, vs, by rw [HC.out], hb, hm⟩
  clear hb hm
  go_wp2_with fail
  go_ret2
  exact HE.out
end Go.Proofs.Ytcoljbcjnggagaa
namespace Go.Proofs.Ytcoljbcjnggagaa
open Go.RowKit
open WM RM CM
set_option linter.unusedVariables false
set_option linter.unusedSimpArgs false

theorem three_set {w : World} {b : Nat} {t : TypeId} {x y z : Value} (h : w.heap[b]? = some (.cells #[x, y, z] t (0, 0))) (a c d : Value) :
    (w.setCell ⟨b, 0, none⟩ a).heap[b]? = some (.cells #[a, y, z] t (0, 0)) ∧ ((w.setCell ⟨b, 0, none⟩ a).setCell ⟨b, 1, none⟩ c).heap[b]? = some (.cells #[a, c, z] t (0, 0)) ∧ (((w.setCell ⟨b, 0, none⟩ a).setCell ⟨b, 1, none⟩ c).setCell ⟨b, 2, none⟩ d).heap[b]? = some (.cells #[a, c, d] t (0, 0)) := by
  have h1 : (w.setCell ⟨b, 0, none⟩ a).heap[b]? = some (.cells #[a, y, z] t (0, 0)) := by
    simp only [World.setCell, Array.getElem?_modify, if_true, h]; rfl
  have h2 : ((w.setCell ⟨b, 0, none⟩ a).setCell ⟨b, 1, none⟩ c).heap[b]? = some (.cells #[a, c, z] t (0, 0)) := by
    generalize w.setCell ⟨b, 0, none⟩ a = w1 at h1 ⊢
    simp only [World.setCell, Array.getElem?_modify, if_true, h1]; rfl
  refine ⟨h1, h2, ?_⟩
  generalize (w.setCell ⟨b, 0, none⟩ a).setCell ⟨b, 1, none⟩ c = w2 at h2 ⊢
  simp only [World.setCell, Array.getElem?_modify, if_true, h2]; rfl
theorem frozen_row {w : World} {b i : Nat} {cs : Array Value} {t : TypeId} (h : w.heap[b]? = some (.cells cs t (0, 0))) : w.frozen? ⟨b, i, none⟩ = false := by simp [World.frozen?, h]
/-- How look ends: rows of the neighbours. -/
def LkEnd (g : Bs) (u : List Md) (wv : Value) (w : World) (e : Ending) (w' : World) : Prop := ∃ g1 g2, e = .returned (.agg #[wv, .slice (some ⟨g1, 0, none⟩) u.length u.length, .slice (some ⟨g2, 0, none⟩) u.length u.length]) ∧ Below w.heap.size w w' ∧ RowI w' g1 (lfL g u u.length) ∧ RowI w' g2 (rgL g u u.length) ∧ w.heap.size ≤ g1 ∧ w.heap.size ≤ g2
set_option maxRecDepth 100000 in
set_option maxHeartbeats 1600000 in
theorem look_any (v : Value) (u : List Md) (h0 : chk u = 0) (s : ByteArray) (w : World) (hv : Mods w v u) :
    Calls Try.prog 29 #[v, .string s] w (LkEnd (lA s) u v w) := by
  obtain ⟨p, cap, rfl⟩ := hv.slice
  have HV := Lib.hid hv
  have hz := chk_zero.1 h0
  have K1 := Lib.hid (fun w h => lefts_any (.slice p u.length cap) u hz.1 hz.2.2.1 s w h)
  have K2 := Lib.hid (fun w h => rights_any (.slice p u.length cap) u hz.1 hz.2.2.1 hz.2.2.2 s w h)
  unfold NbEnd at K1 K2
  rw [lfL_length] at K1
  rw [rgL_length] at K2
  obtain ⟨W0, hW0⟩ : ∃ W, W = w.alloc (.cells #[.slice none 0 0, .slice none 0 0, .slice none 0 0] 61) := ⟨_, rfl⟩
  have N0 : W0.heap[w.heap.size]? = some (.cells #[.slice none 0 0, .slice none 0 0, .slice none 0 0] 61 (0, 0)) := by rw [hW0]; exact heap_alloc_new _ _
  have B0 : Hid (Below w.heap.size w W0) := Lib.hid (by rw [hW0]; exact (Below.refl _ _).alloc (Nat.le_refl _) _)
  have l0 := lt_of_block N0
  have HN := Lib.hid N0
  clear hv hz h0 N0
  generalize lA s = g at K1 K2 ⊢
  go_enter Try.func29, Try.ntmps29
  go_wp2_with fail
  rw [← hW0]
  clear hW0
  refine (K1.out _ (HV.out.later B0.out)).mono ?_
  rintro e w1 ⟨g1, rfl, hb, hr1, hg1⟩
  have B1 := Lib.hid hb
  have R1 := Lib.hid hr1
  have z1 := hb.size
  clear hb hr1
  go_wp2_with fail
  refine (K2.out _ (HV.out.later (B0.out.trans (B1.out.mono B0.out.size)))).mono ?_
  rintro e w2 ⟨g2, rfl, hb, hr2, hg2⟩
  have B2 := Lib.hid (B1.out.trans (hb.mono B1.out.size))
  have N2 := (B2.out.block _ l0).trans HN.out
  have HE : Hid (∀ x y z, LkEnd g u (.slice p u.length cap) w (.returned (.agg #[.slice p u.length cap, .slice (some ⟨g1, 0, none⟩) u.length u.length, .slice (some ⟨g2, 0, none⟩) u.length u.length])) (((w2.setCell ⟨w.heap.size, 0, none⟩ x).setCell ⟨w.heap.size, 1, none⟩ y).setCell ⟨w.heap.size, 2, none⟩ z)) := Lib.hid (fun x y z => by
    have n1 : g1 ≠ w.heap.size := by omega
    have n2 : g2 ≠ w.heap.size := by omega
    exact ⟨g1, g2, rfl, (((B0.out.trans (B2.out.mono B0.out.size)).setCell (Nat.le_refl _) _).setCell (Nat.le_refl _) _).setCell (Nat.le_refl _) _, (((R1.out.later hb).other n1 _).other n1 _).other n1 _, ((hr2.other n2 _).other n2 _).other n2 _, by omega, by omega⟩)
  obtain ⟨t1, t2, t3⟩ := three_set N2 (.slice p u.length cap) (.slice (some ⟨g1, 0, none⟩) u.length u.length) (.slice (some ⟨g2, 0, none⟩) u.length u.length)
  have c0 : w2.cell? ⟨w.heap.size, 0, none⟩ = some (.slice none 0 0) := by simp [World.cell?, N2]
  have f0 := frozen_row (i := 0) N2
  have c1 : (w2.setCell ⟨w.heap.size, 0, none⟩ (.slice p u.length cap)).cell? ⟨w.heap.size, 1, none⟩ = some (.slice none 0 0) := by simp only [World.cell?, t1]; rfl
  have f1 := frozen_row (i := 1) t1
  have c2 : ((w2.setCell ⟨w.heap.size, 0, none⟩ (.slice p u.length cap)).setCell ⟨w.heap.size, 1, none⟩ (.slice (some ⟨g1, 0, none⟩) u.length u.length)).cell? ⟨w.heap.size, 2, none⟩ = some (.slice none 0 0) := by simp only [World.cell?, t2]; rfl
  have f2 := frozen_row (i := 2) t2
  have HT3 := Lib.hid t3
  clear hb hr2 t1 t2 t3 N2
  go_wp2_with fail
  have HF := HE.out (.slice p u.length cap) (.slice (some ⟨g1, 0, none⟩) u.length u.length) (.slice (some ⟨g2, 0, none⟩) u.length u.length)
  have t3 := HT3.out
  generalize ((w2.setCell ⟨w.heap.size, 0, none⟩ (.slice p u.length cap)).setCell ⟨w.heap.size, 1, none⟩ (.slice (some ⟨g1, 0, none⟩) u.length u.length)).setCell ⟨w.heap.size, 2, none⟩ (.slice (some ⟨g2, 0, none⟩) u.length u.length) = W3 at HF t3 ⊢
  have d0 : W3.cell? ⟨w.heap.size, 0, none⟩ = some (.slice p u.length cap) := by simp [World.cell?, t3]
  have d1 : W3.cell? ⟨w.heap.size, 1, none⟩ = some (.slice (some ⟨g1, 0, none⟩) u.length u.length) := by simp [World.cell?, t3]
  have d2 : W3.cell? ⟨w.heap.size, 2, none⟩ = some (.slice (some ⟨g2, 0, none⟩) u.length u.length) := by simp [World.cell?, t3]
  exact bodyPost_ret (v := .agg #[.slice p u.length cap, .slice (some ⟨g1, 0, none⟩) u.length u.length, .slice (some ⟨g2, 0, none⟩) u.length u.length]) (by simp [results, Try.results29, go_sem, d0, d1, d2] <;> rfl) rfl HF
set_option maxRecDepth 100000 in
set_option maxHeartbeats 1600000 in
theorem phas_any (v : Value) (p1 : Option Addr) (n1 c1 : Nat) (p2 : Option Addr) (n2 c2 : Nat) (u : List Md) (hu : u.length ≤ 50000) (k : Int) (hk : -1 ≤ k ∧ k < u.length) (c : UInt8) (w : World) (hv : Mods w v u) :
    Calls Try.prog 51 #[.agg #[v, .slice p1 n1 c1, .slice p2 n2 c2], .int .i64 k, .int .u8 c.toNat] w fun e w' => e = .returned (.bool (nbB u k c)) ∧ Below w.heap.size w w' := by
  obtain ⟨p, cap, rfl⟩ := hv.slice
  obtain ⟨W0, hW0⟩ : ∃ W, W = w.alloc (.cells #[.slice p u.length cap, .slice p1 n1 c1, .slice p2 n2 c2] 61) := ⟨_, rfl⟩
  have N0 : W0.heap[w.heap.size]? = some (.cells #[.slice p u.length cap, .slice p1 n1 c1, .slice p2 n2 c2] 61 (0, 0)) := by rw [hW0]; exact heap_alloc_new _ _
  have B0 : Below w.heap.size w W0 := by rw [hW0]; exact (Below.refl _ _).alloc (Nat.le_refl _) _
  have HB := Lib.hid B0
  have HV := Lib.hid (hv.later B0)
  have q0 : W0.cell? ⟨w.heap.size, 0, none⟩ = some (.slice p u.length cap) := by simp [World.cell?, N0]
  clear hv N0 B0
  by_cases hc : c = 0
  · have t0 : ((c.toNat : Int) == 0) = true := by rw [hc]; rfl
    have HF : Hid (nbB u k c = true) := Lib.hid (nb_any hc)
    generalize nbB u k c = nb at HF ⊢
    generalize c.toNat = cn at t0 ⊢
    clear hc
    go_enter Try.func51, Try.ntmps51
    go_wp2_with fail
    rw [← hW0]
    clear hW0
    go_wp2_with fail
    go_ret
    exact ⟨ret_bool HF.out.symm, HB.out⟩
  · have t0 := u8_zf hc
    by_cases hk0 : k < 0
    · have HF : Hid (nbB u k c = false) := Lib.hid (nb_none hc hk0)
      generalize nbB u k c = nb at HF ⊢
      generalize c.toNat = cn at t0 ⊢
      clear hc
      go_enter Try.func51, Try.ntmps51
      go_wp2_with fail
      rw [← hW0]
      clear hW0
      go_wp2_with fail
      go_ret
      exact ⟨ret_bool HF.out.symm, HB.out⟩
    · obtain ⟨n, rfl⟩ : ∃ n : Nat, k = (n : Int) := ⟨k.toNat, by omega⟩
      have hlt : n < u.length := by omega
      have hn0 : (0 : Int) ≤ (n : Int) := by omega
      obtain ⟨b, off, cap', q, d, hp, e1, _, _, lb⟩ := HV.out.at hlt
      obtain rfl : p = some ⟨b, off, none⟩ := by cases hp; rfl
      have HF : Hid (nbB u (n : Int) c = ((u[n].c.toNat : Int) == (c.toNat : Int))) := Lib.hid (by rw [nb_at hc, md_get hlt, u8_eq])
      generalize nbB u (n : Int) c = nb at HF ⊢
      generalize c.toNat = cn at t0 HF ⊢
      generalize u[n].c.toNat = x at e1 HF
      clear hc hp
      have k1 : (n : Int) < (u.length : Int) := by omega
      subst hW0
      cases t1 : ((x : Int) == (cn : Int)) with
      | true =>
        rw [t1] at HF
        go_enter Try.func51, Try.ntmps51
        go_wp2_with fail
        go_ret
        exact ⟨ret_bool HF.out.symm, HB.out⟩
      | false =>
        rw [t1] at HF
        go_enter Try.func51, Try.ntmps51
        go_wp2_with fail
        go_ret
        exact ⟨ret_bool HF.out.symm, HB.out⟩
/-! ### fits, successor -/
def askR (r : Rw) : Rw := { r with l := 0, r := 0, wt := 0, out := [] }
def repR (r : Rw) : Rw := { r with l := 0, r := 0, wt := 0, gs := [] }
theorem rule_parts {r : Rw} : ruleB r = true ↔ letB r.c = true ∧ braB r.c = false ∧ 0 ≤ r.ar ∧ r.ar ≤ 4 ∧ r.gs.all (formB · r.ar) = true ∧ r.out.all (shB · r.ar) = true ∧ chk (r.out.map shM) = 0 := by
  unfold ruleB
  simp only [Bool.and_eq_true, decide_eq_true_eq, Bool.not_eq_true']
  constructor
  · rintro ⟨⟨⟨⟨⟨⟨a, b⟩, c⟩, d⟩, e⟩, f⟩, g⟩; exact ⟨a, b, c, d, e, f, g⟩
  · rintro ⟨a, b, c, d, e, f, g⟩; exact ⟨⟨⟨⟨⟨⟨a, b⟩, c⟩, d⟩, e⟩, f⟩, g⟩
theorem ask_rchk {r : Rw} (h : ruleB r = true) (hg : r.gs.length ≤ 4) : rchk [askR r] = 0 := by
  refine rchk_ok (many_not (by simp) fun k hk => ?_) fun k hk => ?_
  · have hk0 : k = 0 := by simpa using hk
    subst hk0
    simp only [List.getElem_cons_zero, askR]
    simp; omega
  · have hk0 : k = 0 := by simpa using hk
    subst hk0
    simp only [List.getElem_cons_zero]
    obtain ⟨a, b, c, d, e, f, i⟩ := rule_parts.1 h
    exact ⟨rule_parts.2 ⟨a, b, c, d, e, by simp [askR], by show chk [] = 0; decide⟩, plain_ok rfl rfl rfl⟩
theorem rep_rchk {r : Rw} (h : ruleB r = true) (hg : r.out.length ≤ 20) : rchk [repR r] = 0 := by
  refine rchk_ok (many_not (by simp) fun k hk => ?_) fun k hk => ?_
  · have hk0 : k = 0 := by simpa using hk
    subst hk0
    simp only [List.getElem_cons_zero, repR]
    simp; omega
  · have hk0 : k = 0 := by simpa using hk
    subst hk0
    simp only [List.getElem_cons_zero]
    obtain ⟨a, b, c, d, e, f, i⟩ := rule_parts.1 h
    exact ⟨rule_parts.2 ⟨a, b, c, d, by simp [repR], f, i⟩, plain_ok rfl rfl rfl⟩
theorem ask_fin {r : Rw} {m : Md} (h : ruleB r = true) (hg : r.gs.length ≤ 4) (hm : fineB m = true) : finC [askR r] m = 0 ∧ finV [askR r] m = if fitB r m = true then 0 else -1 := by
  obtain ⟨h1, h2⟩ := fin_ok (ask_rchk h hg) hm
  exact ⟨h1, by rw [h2]; rfl⟩
theorem chk_single {m : Md} (hm : fineB m = true) (hp : plnB m.c = true) : chk [m] = 0 := by
  obtain ⟨n1, n2⟩ := pln_no hp
  have hd : dlt m = 0 := by unfold dlt; rw [if_neg n1, if_neg n2]
  refine chk_zero.2 ⟨by simp, by simpa using hm, okB_iff.2 fun i hi => ?_, by rw [dep_cons, dep_nil]; omega⟩
  have hi0 : i = 0 := by simpa using hi
  subst hi0
  simp [dep_cons, dep_nil, hd]
theorem rep_st {r : Rw} {m : Md} (h : ruleB r = true) (hg : r.out.length ≤ 20) (hm : fineB m = true) (hf : fitB r m = true) :
    (made r m = none → stC [repR r] [m] = 16 ∧ stL [repR r] [m] = []) ∧ (∀ d, made r m = some d → stC [repR r] [m] = 0 ∧ stL [repR r] [m] = d) := by
  have hc := rep_rchk h hg
  have hp : plnB m.c = true := by rw [← CM.fit_name hf]; exact CM.rule_pln h
  have hk := chk_single hm hp
  have hff : fitB (repR r) m = true := by
    unfold fitB at hf ⊢
    simp only [Bool.and_eq_true] at hf
    simp only [repR, Bool.and_eq_true]
    exact ⟨hf.1, by simp⟩
  have e : stepL [repR r] [m] = made r m := by
    rw [stepL_one]
    have : first [repR r] m = 0 := by unfold first firstF; rw [if_pos hff]
    unfold succM
    rw [dif_pos (by omega), this]
    rfl
  exact ⟨fun hn => st_none hc hk (e.trans hn), fun d hd => st_ok hc hk (e.trans hd) (by have := made_len hd; omega)⟩
end Go.Proofs.Ytcoljbcjnggagaa
