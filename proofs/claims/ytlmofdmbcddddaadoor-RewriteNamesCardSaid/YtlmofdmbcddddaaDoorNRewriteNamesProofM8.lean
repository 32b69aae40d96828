/-
  Texts of the proof, merged: NRewPrJ, NRewRefG, NRewRefS, NRewRefU, NRewStM.
-/
import Derived.Test.YtlmofdmbcddddaaDoorNRewriteNamesProofM7
import Derived.Maps.OwnIn
import Derived.Test.YtlmofdmbcddddaaDoorNRewriteNamesProofM5
import Derived.Deep.RegionHeld3
namespace Go.Proofs.YtlmofdmbcddddaaDoor
open Go.RowKit Go.Shelf
open WM RM
set_option linter.unusedVariables false
set_option linter.unusedSimpArgs false
attribute [local go_sem] Oper.semAt_some

theorem successors_any (v1 v2 : Value) (w : World) (p1 : Option Addr) (n1 c1 : Nat) (p2 : Option Addr) (n2 c2 : Nat) (h1 : v1 = .slice p1 n1 c1) (h2 : v2 = .slice p2 n2 c2) :
    Calls Tryd.prog 29 #[v1, v2] w fun e w' => e = .returned (.func (.func 34) #[] #[.pointer (some ⟨w.heap.size + 1, 0, none⟩), .pointer (some ⟨w.heap.size, 0, none⟩)]) ∧ w' = (w.alloc (.cells #[v1] 26)).alloc (.cells #[v2] 41) := by
  subst h1 h2
  go_enter Tryd.func29, Tryd.ntmps29
  go_wp2_with fail
  go_ret
  exact ⟨by simp, rfl⟩
/-! ### What a word in memory keeps -/
theorem own_turn {W W' : World} {row : Option Nat} {base n size : Nat} {e : TypeId} {v : Value} {xs : List Value} (h : W.ownsRow base e size v n xs) (hg : W.grownBy W' row) (hr : ∀ j, row = some j → ∃ o : Obj, W.heap[j]? = some o ∧ o.isCells = false) : W'.ownsRow base e size v n xs := by
  refine h.kept hg ?_
  rcases h.2 with ⟨rfl, _⟩ | ⟨g, cap, cur, rfl, _, hgb, _⟩
  · exact .inl rfl
  · refine .inr fun e' => ?_
    obtain ⟨o, ho, hc⟩ := hr g (by simpa [Value.ownBlock] using e'.symm)
    rw [hgb] at ho; cases ho; cases hc
theorem mod_turn {W W' : World} {row : Option Nat} {base : Nat} {v : Value} {l : List Md} {vs : List Value} (h : ModFr W base v l vs) (hg : W.grownBy W' row) (hr : ∀ j, row = some j → ∃ o : Obj, W.heap[j]? = some o ∧ o.isCells = false) : ModFr W' base v l vs :=
  ⟨h.len, own_turn h.row hg hr, fun k hk hk2 => ⟨own_turn (h.args k hk hk2).own hg hr, (h.args k hk hk2).apart⟩⟩
theorem typ_apart {w : World} {b1 b2 n1 n2 s1 s2 : Nat} {e1 e2 : TypeId} {v1 v2 : Value} {x1 x2 : List Value} (h1 : w.ownsRow b1 e1 s1 v1 n1 x1) (h2 : w.ownsRow b2 e2 s2 v2 n2 x2) (ne : e1 ≠ e2) : v1 = .slice none 0 0 ∨ v1.ownBlock ≠ v2.ownBlock := by
  rcases h1.2 with ⟨rfl, _⟩ | ⟨g, cap, cur, rfl, _, hg, _⟩
  · exact .inl rfl
  · right
    rcases h2.2 with ⟨rfl, _⟩ | ⟨g2, cap2, cur2, rfl, _, hg2, _⟩
    · simp [Value.ownBlock]
    · intro e
      obtain rfl : g = g2 := by simpa [Value.ownBlock] using e
      rw [hg] at hg2
      cases hg2; exact ne rfl
theorem int_ne_mod : 3 ≠ 25 := by decide
theorem mods_ne_mod : 41 ≠ 25 := by decide
theorem mods_ne_int : 41 ≠ 3 := by decide
theorem err_ne_int : 36 ≠ 3 := by decide
theorem err_ne_mod : 36 ≠ 25 := by decide
/-- A word made longer by one module, whose args lie anywhere. -/
theorem mod_push {base : Nat} {X1 X4 : World} {l : List Md} {m : Md} {v v' v2 : Value} {vs : List Value} (h : ModFr X1 base v l vs) (ha : X1.ownsRow base 3 1 v' m.a.length (valsL m.a))
    (o4 : X4.ownsRow base 25 2 v2 (l.length + 1) (modC l vs ++ [.int .u8 m.c.toNat, v'])) (g4 : X1.grownBy X4 v.ownBlock) : ModFr X4 base v2 (l ++ [m]) (vs ++ [v']) := by
  have keep : ∀ {u : Value} {a : List Int}, X1.ownsRow base 3 1 u a.length (valsL a) → ArgFr X4 base v2.ownBlock u a := fun {u a} hu => by
    have hk := hu.kept g4 (by rcases typ_apart hu h.row int_ne_mod with e | e; · left; rw [e]; rfl
                              · exact .inr e)
    exact ⟨hk, typ_apart hk o4 int_ne_mod⟩
  refine ⟨by rw [List.length_append, List.length_append, h.len]; rfl, by rw [List.length_append, modC_snoc _ _ _ _ h.len.symm]; exact o4, ?_⟩
  intro k hk hk2
  rw [List.length_append, List.length_singleton] at hk
  rcases Nat.lt_or_eq_of_le (Nat.le_of_lt_succ hk) with hlt | heq
  · have hk3 : k < vs.length := by rw [h.len]; exact hlt
    rw [List.getElem_append_left hlt, List.getElem_append_left hk3]
    exact keep (h.args k hlt hk3).own
  · subst heq
    have a1 : (vs ++ [v'])[l.length]'hk2 = v' := by rw [List.getElem_append_right (by rw [h.len]; exact Nat.le_refl _)]; simp
    have a2 : (l ++ [m])[l.length]'(by simp) = m := by simp
    rw [a1, a2]
    exact keep ha
theorem own_box {w : World} {B base n size : Nat} {t e : TypeId} {u v : Value} {xs : List Value} (h : w.ownsRow base e size v n xs) (hb : Boxed w B t u) (hte : t ≠ e) (u' : Value) : (w.setCell ⟨B, 0, none⟩ u').ownsRow base e size v n xs :=
  h.kept (grownBy_setCell' w B u') (.inr (hb.not_row hte h).symm)
theorem mod_box {w : World} {B base : Nat} {u v : Value} {l : List Md} {vs : List Value} (h : ModFr w base v l vs) (hb : Boxed w B 41 u) (u' : Value) : ModFr (w.setCell ⟨B, 0, none⟩ u') base v l vs :=
  ⟨h.len, own_box h.row hb mods_ne_mod u', fun k hk hk2 => ⟨own_box (h.args k hk hk2).own hb mods_ne_int u', (h.args k hk hk2).apart⟩⟩
theorem own_raise {w : World} {b N n size : Nat} {e : TypeId} {v : Value} {xs : List Value} (h : w.ownsRow b e size v n xs) (hg : ∀ g, v.ownBlock = some g → N ≤ g) : w.ownsRow N e size v n xs := by
  refine ⟨h.1, ?_⟩
  rcases h.2 with h | ⟨g, cap, cur, rfl, _, r⟩
  · exact .inl h
  · exact .inr ⟨g, cap, cur, rfl, hg g rfl, r⟩
/-- What step holds between two rounds. -/
structure StI (w : World) (b0 : Nat) (r : Option Nat) (pre : List Yx) (W : World) : Prop where
  own : ∃ v d vs, Boxed W (w.heap.size + 1 + 1) 41 v ∧ v.ownBlock = r ∧ pre.map Yx.o = d.map some ∧ ModFr W b0 v d vs ∧ (∀ g, r = some g → w.heap.size ≤ g)
  r1 : Boxed W w.heap.size 41 (.slice none 0 0)
  r2 : Boxed W (w.heap.size + 1) 36 (.int .i64 0)
  below : Below w.heap.size w W
structure StX (w : World) (pre : List Yx) (W : World) : Prop where
  bad : none ∈ pre.map Yx.o
  r1 : Boxed W w.heap.size 41 (.slice none 0 0)
  r2 : Boxed W (w.heap.size + 1) 36 (.int .i64 16)
  below : Below w.heap.size w W
theorem box_turn {W W' : World} {row : Option Nat} {B : Nat} {t : TypeId} {v : Value} (h : Boxed W B t v) (hg : W.grownBy W' row) (hr : ∀ j, row = some j → ∃ o : Obj, W.heap[j]? = some o ∧ o.isCells = false) : Boxed W' B t v :=
  h.kept hg fun e => by
    obtain ⟨o, ho, hc⟩ := hr B e.symm
    rw [show W.heap[B]? = _ from h] at ho; cases ho; cases hc
theorem stI_own (w : World) (b0 N : Nat) (hN : w.heap.size ≤ N) : OwnFrom N (fun (s : Option Nat × List Yx) => StI w b0 s.1 s.2) := by
  rintro ⟨r, pre⟩ W W' row ⟨⟨v, d, vs, h1, h2, h3, h4, h5⟩, h6, h7, h8⟩ hg hr
  have hr2 : ∀ j, row = some j → ∃ o : Obj, W.heap[j]? = some o ∧ o.isCells = false := fun j e => (hr j e).2
  exact ⟨⟨v, d, vs, box_turn h1 hg hr2, h2, h3, mod_turn h4 hg hr2, h5⟩, box_turn h6 hg hr2, box_turn h7 hg hr2, h8.grown hg h8.size (fun j e => Nat.le_trans hN (hr j e).1)⟩
theorem stX_own (w : World) (N : Nat) (hN : w.heap.size ≤ N) : OwnFrom N (StX w) := by
  rintro pre W W' row ⟨h1, h6, h7, h8⟩ hg hr
  have hr2 : ∀ j, row = some j → ∃ o : Obj, W.heap[j]? = some o ∧ o.isCells = false := fun j e => (hr j e).2
  exact ⟨h1, box_turn h6 hg hr2, box_turn h7 hg hr2, h8.grown hg h8.size (fun j e => Nat.le_trans hN (hr j e).1)⟩
theorem at_own (b0 N : Nat) : OwnFrom N (fun (x : Yx) W => x.at b0 W) := by
  rintro x W W' row h hg hr
  have hr2 : ∀ j, row = some j → ∃ o : Obj, W.heap[j]? = some o ∧ o.isCells = false := fun j e => (hr j e).2
  unfold Yx.at at h ⊢
  split
  · rename_i m hm
    rw [hm] at h
    exact own_turn h hg hr2
  · rename_i hm
    rw [hm] at h
    exact h
theorem stI_row {w : World} {b0 : Nat} {r : Option Nat} {pre : List Yx} {W : World} (h : StI w b0 r pre W) : ∀ g, r = some g → g < W.heap.size := by
  obtain ⟨v, d, vs, _, h2, _, h4, _⟩ := h.own
  intro g e
  exact (owns_lt h4.row g (h2.trans e)).2
/-- step's error and word. -/
def spC (l : List Rw) (u : List Md) : Int := match stepL l u with | none => 16 | some d => if 2000 < d.length then 4 else 0
def spL (l : List Rw) (u : List Md) : List Md := match stepL l u with | none => [] | some d => if 2000 < d.length then [] else d
def SpEnd (l : List Rw) (u : List Md) (b0 : Nat) (w : World) (e : Ending) (w' : World) : Prop := ∃ v vs, e = .returned (.tuple #[v, .int .i64 (spC l u)]) ∧ Below w.heap.size w w' ∧ ModFr w' b0 v (spL l u) vs
set_option maxRecDepth 100000 in
set_option maxHeartbeats 6400000 in
theorem pstep_any (p : Option Addr) (cap : Nat) (l : List Rw) (hl : l.length ≤ 9223372036854775807) (hs : ∀ r ∈ l, RwSm r) (hru : ∀ r ∈ l, ruleB r = true) (hro : ∀ r ∈ l, r.out.length ≤ 20)
    (wv : Value) (u : List Md) (us : List Value) (hu : u.length ≤ 2000) (huf : ∀ m ∈ u, fineB m = true) (b0 : Nat) (w : World) (hb0 : b0 ≤ w.heap.size) (h1 : Rws w (.slice p l.length cap) l) (h2 : ModFr w b0 wv u us) :
    Calls Tryd.prog 19 #[.slice p l.length cap, wv] w (SpEnd l u b0 w) := by
  have HN := Lib.hid (seqO_len hro u)
  have HSeq := Lib.hid (allO_seq l u)
  obtain ⟨pw, cw, rfl⟩ := fr_slice h2.row
  have HIt := Lib.hid (fun (n lp BR BW B : Nat) J Jx BB hJ hJr hY W hW hbr hbw hBR hBl h0 => succ1_in n lp BR BW B b0 w p cap l hl hs hru (.slice pw u.length cw) u us (by omega) huf hb0 h1 h2 J Jx BB hJ hJr hY W hW hbr hbw hBR hBl h0)
  have KS := Lib.hid (fun w => successors_any (.slice p l.length cap) (.slice pw u.length cw) w _ _ _ _ _ _ rfl rfl)
  clear hs hru huf h1 h2 hro
  refine (callsIn_wide (n := 8)).1 ?_
  refine callsIn_of_wp_marks Tryd.func19 rfl trivial ?_ rfl
  simp only [Tryd.ntmps19, List.size_toArray, List.length_cons, List.length_nil, Nat.reduceAdd, Nat.reduceSub, Array.replicate_succ, Array.replicate_zero, List.push_toArray, List.append_toArray, List.nil_append, List.cons_append]
  gi_wp2_with fail
  refine ⟨trivial, ?_⟩
  refine (callsIn_wide.2 (KS.out _)).mono ?_
  rintro e ws ⟨rfl, rfl⟩
  gi_wp2_with fail
  obtain ⟨W0, hW0⟩ : ∃ W, W = (((((w.alloc (.cells #[.slice none 0 0] 41)).alloc (.cells #[.int .i64 0] 36)).alloc (.cells #[.slice none 0 0] 41)).alloc (.cells #[.slice p l.length cap] 26)).alloc (.cells #[.slice pw u.length cw] 41)) := ⟨_, rfl⟩
  have hsz : W0.heap.size = w.heap.size + 1 + 1 + 1 + 1 + 1 := by rw [hW0]; simp
  have HB0 : Hid (Below w.heap.size w W0) := Lib.hid (by rw [hW0]; exact (((((Below.refl _ _).alloc (Nat.le_refl _) _).alloc (by simp) _).alloc (by simp; omega) _).alloc (by simp; omega) _).alloc (by simp; omega) _)
  have HR1 : Hid (Boxed W0 w.heap.size 41 (.slice none 0 0)) := Lib.hid (by rw [hW0]; exact ((((Boxed.new w 41 (.slice none 0 0)).alloc _).alloc _).alloc _).alloc _)
  have HR2 : Hid (Boxed W0 (w.heap.size + 1) 36 (.int .i64 0)) := Lib.hid (by
    rw [hW0]
    have := Boxed.new (w.alloc (.cells #[.slice none 0 0] 41)) 36 (.int .i64 0)
    rw [World.size_alloc] at this
    exact ((this.alloc _).alloc _).alloc _)
  have HNx : Hid (Boxed W0 (w.heap.size + 1 + 1) 41 (.slice none 0 0)) := Lib.hid (by
    rw [hW0]
    have := Boxed.new ((w.alloc (.cells #[.slice none 0 0] 41)).alloc (.cells #[.int .i64 0] 36)) 41 (.slice none 0 0)
    rw [World.size_alloc, World.size_alloc] at this
    exact (this.alloc _).alloc _)
  have HBR : Hid (Boxed W0 (w.heap.size + 1 + 1 + 1) 26 (.slice p l.length cap)) := Lib.hid (by
    rw [hW0]
    have := Boxed.new (((w.alloc (.cells #[.slice none 0 0] 41)).alloc (.cells #[.int .i64 0] 36)).alloc (.cells #[.slice none 0 0] 41)) 26 (.slice p l.length cap)
    rw [World.size_alloc, World.size_alloc, World.size_alloc] at this
    exact this.alloc _)
  have HBW : Hid (Boxed W0 (w.heap.size + 1 + 1 + 1 + 1) 41 (.slice pw u.length cw)) := Lib.hid (by
    rw [hW0]
    have := Boxed.new ((((w.alloc (.cells #[.slice none 0 0] 41)).alloc (.cells #[.int .i64 0] 36)).alloc (.cells #[.slice none 0 0] 41)).alloc (.cells #[.slice p l.length cap] 26)) 41 (.slice pw u.length cw)
    rw [World.size_alloc, World.size_alloc, World.size_alloc, World.size_alloc] at this
    exact this)
  have HT : Hid (Tells Fence.wide (8 - 1) Tryd.prog 34 #[.pointer (some ⟨w.heap.size + 1 + 1 + 1 + 1, 0, none⟩), .pointer (some ⟨w.heap.size + 1 + 1 + 1, 0, none⟩)] yV w.heap.size (w.heap.size + 1 + 1) (fun x W => x.at b0 W) (fun xs => xs.map Yx.o = seqO l u) (fun pre => pre.map Yx.o <+: seqO l u) (seqO l u).length W0) :=
    Lib.hid (fun lp J Jx W hW hJ hJx hJr hY h0 => HIt.out 7 lp (w.heap.size + 1 + 1 + 1) (w.heap.size + 1 + 1 + 1 + 1) (w.heap.size + 1 + 1) J Jx _ hJ hJr hY W (HB0.out.trans (hW.mono HB0.out.size)) ((hW.block _ HBR.out.lt).trans HBR.out) ((hW.cell (p := ⟨w.heap.size + 1 + 1 + 1 + 1, 0, none⟩) HBW.out.lt).trans HBW.out.cell) (by omega) (Nat.lt_of_lt_of_le HNx.out.lt hW.size) h0)
  rw [← hW0]
  clear hW0
  obtain ⟨j0, hj, hy0, hy1, hy2⟩ := info_parts info_mod
  have HM : Hid (maxLen = 9223372036854775807) := Lib.hid rfl
  have HJ := Lib.hid hj
  have HY0 := Lib.hid hy0
  have HY1 := Lib.hid hy1
  have HY2 := Lib.hid hy2
  clear hj hy0 hy1 hy2
  have hwz := HB0.out.size
  refine range_tells rfl (by omega) (gf := 34) (lb := #[.pointer (some ⟨w.heap.size + 1 + 1 + 1 + 1, 0, none⟩), .pointer (some ⟨w.heap.size + 1 + 1 + 1, 0, none⟩)]) rfl trivial (enters_of Tryd.func34 (by kernel_rfl) rfl) HT.out hwz (Below.refl _ _) (fun _ => rfl)
    (StI w b0) (StX w) (fun r pre W1 h => stI_row h) (stI_own w b0 _ hwz) (stX_own w _ hwz) (at_own b0 _)
    ⟨⟨.slice none 0 0, [], [], HNx.out, rfl, rfl, modFr_nil _ _, fun g e => by cases e⟩, HR1.out, HR2.out, HB0.out⟩
    (fun x => .cells #[.int .u8 x.cn, x.v] 25 (0, 0))
    (fun x mb => { tmps := #[.slice p l.length cap, .slice pw u.length cw, undef, undef, .pointer (some ⟨w.heap.size, 0, none⟩), .pointer (some ⟨w.heap.size + 1, 0, none⟩), .pointer (some ⟨w.heap.size + 1 + 1, 0, none⟩), .pointer (some ⟨mb, 0, none⟩), .int .i64 x.er, .slice p l.length cap, .slice pw u.length cw,
      .func (.func 34) #[] #[.pointer (some ⟨w.heap.size + 1 + 1 + 1 + 1, 0, none⟩), .pointer (some ⟨w.heap.size + 1 + 1 + 1, 0, none⟩)], .agg #[.int .u8 x.cn, x.v], .int .i64 x.er, undef, undef, undef, undef, undef, undef, undef, undef, undef, undef, undef], defers := [] }) ?assign ?body ?done ?stop
  case assign =>
    rintro lp ⟨o, px, nx, cx⟩ W K hK
    dsimp only [yV]
    gi_wp2
    exact hK
  case body =>
    rintro lp r pre ⟨o, px, nx, cx⟩ mb W hI hQ hm hmr hml hlen
    have HI := Lib.hid hI
    have HQ := Lib.hid hQ
    have HMb := Lib.hid hm
    have hge := hI.below.size
    cases o with
    | none =>
      have c1 := hI.r1.cell
      have f1 := hI.r1.frozen
      have l1 := hI.r1.lt
      have c2 := hI.r2.cell
      have f2 := hI.r2.frozen
      have l2 := hI.r2.lt
      clear hI hQ hm
      dsimp only [Yx.er, Yx.cn]
      gi_wp2_with fail
      have h := HI.out
      refine ⟨((KeepsOthers.setCell _ _ _).trans (KeepsOthers.setCell _ _ _)).from _, ⟨by simp, ?_, ?_, ?_⟩⟩
      · exact (h.r1.set _).kept (grownBy_setCell' _ _ _) (by simp <;> omega)
      · exact (h.r2.kept (grownBy_setCell' _ _ _) (by simp)).set _
      · exact (h.below.setCell (p := ⟨w.heap.size, 0, none⟩) (Nat.le_refl _) _).setCell (p := ⟨w.heap.size + 1, 0, none⟩) (Nat.le_succ _) _
    | some m =>
      obtain ⟨vv, d, vs, hbx, hvr, hpre, hmf, hrg⟩ := hI.own
      have hqo : W.ownsRow b0 3 1 (.slice px nx cx) m.a.length (valsL m.a) := hQ
      have HQo := Lib.hid hqo
      have HMF := Lib.hid hmf
      have HBx := Lib.hid hbx
      have HVr := Lib.hid hvr
      have HPre := Lib.hid hpre
      have hrow : W.ownsRow w.heap.size 25 2 vv d.length (modC d vs) := own_raise hmf.row (by rw [hvr]; exact hrg)
      have HRow := Lib.hid hrow
      have hdl : d.length < 40000 := by
        have h1 := congrArg List.length hpre
        rw [List.length_map, List.length_map] at h1
        have := HN.out
        omega
      have hc := hbx.cell
      have hf := hbx.frozen
      have hlx := hbx.lt
      have m0 : W.cell? ⟨mb, 0, none⟩ = some (.int .u8 m.c.toNat) := cell_two0 hm
      have m1 : W.cell? ⟨mb, 1, none⟩ = some (.slice px nx cx) := cell_two1 hm
      have lm := lt_of_block hm
      obtain ⟨pvv, cvv, hvv⟩ := fr_slice hmf.row
      subst hvv
      clear hI hQ hm hqo hmf hbx hvr hpre hrg hrow
      dsimp only [Yx.er, Yx.cn]
      gi_wp2_with (gi_at_builtin; go_loud (refine wpListIn_append_own_at _ rfl _ _ 41 rfl w.heap.size 25 j0 (.agg #[.int .u8 0, .slice none 0 0]) 2 32 Tryd.underlying41 HJ.out HY0.out HY1.out HY2.out rfl (by decide) (.slice pvv d.length cvv) d.length (modC d vs) rfl (HRow.out.alloc _) ⟨W.heap.size, 0, none⟩ 1 1 [.int .u8 m.c.toNat, .slice px nx cx] rfl rfl (two_new _ _ _ _) (by simp [Value.oneCell']) (by rw [HM.out]; omega) (by omega) (by simp; omega) ?_; intro v' w1 hown' hgrow hnil hat; obtain ⟨g', cap', rfl⟩ := ownsRow_succ hown'; obtain ⟨hv1, hv2, hr2, hk2, hb2⟩ := HBx.out.appended mods_ne_mod HRow.out hge (by omega) hown' hgrow; have hc2 := hv1.cell; have hf2 := hv1.frozen; have hl2 := hv1.lt; have HV1 := Lib.hid hv1; have HV2 := Lib.hid hv2; have HO2 := Lib.hid hown'; have HG2 := Lib.hid hgrow; have HK2 := Lib.hid hk2; have HB2 := Lib.hid hb2; have HAt := Lib.hid hat; clear hv1 hv2 hr2 hk2 hb2 hown' hgrow hnil hat))
      have h := HI.out
      have hg' := owns_lt HO2.out g' rfl
      refine ⟨HK2.out.from _, some g', ⟨HB2.out, ?_, ?_⟩, ⟨⟨_, d ++ [m], vs ++ [.slice px nx cx], HV2.out, rfl, ?_, ?_, ?_⟩, ?_, ?_, h.below.trans HB2.out⟩⟩
      · intro k o hk ho hkb hkr
        exact (Below.heap_setCell _ _ _ k hkb).trans ((HG2.out.block k (by have := lt_of_block hk; simp; omega) (by rw [HVr.out]; exact hkr)).trans (heap_alloc_old hk _))
      · rcases HAt.out with e | e
        · left; rw [← HVr.out]; exact e
        · right; intro g eg
          have e2 : some g' = some (W.heap.size + 1) := by simpa [Value.ownBlock] using e
          have := Option.some.inj (eg.symm.trans e2)
          omega
      · rw [List.map_append, List.map_append, HPre.out]; rfl
      · exact mod_box (mod_push (mod_turn HMF.out (World.grownBy_alloc W _ none) (fun j e => by cases e)) (HQo.out.alloc _) (owns_mono HO2.out hb0) HG2.out) HV1.out _
      · intro g eg
        cases eg; exact hg'.1
      · exact ((h.r1.alloc (.cells #[.int .u8 m.c.toNat, .slice px nx cx] 25)).kept HG2.out ((h.r1.alloc (.cells #[.int .u8 m.c.toNat, .slice px nx cx] 25)).not_row mods_ne_mod (HRow.out.alloc (.cells #[.int .u8 m.c.toNat, .slice px nx cx] 25)))).kept (grownBy_setCell' _ _ _) (by simp; omega)
      · exact ((h.r2.alloc (.cells #[.int .u8 m.c.toNat, .slice px nx cx] 25)).kept HG2.out ((h.r2.alloc (.cells #[.int .u8 m.c.toNat, .slice px nx cx] 25)).not_row err_ne_mod (HRow.out.alloc (.cells #[.int .u8 m.c.toNat, .slice px nx cx] 25)))).kept (grownBy_setCell' _ _ _) (by simp)
  case done =>
    rintro D r xs W hD hS hI hK
    obtain ⟨vv, d, vs, hbx, hvr, hpre, hmf, hrg⟩ := hI.own
    have hst : stepL l u = some d := by rw [← HSeq.out, ← hS, hpre, allO_some]
    obtain ⟨pvv, cvv, hvv⟩ := fr_slice hmf.row
    subst hvv
    have HI := Lib.hid hI
    have HMF := Lib.hid hmf
    have HK := Lib.hid hK
    have hD2 : w.heap.size ≤ D := Nat.le_trans hwz hD
    have hc := hbx.cell
    have c1 := hI.r1.cell
    have f1 := hI.r1.frozen
    have l1 := hI.r1.lt
    have c2 := hI.r2.cell
    have f2 := hI.r2.frozen
    have l2 := hI.r2.lt
    have HFin : Hid (∀ (x1 x2 : Value) (e : Ending), (∀ w', Below w.heap.size w w' → ModFr w' b0 (.slice pvv d.length cvv) d vs → SpEnd l u b0 w e w') → SpEnd l u b0 w e (((W.setCell ⟨w.heap.size, 0, none⟩ x1).setCell ⟨w.heap.size + 1, 0, none⟩ x2).putObj D (.deferred none))) := Lib.hid (fun x1 x2 e h => by
      have hb : Below w.heap.size w ((W.setCell ⟨w.heap.size, 0, none⟩ x1).setCell ⟨w.heap.size + 1, 0, none⟩ x2) := (hI.below.setCell (p := ⟨w.heap.size, 0, none⟩) (Nat.le_refl _) _).setCell (p := ⟨w.heap.size + 1, 0, none⟩) (Nat.le_succ _) _
      have hK' := ((KeepsOthers.setCell W ⟨w.heap.size, 0, none⟩ x1).trans (KeepsOthers.setCell _ ⟨w.heap.size + 1, 0, none⟩ x2)).same D _ hK rfl
      have hm1 := mod_box hmf hI.r1 x1
      have hr2 : Boxed (W.setCell ⟨w.heap.size, 0, none⟩ x1) (w.heap.size + 1) 36 (.int .i64 0) := hI.r2.kept (grownBy_setCell' _ _ _) (by simp)
      have hm2 : ModFr ((W.setCell ⟨w.heap.size, 0, none⟩ x1).setCell ⟨w.heap.size + 1, 0, none⟩ x2) b0 (.slice pvv d.length cvv) d vs :=
        ⟨hm1.len, own_box hm1.row hr2 err_ne_mod x2, fun k hk hk2 => ⟨own_box (hm1.args k hk hk2).own hr2 err_ne_int x2, (hm1.args k hk hk2).apart⟩⟩
      refine h _ (hb.trans (belowK_b (w := w) (Nat.le_refl _) _ D _ _ hD2 hK' rfl rfl)) (mod_turn hm2 (grownBy_putObj' _ D _) (fun j e => by cases e; exact ⟨_, hK', rfl⟩)))
    have HC1 : Hid (∀ x1 x2 : Value, (((W.setCell ⟨w.heap.size, 0, none⟩ x1).setCell ⟨w.heap.size + 1, 0, none⟩ x2).putObj D (.deferred none)).cell? ⟨w.heap.size, 0, none⟩ = some x1 ∧ (((W.setCell ⟨w.heap.size, 0, none⟩ x1).setCell ⟨w.heap.size + 1, 0, none⟩ x2).putObj D (.deferred none)).cell? ⟨w.heap.size + 1, 0, none⟩ = some x2 ∧ ((W.setCell ⟨w.heap.size, 0, none⟩ x1).setCell ⟨w.heap.size + 1, 0, none⟩ x2).heap[D]? = some (.deferred (some []))) := Lib.hid (fun x1 x2 => by
      have hK' := ((KeepsOthers.setCell W ⟨w.heap.size, 0, none⟩ x1).trans (KeepsOthers.setCell _ ⟨w.heap.size + 1, 0, none⟩ x2)).same D _ hK rfl
      have b1 : Boxed ((W.setCell ⟨w.heap.size, 0, none⟩ x1).setCell ⟨w.heap.size + 1, 0, none⟩ x2) w.heap.size 41 x1 := (hI.r1.set x1).kept (grownBy_setCell' _ _ _) (by simp)
      have b2 : Boxed ((W.setCell ⟨w.heap.size, 0, none⟩ x1).setCell ⟨w.heap.size + 1, 0, none⟩ x2) (w.heap.size + 1) 36 x2 := (hI.r2.kept (grownBy_setCell' _ _ _) (by simp)).set x2
      exact ⟨cell_kept b1.cell (grownBy_putObj' _ D (.deferred none)) (fun r e => by cases e; exact ⟨_, hK', rfl⟩), cell_kept b2.cell (grownBy_putObj' _ D (.deferred none)) (fun r e => by cases e; exact ⟨_, hK', rfl⟩), hK'⟩)
    have HD := Lib.hid hD
    clear hI hmf hbx hvr hpre hrg hS hD hK
    by_cases h2k : 2000 < d.length
    · have t1 : (2000 : Int) < (d.length : Int) := by omega
      have HE : Hid (spC l u = 4 ∧ spL l u = []) := Lib.hid (by unfold spC spL; rw [hst]; simp [h2k])
      clear hst
      gi_wp2_with fail
      obtain ⟨e1, e2, e3⟩ := HC1.out (.slice none 0 0) (.int .i64 4)
      refine ⟨by simp, .inl ⟨_, _, rfl, run_takeDeferred e3, ?_⟩⟩
      refine ⟨.tuple #[.slice none 0 0, .int .i64 4], by simp [results, Tryd.f19, go_sem, e1, e2], HFin.out _ _ _ (fun w' hb hm => ⟨_, [], by rw [HE.out.1], hb, by rw [HE.out.2]; exact modFr_nil _ _⟩)⟩
    · have t1 : ¬ (2000 : Int) < (d.length : Int) := by omega
      have HE : Hid (spC l u = 0 ∧ spL l u = d) := Lib.hid (by unfold spC spL; rw [hst]; simp; omega)
      clear hst
      gi_wp2_with fail
      obtain ⟨e1, e2, e3⟩ := HC1.out (.slice pvv d.length cvv) (.int .i64 0)
      refine ⟨by simp, .inl ⟨_, _, rfl, run_takeDeferred e3, ?_⟩⟩
      refine ⟨.tuple #[.slice pvv d.length cvv, .int .i64 0], by simp [results, Tryd.f19, go_sem, e1, e2], HFin.out _ _ _ (fun w' hb hm => ⟨_, vs, by rw [HE.out.1], hb, by rw [HE.out.2]; exact hm⟩)⟩
  case stop =>
    rintro D pre W hD hSp hI hK
    have hst : stepL l u = none := by rw [← HSeq.out]; exact allO_none (hSp.subset hI.bad)
    have HE : Hid (spC l u = 16 ∧ spL l u = []) := Lib.hid (by unfold spC spL; rw [hst]; simp)
    have HI := Lib.hid hI
    have HK := Lib.hid hK
    have hD2 : w.heap.size ≤ D := Nat.le_trans hwz hD
    have HD2 := Lib.hid hD2
    clear hI hK hSp hst hD hD2
    gi_wp2_with fail
    refine ⟨by simp, .inl ⟨_, _, rfl, run_takeDeferred HK.out, ?_⟩⟩
    have e1 := cell_kept HI.out.r1.cell (grownBy_putObj' _ D (.deferred none)) (fun r e => by cases e; exact ⟨_, HK.out, rfl⟩)
    have e2 := cell_kept HI.out.r2.cell (grownBy_putObj' _ D (.deferred none)) (fun r e => by cases e; exact ⟨_, HK.out, rfl⟩)
    exact ⟨.tuple #[.slice none 0 0, .int .i64 16], by simp [results, Tryd.f19, go_sem, e1, e2], _, [], by rw [HE.out.1], HI.out.below.trans (belowK_b (w := w) (Nat.le_refl _) _ D _ _ HD2.out HK.out rfl rfl), by rw [HE.out.2]; exact modFr_nil _ _⟩
end Go.Proofs.YtlmofdmbcddddaaDoor
namespace Go.Proofs.YtlmofdmbcddddaaDoor
open Go.RowKit
open WM RM
set_option linter.unusedVariables false
set_option linter.unusedSimpArgs false

/-- Is a shape, a rule too great? -/
def shG (s : Sh) : Bool := decide (10 < s.a.length) || s.a.any fun g => decide (10 < g.cs.length)
def rwG (r : Rw) : Bool := decide (10 < r.gs.length) || decide (30 < r.out.length) || r.gs.any (fun g => decide (10 < g.cs.length)) || r.out.any shG
theorem greatR_eq (l : List Rw) : greatR l = (decide (50 < l.length) || l.any rwG) := rfl
theorem greatR_len {l : List Rw} (h : 50 < l.length) : greatR l = true := by rw [greatR_eq]; simp [h]
theorem greatR_at {l : List Rw} {i : Nat} (hi : i < l.length) (h : rwG l[i] = true) : greatR l = true := by
  rw [greatR_eq, show l.any rwG = true from List.any_eq_true.2 ⟨_, List.getElem_mem hi, h⟩]; simp
theorem greatR_not {l : List Rw} (h1 : ¬ 50 < l.length) (h : ∀ i, (hi : i < l.length) → rwG l[i] = false) : greatR l = false := by
  have : l.any rwG = false := by
    rw [List.any_eq_false]
    intro x hx
    obtain ⟨j, hj, rfl⟩ := List.mem_iff_getElem.1 hx
    rw [h j hj]; decide
  rw [greatR_eq, this]; simpa using h1
theorem rwG_1 {r : Rw} (h : 10 < r.gs.length) : rwG r = true := by simp [rwG, h]
theorem rwG_2 {r : Rw} (h : 30 < r.out.length) : rwG r = true := by simp [rwG, h]
theorem rwG_3 {r : Rw} {k : Nat} (hk : k < r.gs.length) (h : 10 < r.gs[k].cs.length) : rwG r = true := by
  have : r.gs.any (fun g => decide (10 < g.cs.length)) = true := List.any_eq_true.2 ⟨_, List.getElem_mem hk, by simpa using h⟩
  unfold rwG; rw [this]; simp
theorem rwG_4 {r : Rw} {k : Nat} (hk : k < r.out.length) (h : shG r.out[k] = true) : rwG r = true := by
  have : r.out.any shG = true := List.any_eq_true.2 ⟨_, List.getElem_mem hk, h⟩
  unfold rwG; rw [this]; simp
theorem shG_1 {s : Sh} (h : 10 < s.a.length) : shG s = true := by simp [shG, h]
theorem shG_2 {s : Sh} {k : Nat} (hk : k < s.a.length) (h : 10 < s.a[k].cs.length) : shG s = true := by
  have : s.a.any (fun g => decide (10 < g.cs.length)) = true := List.any_eq_true.2 ⟨_, List.getElem_mem hk, by simpa using h⟩
  unfold shG; rw [this]; simp
theorem shG_no {s : Sh} (h1 : ¬ 10 < s.a.length) (h : ∀ k, (hk : k < s.a.length) → ¬ 10 < s.a[k].cs.length) : shG s = false := by
  have : s.a.any (fun g => decide (10 < g.cs.length)) = false := by
    rw [List.any_eq_false]
    intro x hx
    obtain ⟨j, hj, rfl⟩ := List.mem_iff_getElem.1 hx
    simpa using h j hj
  unfold shG; rw [this]; simpa using h1
theorem rwG_no {r : Rw} (h1 : ¬ 10 < r.gs.length) (h2 : ¬ 30 < r.out.length) (h3 : ∀ k, (hk : k < r.gs.length) → ¬ 10 < r.gs[k].cs.length) (h4 : ∀ k, (hk : k < r.out.length) → shG r.out[k] = false) : rwG r = false := by
  have a : r.gs.any (fun g => decide (10 < g.cs.length)) = false := by
    rw [List.any_eq_false]
    intro x hx
    obtain ⟨j, hj, rfl⟩ := List.mem_iff_getElem.1 hx
    simpa using h3 j hj
  have b : r.out.any shG = false := by
    rw [List.any_eq_false]
    intro x hx
    obtain ⟨j, hj, rfl⟩ := List.mem_iff_getElem.1 hx
    rw [h4 j hj]; decide
  unfold rwG; rw [a, b]; simp; omega
theorem upto_step {α : Prop} {n k : Nat} {P : Nat → Prop} (h : ∀ j, j < n → j < k → P j) (hk : P k) : ∀ j, j < n → j < k + 1 → P j := by
  intro j hj h2
  rcases Nat.lt_or_eq_of_le (Nat.le_of_lt_succ h2) with h3 | h3
  · exact h j hj h3
  · subst h3; exact hk
/-- Rules that are not great are small. -/
theorem greatR_sm {l : List Rw} (h : greatR l = false) : l.length ≤ 50 ∧ ∀ r ∈ l, RwSm r := by
  rw [greatR_eq, Bool.or_eq_false_iff] at h
  refine ⟨by simpa using h.1, fun r hr => ?_⟩
  have h2 := List.any_eq_false.1 h.2 r hr
  have h3 : rwG r = false := by simpa using h2
  unfold rwG at h3
  simp only [Bool.or_eq_false_iff, decide_eq_false_iff_not] at h3
  obtain ⟨⟨⟨a, b⟩, c⟩, d⟩ := h3
  refine ⟨by omega, by omega, fun f hf => ?_, fun s hs => ?_⟩
  · have := List.any_eq_false.1 c f hf
    simpa using this
  · have := List.any_eq_false.1 d s hs
    have h4 : shG s = false := by simpa using this
    unfold shG at h4
    simp only [Bool.or_eq_false_iff, decide_eq_false_iff_not] at h4
    refine ⟨by omega, fun f hf => ?_⟩
    have := List.any_eq_false.1 h4.2 f hf
    simpa using this
end Go.Proofs.YtlmofdmbcddddaaDoor
namespace Go.Proofs.YtlmofdmbcddddaaDoor
open Go.RowKit
open WM RM
set_option linter.unusedVariables false
set_option linter.unusedSimpArgs false

theorem st_chain {X Y Z : World} (h : Below X.heap.size X Y) (h2 : Below Y.heap.size Y Z) : Below X.heap.size X Z := h.trans (h2.mono h.size)
theorem st_keep2 {W w' : World} {b c : Nat} (h1 : b < W.heap.size) (h2 : c < W.heap.size) (hb : Below W.heap.size W w') : (∀ o, w'.cell? ⟨b, o, none⟩ = W.cell? ⟨b, o, none⟩) ∧ (∀ o, w'.cell? ⟨c, o, none⟩ = W.cell? ⟨c, o, none⟩) :=
  ⟨fun o => hb.cell (p := ⟨b, o, none⟩) h1, fun o => hb.cell (p := ⟨c, o, none⟩) h2⟩
theorem own_sl {w : World} {base n size : Nat} {e : TypeId} {v : Value} {xs : List Value} (h : w.ownsRow base e size v n xs) : ∃ p c, v = .slice p n c := by
  rcases h.2 with ⟨h1, h2⟩ | ⟨g, cap, cur, h1, _⟩
  · exact ⟨none, 0, by rw [h1, h2]⟩
  · exact ⟨_, _, h1⟩
theorem mods_at1 {w : World} {b off len cap c2 : Nat} {l : List Md} (h : Mods w (.slice (some ⟨b, off, none⟩) len cap) l) {k : Nat} (hk : k < l.length) : Mods w (.slice (some ⟨b, off + k * 2, none⟩) 1 c2) [l[k]] := by
  cases h with
  | none _ _ => simp at hk
  | some _ _ _ _ hpos hb hx =>
    refine .some b (off + k * 2) c2 [l[k]] (by simp) hb fun i hi => ?_
    have : i = 0 := by simp at hi; omega
    subst this
    obtain ⟨h1, v, h2, h3, h4⟩ := hx k hk
    exact ⟨by simpa using h1, v, by simpa using h2, h3, h4⟩
theorem modFr_of_own {w : World} {base : Nat} {v : Value} {l : List Md} {vs : List Value} (h : ModOwn w base v l vs) : ModFr w base v l vs :=
  ⟨h.len, h.row, fun k hk hk2 => ⟨(h.args k hk hk2).own, .inr (h.args k hk hk2).apart⟩⟩
theorem stepL_snoc {l : List Rw} {w : List Md} {k : Nat} (hk : k < w.length) {d : List Md} (h : stepL l (w.take k) = some d) : stepL l (w.take (k + 1)) = (succM l w[k]).map (d ++ ·) := by
  rw [List.take_succ_eq_append_getElem hk, stepL_app, h, stepL_one]
  cases succM l w[k] <;> rfl
theorem stepL_stop {l : List Rw} {w : List Md} {k : Nat} (hk : k < w.length) {d : List Md} (h : stepL l (w.take k) = some d) (hn : succM l w[k] = none) : stepL l w = none := by
  have h1 : stepL l (w.take (k + 1)) = none := by rw [stepL_snoc hk h, hn]; rfl
  have e : w = w.take (k + 1) ++ w.drop (k + 1) := (List.take_append_drop _ _).symm
  rw [e, stepL_app, h1]
theorem succ_self {l : List Rw} {m : Md} (h : first l m < 0) : succM l m = some [m] := by unfold succM; rw [dif_neg (by omega)]
theorem succ_made {l : List Rw} {m : Md} {k : Nat} (h : first l m = (k : Int)) (hk : k < l.length) : succM l m = made l[k] m := by
  unfold succM
  rw [dif_pos (by omega)]
  have : (first l m).toNat = k := by omega
  rw [this, List.getElem?_eq_getElem hk]
theorem first_fit {l : List Rw} {m : Md} : ∀ {k : Nat}, first l m = (k : Int) → ∃ hk : k < l.length, fitB l[k] m = true := by
  have key : ∀ (l : List Rw) (i : Int) (k : Nat), firstF l m i = i + k → 0 ≤ i → ∃ hk : k < l.length, fitB l[k] m = true := by
    intro l
    induction l with
    | nil => intro i k h h0; simp [firstF] at h; omega
    | cons r l ih =>
      intro i k h h0
      unfold firstF at h
      by_cases hf : fitB r m = true
      · rw [if_pos hf] at h
        obtain rfl : k = 0 := by omega
        exact ⟨by simp, hf⟩
      · rw [if_neg hf] at h
        cases k with
        | zero =>
          exfalso
          rcases firstF_rng l m (i + 1) with h2 | ⟨h2, _⟩
          · omega
          · omega
        | succ k =>
          obtain ⟨hk, h3⟩ := ih (i + 1) k (by omega) (by omega)
          exact ⟨by simp; omega, by simpa using h3⟩
  intro k h
  exact key l 0 k (by unfold first at h; omega) (by omega)
theorem fit_ar {r : Rw} {m : Md} (h : fitB r m = true) : r.ar = (m.a.length : Int) := by
  unfold fitB at h
  simp only [Bool.and_eq_true, decide_eq_true_eq] at h
  exact h.1.2
theorem rule_forms {r : Rw} (h : ruleB r = true) : ∀ s ∈ r.out, ∀ f ∈ s.a, formB f r.ar = true := by
  unfold ruleB at h
  simp only [Bool.and_eq_true] at h
  intro s hs f hf
  have h1 := List.all_eq_true.1 h.1.2 s hs
  unfold shB at h1
  simp only [Bool.and_eq_true] at h1
  exact List.all_eq_true.1 h1.2 f hf
theorem chk_fine1 {l : List Md} (h : chk l = 0) {k : Nat} (hk : k < l.length) : fineB l[k] = true := List.all_eq_true.1 (chk_zero.1 h).2.1 _ (List.getElem_mem hk)
theorem st_rules {l : List Rw} {w : List Md} (h : rchk l ≠ 0) : stC l w = rchk l ∧ stL l w = [] := by
  have e : stC l w = rchk l := by unfold stC; rw [if_pos h]
  exact ⟨e, by unfold stL; rw [e, if_neg h]⟩
theorem st_word {l : List Rw} {w : List Md} (h : rchk l = 0) (h2 : chk w ≠ 0) : stC l w = chk w ∧ stL l w = [] := by
  have e : stC l w = chk w := by unfold stC; rw [if_neg (by simp [h]), if_pos h2]
  exact ⟨e, by unfold stL; rw [e, if_neg h2]⟩
theorem st_none {l : List Rw} {w : List Md} (h : rchk l = 0) (h2 : chk w = 0) (h3 : stepL l w = none) : stC l w = 16 ∧ stL l w = [] := by
  have e : stC l w = 16 := by unfold stC; rw [if_neg (by simp [h]), if_neg (by simp [h2]), h3]
  exact ⟨e, by unfold stL; rw [e]; rfl⟩
theorem st_many {l : List Rw} {w d : List Md} (h : rchk l = 0) (h2 : chk w = 0) (h3 : stepL l w = some d) (h4 : 2000 < d.length) : stC l w = 4 ∧ stL l w = [] := by
  have e : stC l w = 4 := by unfold stC; rw [if_neg (by simp [h]), if_neg (by simp [h2]), h3]; simp [h4]
  exact ⟨e, by unfold stL; rw [e]; rfl⟩
theorem st_ok {l : List Rw} {w d : List Md} (h : rchk l = 0) (h2 : chk w = 0) (h3 : stepL l w = some d) (h4 : ¬ 2000 < d.length) : stC l w = 0 ∧ stL l w = d := by
  have e : stC l w = 0 := by unfold stC; rw [if_neg (by simp [h]), if_neg (by simp [h2]), h3]; simp; omega
  exact ⟨e, by unfold stL; rw [e, h3]; rfl⟩
/-- How Step ends. -/
def RsEnd (l : List Rw) (wd : List Md) (w : World) (e : Ending) (w' : World) : Prop := ∃ v vs, e = .returned (.tuple #[v, .int .i64 (stC l wd)]) ∧ Below w.heap.size w w' ∧ ModFr w' w.heap.size v (stL l wd) vs
/-- Where the loop stands. -/
structure SAt (w : World) (l : List Rw) (wd : List Md) (k : Nat) (v : Value) (wr : World) : Prop where
  hi : k ≤ wd.length
  below : Below w.heap.size w wr
  own : ∃ d vs, stepL l (wd.take k) = some d ∧ d.length ≤ 20 * k ∧ ModFr wr w.heap.size v d vs
theorem sAt_start (w : World) (l : List Rw) (wd : List Md) : SAt w l wd 0 (.slice none 0 0) w := ⟨Nat.zero_le _, Below.refl _ _, [], [], rfl, by simp, modFr_nil _ _⟩
end Go.Proofs.YtlmofdmbcddddaaDoor
namespace Go.Proofs.YtlmofdmbcddddaaDoor
open Go.RowKit
open WM RM
set_option linter.unusedVariables false
set_option linter.unusedSimpArgs false

theorem succ_args {l : List Rw} (hs : ∀ r ∈ l, RwSm r) {m : Md} (hm : m.a.length ≤ 10) {d : List Md} (h : succM l m = some d) : ∀ x ∈ d, x.a.length ≤ 10 := by
  unfold succM at h
  split at h
  · split at h
    · rename_i r hr
      unfold made at h
      split at h
      · have := Option.some.inj h
        subst this
        intro x hx
        rw [List.mem_map] at hx
        obtain ⟨s, hs2, rfl⟩ := hx
        have := ((hs r (List.mem_of_getElem? hr)).2.2.2 s hs2).1
        simpa [mkM] using this
      · simp at h
    · simp at h
  · have := Option.some.inj h
    subst this
    intro x hx
    rw [List.mem_singleton] at hx
    subst hx; exact hm
theorem stepL_args {l : List Rw} (hs : ∀ r ∈ l, RwSm r) : ∀ (w : List Md) (d : List Md), (∀ m ∈ w, m.a.length ≤ 10) → stepL l w = some d → ∀ x ∈ d, x.a.length ≤ 10
  | [], d, _, h => by simp [stepL] at h; subst h; simp
  | m :: w, d, hw, h => by
    simp only [stepL] at h
    cases h1 : succM l m with
    | none => rw [h1] at h; simp at h
    | some a =>
      cases h2 : stepL l w with
      | none => rw [h1, h2] at h; simp at h
      | some b =>
        rw [h1, h2] at h
        have := Option.some.inj h
        subst this
        intro x hx
        rcases List.mem_append.1 hx with h3 | h3
        · exact succ_args hs (hw m (by simp)) h1 x h3
        · exact stepL_args hs w b (fun y hy => hw y (by simp [hy])) h2 x h3
theorem stL_small {l : List Rw} (hs : ∀ r ∈ l, RwSm r) {w : List Md} (hw : ∀ m ∈ w, m.a.length ≤ 10) : (stL l w).length ≤ 2000 ∧ ∀ m ∈ stL l w, m.a.length ≤ 10 := by
  unfold stL
  by_cases h : stC l w = 0
  · rw [if_pos h]
    cases hd : stepL l w with
    | none => simp
    | some d =>
      refine ⟨?_, stepL_args hs w d hw hd⟩
      unfold stC at h
      rw [hd] at h
      by_cases h1 : rchk l = 0
      · by_cases h2 : chk w = 0
        · simp only [h1, h2, ne_eq, not_true_eq_false, if_false] at h
          show d.length ≤ 2000
          split at h
          · omega
          · omega
        · rw [if_neg (by simp [h1]), if_pos h2] at h; exact absurd h h2
      · rw [if_pos h1] at h; exact absurd h h1
  · rw [if_neg h]; simp
theorem ru_rules {l : List Rw} {w : List Md} {n : Int} (h : rchk l ≠ 0) : ruC l w n = rchk l ∧ ruL l w n = [] := by
  have e : ruC l w n = rchk l := by unfold ruC; rw [if_pos h]
  exact ⟨e, by unfold ruL; rw [e, if_neg h]⟩
theorem ru_word {l : List Rw} {w : List Md} {n : Int} (h : rchk l = 0) (h2 : chk w ≠ 0) : ruC l w n = chk w ∧ ruL l w n = [] := by
  have e : ruC l w n = chk w := by unfold ruC; rw [if_neg (by simp [h]), if_pos h2]
  exact ⟨e, by unfold ruL; rw [e, if_neg h2]⟩
theorem ru_arg {l : List Rw} {w : List Md} {n : Int} (h : rchk l = 0) (h2 : chk w = 0) (h3 : n < 0 ∨ 30 < n) : ruC l w n = 2 ∧ ruL l w n = [] := by
  have e : ruC l w n = 2 := by unfold ruC; rw [if_neg (by simp [h]), if_neg (by simp [h2]), if_pos h3]
  exact ⟨e, by unfold ruL; rw [e]; rfl⟩
theorem ru_run {l : List Rw} {w : List Md} {n : Int} (h : rchk l = 0) (h2 : chk w = 0) (h3 : ¬ (n < 0 ∨ 30 < n)) {c : Int} {u : List Md} (hr : runF l n.toNat w = (c, u)) : ruC l w n = c ∧ ruL l w n = if c = 0 then u else [] := by
  have e : ruC l w n = c := by unfold ruC; rw [if_neg (by simp [h]), if_neg (by simp [h2]), if_neg h3, hr]
  exact ⟨e, by unfold ruL; rw [e, hr]⟩
theorem run_ok {l : List Rw} {u : List Md} {n : Nat} (h : stC l u = 0) : runF l (n + 1) u = runF l n (stL l u) := by rw [runF, if_neg (by simp [h])]
theorem run_no {l : List Rw} {u : List Md} {n : Nat} (h : stC l u ≠ 0) : runF l (n + 1) u = (stC l u, []) := by rw [runF, if_pos h]
theorem own_sl3 {w : World} {base n size : Nat} {e : TypeId} {v : Value} {xs : List Value} (h : w.ownsRow base e size v n xs) : ∃ p c, v = .slice p n c ∧ n ≤ c := by
  rcases h.2 with ⟨h1, h2⟩ | ⟨g, cap, cur, h1, _, _, h3, _⟩
  · exact ⟨none, 0, by rw [h1, h2], by omega⟩
  · exact ⟨_, _, h1, h3⟩
/-- How Run ends. -/
def RuEnd (l : List Rw) (wd : List Md) (n : Int) (w : World) (e : Ending) (w' : World) : Prop := ∃ v vs, e = .returned (.tuple #[v, .int .i64 (ruC l wd n)]) ∧ Below w.heap.size w w' ∧ ModFr w' w.heap.size v (ruL l wd n) vs
/-- Where the loop stands. -/
structure RnAt (w : World) (l : List Rw) (wd : List Md) (n i : Nat) (u : List Md) (v : Value) (wr : World) : Prop where
  hi : i ≤ n
  below : Below w.heap.size w wr
  own : ∃ vs, ModFr wr w.heap.size v u vs
  len : u.length ≤ 2100
  args : ∀ m ∈ u, m.a.length ≤ 10
  eq : runF l n wd = runF l (n - i) u
end Go.Proofs.YtlmofdmbcddddaaDoor
namespace Go.Proofs.YtlmofdmbcddddaaDoor
open WM
set_option linter.unusedVariables false
set_option linter.unusedSimpArgs false
namespace RM
theorem rule_nob {r : Rw} (h : ruleB r = true) : braB r.c = false := by
  unfold ruleB at h
  simp only [Bool.and_eq_true] at h
  simpa using h.1.1.1.1.1.2
theorem rule_chk {r : Rw} (h : ruleB r = true) : chk (r.out.map shM) = 0 := by
  unfold ruleB at h
  simp only [Bool.and_eq_true, decide_eq_true_eq] at h
  exact h.2
theorem rule_shs {r : Rw} (h : ruleB r = true) : ∀ s ∈ r.out, fineB (shM s) = true := by
  unfold ruleB at h
  simp only [Bool.and_eq_true] at h
  intro s hs
  have h1 := List.all_eq_true.1 h.1.2 s hs
  unfold shB at h1
  simp only [Bool.and_eq_true] at h1
  exact h1.1
theorem mk_c (x : List Int) (s : Sh) : (mkM s x).c = (shM s).c := rfl
theorem mk_fine {s : Sh} {x : List Int} (h : fineB (shM s) = true) (hb : mkB s x = true) : fineB (mkM s x) = true := by
  have e : shM s = zerM s.c s.a.length := rfl
  rw [e, fine_zer] at h
  simp only [Bool.and_eq_true, decide_eq_true_eq] at h
  obtain ⟨⟨h1, h2⟩, h3⟩ := h
  have hr : rngB (mkM s x).a = true := by
    unfold rngB mkM
    rw [List.all_map]
    unfold mkB at hb
    rw [List.all_eq_true] at hb ⊢
    intro f hf
    exact hb f hf
  have hl : (mkM s x).a.length = s.a.length := by simp [mkM]
  unfold fineB
  rw [hr, hl]
  have hc : (mkM s x).c = s.c := rfl
  rw [hc, h1]
  simp only [h2, decide_true, Bool.true_and, Bool.and_true]
  exact h3
/-- What holds of a module's successor. -/
structure SucOk (m : Md) (a : List Md) : Prop where
  fine : ∀ x ∈ a, fineB x = true
  dp : dep a = dlt m
  pre : ∀ j, j ≤ a.length → dep (a.take j) = dlt m ∨ 0 ≤ dep (a.take j)
theorem pre_ok {l : List Md} (h : okB l l.length = true) (j : Nat) (hj : j ≤ l.length) : 0 ≤ dep (l.take j) := by
  cases j with
  | zero => simp [dep_nil]
  | succ j => exact okB_iff.1 h j (by omega)
theorem dlt_nob {m : Md} (h : braB m.c = false) : dlt m = 0 := by
  unfold braB at h
  rw [Bool.or_eq_false_iff] at h
  have h1 : m.c ≠ 91 := by simpa using h.1
  have h2 : m.c ≠ 93 := by simpa using h.2
  unfold dlt; rw [if_neg h1, if_neg h2]
theorem first_fits {l : List Rw} {m : Md} : ∀ {k : Nat}, first l m = (k : Int) → ∃ hk : k < l.length, fitB l[k] m = true := by
  have key : ∀ (l : List Rw) (i : Int) (k : Nat), firstF l m i = i + k → 0 ≤ i → ∃ hk : k < l.length, fitB l[k] m = true := by
    intro l
    induction l with
    | nil => intro i k h h0; simp [firstF] at h; omega
    | cons r l ih =>
      intro i k h h0
      unfold firstF at h
      by_cases hf : fitB r m = true
      · rw [if_pos hf] at h
        obtain rfl : k = 0 := by omega
        exact ⟨by simp, hf⟩
      · rw [if_neg hf] at h
        cases k with
        | zero =>
          exfalso
          rcases firstF_rng l m (i + 1) with h2 | ⟨h2, _⟩
          · omega
          · omega
        | succ k =>
          obtain ⟨hk, h3⟩ := ih (i + 1) k (by omega) (by omega)
          exact ⟨by simp; omega, by simpa using h3⟩
  intro k h
  exact key l 0 k (by unfold first at h; omega) (by omega)
theorem suc_ok {l : List Rw} (hl : ∀ r ∈ l, ruleB r = true) {m : Md} (hm : fineB m = true) {a : List Md} (h : succM l m = some a) : SucOk m a := by
  by_cases hz : 0 ≤ first l m
  · obtain ⟨k, hk⟩ : ∃ k : Nat, first l m = (k : Int) := ⟨(first l m).toNat, by omega⟩
    obtain ⟨hkl, hfit⟩ := first_fits hk
    have hs : succM l m = made l[k] m := by
      unfold succM
      rw [dif_pos hz]
      have : (first l m).toNat = k := by omega
      rw [this, List.getElem?_eq_getElem hkl]
    rw [hs] at h
    have hr := hl _ (List.getElem_mem hkl)
    generalize l[k] = r at h hr hfit
    unfold made at h
    split at h
    · rename_i hall
      have ha := (Option.some.inj h).symm
      subst ha
      have hc : braB m.c = false := by
        have : r.c = m.c := by
          unfold fitB at hfit
          simp only [Bool.and_eq_true] at hfit
          simpa using hfit.1.1
        rw [← this]; exact rule_nob hr
      have hd := dlt_nob hc
      obtain ⟨-, -, h3, h4⟩ := chk_zero.1 (rule_chk hr)
      rw [List.length_map] at h3
      have e1 : dep (r.out.map (mkM · m.a)) = 0 := by rw [dep_map (mkM · m.a) shM (fun s => rfl)]; exact h4
      refine ⟨?_, by rw [e1, hd], fun j hj => .inr ?_⟩
      · intro x hx
        obtain ⟨s, hs2, rfl⟩ := List.mem_map.1 hx
        exact mk_fine (rule_shs hr s hs2) (List.all_eq_true.1 hall s hs2)
      · refine pre_ok ?_ j hj
        rw [List.length_map, ok_map (mkM · m.a) shM (fun s => rfl)]
        exact h3
    · simp at h
  · have hs : succM l m = some [m] := by unfold succM; rw [dif_neg hz]
    rw [hs] at h
    have ha := (Option.some.inj h).symm
    subst ha
    refine ⟨by simpa using hm, dep_one m, fun j hj => ?_⟩
    match j, hj with
    | 0, _ => right; simp [dep_nil]
    | 1, _ => left; exact dep_one m
theorem step_fine {l : List Rw} (hl : ∀ r ∈ l, ruleB r = true) : ∀ (u d : List Md), (∀ m ∈ u, fineB m = true) → stepL l u = some d → (∀ x ∈ d, fineB x = true) ∧ dep d = dep u ∧ ∀ c : Int, (∀ j, j ≤ u.length → 0 ≤ c + dep (u.take j)) → ∀ j, j ≤ d.length → 0 ≤ c + dep (d.take j)
  | [], d, _, h => by
    simp only [stepL, Option.some.injEq] at h
    subst h
    exact ⟨by simp, rfl, fun c hc j hj => by simp at hj; subst hj; simpa using hc 0 (by simp)⟩
  | m :: u, d, hu, h => by
    simp only [stepL] at h
    cases h1 : succM l m with
    | none => rw [h1] at h; simp at h
    | some a =>
      cases h2 : stepL l u with
      | none => rw [h1, h2] at h; simp at h
      | some b =>
        rw [h1, h2] at h
        have hd := (Option.some.inj h).symm
        subst hd
        have A := suc_ok hl (hu m (by simp)) h1
        obtain ⟨B1, B2, B3⟩ := step_fine hl u b (fun x hx => hu x (by simp [hx])) h2
        refine ⟨fun x hx => ?_, by rw [dep_app, A.dp, B2, dep_cons], fun c hc j hj => ?_⟩
        · rcases List.mem_append.1 hx with h3 | h3
          · exact A.fine x h3
          · exact B1 x h3
        · have c0 := hc 0 (by simp)
          have c1 := hc 1 (by simp)
          simp only [List.take_zero, dep_nil, List.take_succ_cons, dep_cons] at c0 c1
          by_cases hja : j ≤ a.length
          · rw [List.take_append_of_le_length hja]
            rcases A.pre j hja with e | e <;> omega
          · have e : (a ++ b).take j = a ++ b.take (j - a.length) := by
              rw [List.take_append, List.take_of_length_le (by omega)]
            rw [e, dep_app, A.dp]
            have := B3 (c + dlt m) (fun i hi => by
              have := hc (i + 1) (by simp; omega)
              rw [List.take_succ_cons, dep_cons] at this
              omega) (j - a.length) (by rw [List.length_append] at hj; omega)
            omega
theorem step_chk {l : List Rw} (hl : ∀ r ∈ l, ruleB r = true) {u d : List Md} (hu : chk u = 0) (h : stepL l u = some d) (hd : d.length ≤ 2000) : chk d = 0 := by
  obtain ⟨_, h2, h3, h4⟩ := chk_zero.1 hu
  obtain ⟨a1, a2, a3⟩ := step_fine hl u d (fun m hm => List.all_eq_true.1 h2 m hm) h
  refine chk_zero.2 ⟨hd, List.all_eq_true.2 a1, okB_iff.2 fun i hi => ?_, by rw [a2, h4]⟩
  have := a3 0 (fun j hj => by have := pre_ok h3 j hj; omega) (i + 1) (by omega)
  omega
/-- step's error and word are Step's, of valid rules and a valid word. -/
theorem st_valid {l : List Rw} (hl : rchk l = 0) {u : List Md} (hu : chk u = 0) : stC l u = (match stepL l u with | none => 16 | some d => if 2000 < d.length then 4 else 0) ∧ stL l u = (match stepL l u with | none => [] | some d => if 2000 < d.length then [] else d) := by
  cases hs : stepL l u with
  | none => exact st_none hl hu hs
  | some d =>
    by_cases h : 2000 < d.length
    · have := st_many hl hu hs h
      simpa [h] using this
    · have := st_ok hl hu hs h
      simpa [h] using this
theorem stL_chk {l : List Rw} (hl : rchk l = 0) {u : List Md} (hu : chk u = 0) : chk (stL l u) = 0 := by
  have hr := (rchk_zero hl).2
  rw [(st_valid hl hu).2]
  cases hs : stepL l u with
  | none => decide
  | some d =>
    show chk (if 2000 < d.length then [] else d) = 0
    split
    · decide
    · exact step_chk (fun r h => (hr r h).1) hu hs (by omega)
end RM
end Go.Proofs.YtlmofdmbcddddaaDoor
